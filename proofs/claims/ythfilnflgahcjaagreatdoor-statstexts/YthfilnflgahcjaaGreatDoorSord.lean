/- Comparing rows: strict orders. -/
import Derived.Test.YthfilnflgahcjaaGreatDoorJoin28
namespace Go.Proofs.YthfilnflgahcjaaGreatDoor.Cm
open Go.RowKit Go.Shelf Go.Sort
set_option linter.unusedVariables false
def cmpI (a b : Int) : Int := if a < b then -1 else if b < a then 1 else 0
/-- -1, 0 or 1. -/
def Three (x : Int) : Prop := x = -1 ∨ x = 0 ∨ x = 1
/-- How three comparisons go together: of the first and the second, the second and the third, the first and the third. -/
def Leads (x y z : Int) : Prop := (x = 0 → z = y) ∧ (y = 0 → z = x) ∧ (x = y → z = x)

theorem lex_three {x y : Int} (h1 : Three x) (h2 : x = 0 → Three y) : Three (if x = 0 then y else x) := by
  split
  · exact h2 ‹_›
  · exact h1
theorem lex_leads {x1 x2 x3 y1 y2 y3 : Int} (r1 : Three x1) (r2 : Three x2) (r3 : Three x3) (hx : Leads x1 x2 x3) (hy : x1 = 0 → x2 = 0 → Three y1 ∧ Three y2 ∧ Three y3 ∧ Leads y1 y2 y3) :
    Leads (if x1 = 0 then y1 else x1) (if x2 = 0 then y2 else x2) (if x3 = 0 then y3 else x3) := by
  unfold Three Leads at *
  by_cases h1 : x1 = 0
  · by_cases h2 : x2 = 0
    · obtain ⟨a, b, c, d⟩ := hy h1 h2
      have h3 : x3 = 0 := by omega
      rw [if_pos h1, if_pos h2, if_pos h3]; exact d
    · have h3 : x3 ≠ 0 := by omega
      rw [if_pos h1, if_neg h2, if_neg h3]
      have : x3 = x2 := hx.1 h1
      refine ⟨fun _ => this, fun e => absurd e h2, fun e => ?_⟩
      omega
  · by_cases h2 : x2 = 0
    · have h3 : x3 ≠ 0 := by omega
      rw [if_neg h1, if_pos h2, if_neg h3]
      have : x3 = x1 := hx.2.1 h2
      refine ⟨fun e => absurd e h1, fun _ => this, fun e => ?_⟩
      omega
    · rw [if_neg h1, if_neg h2]
      refine ⟨fun e => absurd e h1, fun e => absurd e h2, fun e => ?_⟩
      have : x3 = x1 := hx.2.2 e
      rw [if_neg (by omega)]; exact this

theorem cmpI_three (a b : Int) : Three (cmpI a b) := by unfold cmpI Three; split <;> (try split) <;> omega
theorem cmpI_turn (a b : Int) : cmpI b a = -cmpI a b := by unfold cmpI; split <;> split <;> (try split) <;> (try split) <;> omega
theorem cmpI_leads (a b c : Int) : Leads (cmpI a b) (cmpI b c) (cmpI a c) := by
  unfold cmpI Leads
  rcases Int.lt_trichotomy a b with h | h | h <;> rcases Int.lt_trichotomy b c with g | g | g <;> rcases Int.lt_trichotomy a c with e | e | e <;> simp_all <;> omega

theorem cmpB_eq (a b : UInt8) (r t : List UInt8) : Lib.compareBytes (a :: r) (b :: t) = if cmpI a.toNat b.toNat = 0 then Lib.compareBytes r t else cmpI a.toNat b.toNat := by
  rw [Lib.compareBytes]
  by_cases h1 : a < b
  · have h : a.toNat < b.toNat := h1
    have : cmpI a.toNat b.toNat = -1 := by unfold cmpI; rw [if_pos (by omega)]
    rw [if_pos h1, this]; rfl
  · have h : ¬ a.toNat < b.toNat := h1
    by_cases h2 : b < a
    · have g : b.toNat < a.toNat := h2
      have : cmpI a.toNat b.toNat = 1 := by unfold cmpI; rw [if_neg (by omega), if_pos (by omega)]
      rw [if_neg h1, if_pos h2, this]; rfl
    · have g : ¬ b.toNat < a.toNat := h2
      have : cmpI a.toNat b.toNat = 0 := by unfold cmpI; rw [if_neg (by omega), if_neg (by omega)]
      rw [if_neg h1, if_neg h2, this]; rfl
theorem cmpB_three : ∀ (a b : List UInt8), Three (Lib.compareBytes a b)
  | [], [] => .inr (.inl rfl)
  | [], _ :: _ => .inl rfl
  | _ :: _, [] => .inr (.inr rfl)
  | a :: r, b :: t => by rw [cmpB_eq]; exact lex_three (cmpI_three _ _) fun _ => cmpB_three r t
theorem cmpB_turn : ∀ (a b : List UInt8), Lib.compareBytes b a = -Lib.compareBytes a b
  | [], [] => rfl
  | [], _ :: _ => rfl
  | _ :: _, [] => rfl
  | a :: r, b :: t => by
    rw [cmpB_eq, cmpB_eq, cmpI_turn, cmpB_turn r t]
    by_cases h : cmpI (a.toNat : Int) b.toNat = 0
    · rw [if_pos (by omega), if_pos h]
    · rw [if_neg (by omega), if_neg h]
theorem leads_ends (x y : Int) (h1 : Three x) (h2 : Three y) : Leads 0 0 0 ∧ Leads (-1) x (-1) ∧ True := ⟨⟨fun _ => rfl, fun _ => rfl, fun _ => rfl⟩, ⟨fun h => by omega, fun _ => rfl, fun _ => rfl⟩, trivial⟩
theorem cmpB_leads : ∀ (a b c : List UInt8), Leads (Lib.compareBytes a b) (Lib.compareBytes b c) (Lib.compareBytes a c)
  | [], [], [] => ⟨fun _ => rfl, fun _ => rfl, fun _ => rfl⟩
  | [], [], _ :: _ => ⟨fun _ => rfl, fun h => by simp [Lib.compareBytes] at h, fun h => by simp [Lib.compareBytes] at h⟩
  | [], _ :: _, [] => ⟨fun h => by simp [Lib.compareBytes] at h, fun h => by simp [Lib.compareBytes] at h, fun h => by simp [Lib.compareBytes] at h⟩
  | _ :: _, [], [] => ⟨fun h => by simp [Lib.compareBytes] at h, fun _ => rfl, fun h => by simp [Lib.compareBytes] at h⟩
  | [], b :: t, c :: u => ⟨fun h => by simp [Lib.compareBytes] at h, fun _ => rfl, fun _ => rfl⟩
  | a :: r, [], c :: u => ⟨fun h => by simp [Lib.compareBytes] at h, fun h => by simp [Lib.compareBytes] at h, fun h => by simp [Lib.compareBytes] at h⟩
  | a :: r, b :: t, [] => by
    have h3 := cmpB_three (a :: r) (b :: t)
    refine ⟨fun _ => rfl, fun h => by simp [Lib.compareBytes] at h, fun h => ?_⟩
    have : Lib.compareBytes (b :: t) [] = 1 := rfl
    rw [this] at h
    rw [h]; rfl
  | a :: r, b :: t, c :: u => by
    rw [cmpB_eq, cmpB_eq, cmpB_eq]
    exact lex_leads (cmpI_three _ _) (cmpI_three _ _) (cmpI_three _ _) (cmpI_leads _ _ _) fun _ _ => ⟨cmpB_three r t, cmpB_three t u, cmpB_three r u, cmpB_leads r t u⟩

/-- A comparison as it should be. -/
def GoodC {α : Type} (cf : α → α → Int) : Prop := (∀ x y, Three (cf x y)) ∧ (∀ x y, cf y x = -cf x y) ∧ ∀ x y z, Leads (cf x y) (cf y z) (cf x z)
theorem good_lex {α : Type} {f g : α → α → Int} (hf : GoodC f) (hg : GoodC g) : GoodC (fun x y => if f x y = 0 then g x y else f x y) := by
  obtain ⟨f1, f2, f3⟩ := hf
  obtain ⟨g1, g2, g3⟩ := hg
  refine ⟨fun x y => lex_three (f1 x y) fun _ => g1 x y, fun x y => ?_, fun x y z => lex_leads (f1 _ _) (f1 _ _) (f1 _ _) (f3 x y z) fun _ _ => ⟨g1 _ _, g1 _ _, g1 _ _, g3 x y z⟩⟩
  have := f2 x y
  by_cases h : f x y = 0
  · simp only [h, if_true]; rw [if_pos (by omega)]; exact g2 x y
  · simp only [h, if_false]; rw [if_neg (by omega)]; exact this
theorem good_swo {α : Type} {f : α → α → Int} (hf : GoodC f) : SWO (ltOf f) := by
  obtain ⟨f1, f2, f3⟩ := hf
  unfold Three Leads at *
  refine ⟨fun x => ?_, fun x y z h1 h2 => ?_, fun x y z h1 h2 => ?_⟩
  · have := f2 x x; simp only [ltOf, decide_eq_false_iff_not]; omega
  · simp only [ltOf, decide_eq_true_eq] at *
    have := f1 x y; have := f1 y z; have := f3 x y z; omega
  · simp only [ltOf, decide_eq_false_iff_not] at *
    have := f1 x y; have := f1 y z; have := f1 x z; have := f3 x y z; omega
theorem good_bytes {α : Type} (k : α → ByteArray) : GoodC (fun x y => cmpB (k x) (k y)) := ⟨fun x y => cmpB_three _ _, fun x y => cmpB_turn _ _, fun x y z => cmpB_leads _ _ _⟩
theorem bool_three : ∀ a b : Bool, cmpT a b = -1 ∨ cmpT a b = 0 ∨ cmpT a b = 1 := by decide
theorem bool_turn : ∀ a b : Bool, cmpT b a = -cmpT a b := by decide
theorem bool_leads : ∀ a b c : Bool, (cmpT a b = 0 → cmpT a c = cmpT b c) ∧ (cmpT b c = 0 → cmpT a c = cmpT a b) ∧ (cmpT a b = cmpT b c → cmpT a c = cmpT a b) := by decide
theorem good_bool {α : Type} (k : α → Bool) : GoodC (fun x y => cmpT (k x) (k y)) := ⟨fun x y => bool_three _ _, fun x y => bool_turn _ _, fun x y z => bool_leads _ _ _⟩
end Go.Proofs.YthfilnflgahcjaaGreatDoor.Cm
namespace Go.Proofs.YthfilnflgahcjaaGreatDoor
open Go.RowKit Go.Shelf Go.Sort Cm
theorem goodE : GoodC cfE := by
  have h := good_lex (good_bytes (fun x : EndR => x.1)) (good_lex (good_bytes (fun x : EndR => x.2.1)) (good_bool (fun x : EndR => x.2.2.1)))
  have e : cfE = fun x y : EndR => if cmpB x.1 y.1 = 0 then (if cmpB x.2.1 y.2.1 = 0 then cmpT x.2.2.1 y.2.2.1 else cmpB x.2.1 y.2.1) else cmpB x.1 y.1 := by
    funext x y
    simp only [cfE, orI]
    split
    · split
      · split
        · rename_i h; exact h.symm
        · rfl
      · rfl
    · rfl
  rw [e]; exact h
theorem goodK : GoodC cfK := by
  have h := good_lex (good_bytes (fun x : KeyR => x.1)) (good_bytes (fun x : KeyR => x.2.1))
  have e : cfK = fun x y : KeyR => if cmpB x.1 y.1 = 0 then cmpB x.2.1 y.2.1 else cmpB x.1 y.1 := by
    funext x y
    simp only [cfK, orI]
    split
    · split
      · rename_i h; exact h.symm
      · rfl
    · rfl
  rw [e]; exact h
theorem goodL : GoodC cfL := good_bytes (fun x : ByteArray × Int => x.1)
end Go.Proofs.YthfilnflgahcjaaGreatDoor
