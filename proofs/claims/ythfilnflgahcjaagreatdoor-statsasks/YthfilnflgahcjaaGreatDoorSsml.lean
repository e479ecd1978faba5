/- Small things of the laws: numbers, how many rows, the chapter's graph. -/
import Derived.Test.YthfilnflgahcjaaGreatDoorJoin9
import Derived.Test.YthfilnflgahcjaaGreatDoorJoin7
import Derived.Test.YthfilnflgahcjaaGreatDoorJoin16
import Derived.Test.YthfilnflgahcjaaGreatDoorJoin15
namespace Go.Proofs.YthfilnflgahcjaaGreatDoor
open Go.RowKit Go.Shelf
set_option linter.unusedVariables false
set_option linter.unusedSimpArgs false
attribute [local go_sem] Oper.semAt_some
set_option maxRecDepth 100000 in
theorem num_any (n : Int) (w : World) : Calls Tryz.prog 12 #[.int .i64 n] w fun e w' => e = .returned (.int .i64 n) ∧ w' = w := by
  go_enter Tryz.func12, Tryz.ntmps12
  go_wp2_with fail
  go_ret
  exact ⟨rfl, rfl⟩
def fitsB (n : Int) : Bool := decide (0 ≤ n) && decide (n ≤ 4611686018427387904)
set_option maxRecDepth 100000 in
theorem fits_any (n : Int) (w : World) : Calls Tryz.prog 40 #[.int .i64 n] w fun e w' => e = .returned (.bool (fitsB n)) ∧ w' = w := by
  obtain ⟨z, hz⟩ : ∃ z, fitsB n = z := ⟨_, rfl⟩
  rw [hz]
  have HZ := hidE hz
  clear hz
  by_cases h0 : 0 ≤ n
  · by_cases h1 : n ≤ 4611686018427387904
    · go_enter Tryz.func40, Tryz.ntmps40
      go_wp2_with fail
      go_ret
      exact ⟨by rw [← HZ.out]; simp [fitsB, h0, h1], rfl⟩
    · go_enter Tryz.func40, Tryz.ntmps40
      go_wp2_with fail
      go_ret
      exact ⟨by rw [← HZ.out]; simp [fitsB, h0, h1], rfl⟩
  · go_enter Tryz.func40, Tryz.ntmps40
    go_wp2_with fail
    go_ret
    exact ⟨by rw [← HZ.out]; simp [fitsB]; omega, rfl⟩
def fewB (s : StatP) : Bool := decide (s.labels.length + s.types.length + s.ends.length + s.keys.length ≤ 300)
set_option maxRecDepth 100000 in
set_option maxHeartbeats 4000000 in
theorem few_any (s : StatP) (vl vt ve vk : Value) (B : Nat) (w : World) (h : StatL B w vl vt ve vk s) (hm : s.labels.length ≤ 1000000000 ∧ s.types.length ≤ 1000000000 ∧ s.ends.length ≤ 1000000000 ∧ s.keys.length ≤ 1000000000) : Calls Tryz.prog 16 #[statV s vl vt ve vk] w fun e w' => e = .returned (.bool (fewB s)) ∧ Below w.heap.size w w' := by
  obtain ⟨la, lc, rfl, _⟩ := h.hl
  obtain ⟨ta, tc, rfl, _⟩ := h.ht
  obtain ⟨ea, ec, rfl, _⟩ := h.he
  obtain ⟨ka, kc, rfl, _⟩ := h.hk
  obtain ⟨z, hz⟩ : ∃ z, fewB s = z := ⟨_, rfl⟩
  have HZ := hidE hz
  rw [hz]
  unfold fewB at HZ
  simp only [statV]
  clear h hz
  obtain ⟨m1, m2, m3, m4⟩ := hm
  generalize s.labels.length = l1 at *
  generalize s.types.length = l2 at *
  generalize s.ends.length = l3 at *
  generalize s.keys.length = l4 at *
  generalize s.nodes = n1 at *
  generalize s.rels = n2 at *
  go_enter Tryz.func16, Tryz.ntmps16
  go_upto_region 1 with fail
  generalize hW1 : World.alloc _ _ = W1
  have hr := rec_new w #[.int .i64 n1, .int .i64 n2, .slice la l1 lc, .slice ta l2 tc, .slice ea l3 ec, .slice ka l4 kc] 33
  rw [hW1] at hr
  have HB : Hid (Below w.heap.size w W1) := by rw [← hW1]; exact (Below.refl _ _).alloc (Nat.le_refl _) _
  have a2 := hr.cell 2 rfl
  have a3 := hr.cell 3 rfl
  have a4 := hr.cell 4 rfl
  have a5 := hr.cell 5 rfl
  clear hr hW1
  go_wp2_with fail
  go_ret
  refine ⟨?_, HB.out⟩
  rw [← HZ.out]
  simp
  try omega
def byteK : ByteArray := ⟨#[107]⟩
def byteA : ByteArray := ⟨#[65]⟩
def byteB : ByteArray := ⟨#[66]⟩
def byteT : ByteArray := ⟨#[84]⟩
def byteU : ByteArray := ⟨#[85]⟩
def oneK : List (ByteArray × Tree) := [(⟨#[107]⟩, .mk 2 false 1 ⟨#[]⟩ [] [])]
/-- The chapter's graph. -/
def sampleG : GraphP := ⟨[⟨0, [⟨#[65]⟩, ⟨#[66]⟩], oneK⟩, ⟨1, [⟨#[65]⟩], oneK⟩, ⟨2, [], []⟩], [⟨0, 0, 1, ⟨#[84]⟩, []⟩, ⟨1, 0, 2, ⟨#[84]⟩, []⟩, ⟨2, 1, 1, ⟨#[85]⟩, []⟩], 3, 3⟩
theorem Rec.up {w : World} {b : Nat} {cs : Array Value} {ty : TypeId} (h : Rec w b cs ty) (o : Obj) : Rec (w.alloc o) b cs ty := h.below ((Below.refl _ _).alloc (Nat.le_refl _) _) h.lt
theorem no_props (B : Nat) (w : World) : PropsLie B w (.slice none 0 0) [] := ⟨none, 0, rfl, Nat.le_refl _, by omega, .inl rfl⟩
theorem one_prop {W : World} {b : Nat} (h : Rec W b #[.string ⟨#[107]⟩, .int .i64 2, .bool false, .int .i64 1, .string ⟨#[]⟩, .slice none 0 0, .slice none 0 0] 90) : PropsLie W.heap.size W (.slice (some ⟨b, 0, none⟩) 1 1) oneK := by
  refine ⟨_, _, rfl, Nat.le_refl _, by omega, .inr ⟨b, 0, rfl, h.lt, ?_⟩⟩
  intro i q hq
  rcases i with _ | i
  · simp only [oneK, List.getElem?_cons_zero, Option.some.injEq] at hq
    subst hq
    refine ⟨h.cell 0 rfl, by decide, _, _, _, _, _, _, ⟨h.cell 1 rfl, h.cell 2 rfl, h.cell 3 rfl, h.cell 4 rfl, h.cell 5 rfl, h.cell 6 rfl⟩, ?_⟩
    simp only [Lies]
    exact ⟨none, 0, none, 0, rfl, ⟨by decide, by decide, by decide, by decide, by decide⟩, .inl rfl, .inl (by trivial)⟩
  · simp [oneK] at hq
theorem sample_lies {W : World} {s : Nat} (h1 : Rec W (s + 1) #[.string ⟨#[107]⟩, .int .i64 2, .bool false, .int .i64 1, .string ⟨#[]⟩, .slice none 0 0, .slice none 0 0] 90) (h2 : Rec W (s + 1 + 1) #[.string ⟨#[65]⟩, .string ⟨#[66]⟩] 9) (h3 : Rec W (s + 1 + 1 + 1) #[.string ⟨#[65]⟩] 9) (h4 : Rec W (s + 1 + 1 + 1 + 1) #[.int .i64 0, .slice (some ⟨s + 1 + 1, 0, none⟩) 2 2, .slice (some ⟨s + 1, 0, none⟩) 1 1, .int .i64 1, .slice (some ⟨s + 1 + 1 + 1, 0, none⟩) 1 1, .slice (some ⟨s + 1, 0, none⟩) 1 1, .int .i64 2, .slice none 0 0, .slice none 0 0] 73) (h5 : Rec W (s + 1 + 1 + 1 + 1 + 1) #[.int .i64 0, .int .i64 0, .int .i64 1, .string ⟨#[84]⟩, .slice none 0 0, .int .i64 1, .int .i64 0, .int .i64 2, .string ⟨#[84]⟩, .slice none 0 0, .int .i64 2, .int .i64 1, .int .i64 1, .string ⟨#[85]⟩, .slice none 0 0] 71) : GraphLies W.heap.size W (.agg #[.slice (some ⟨s + 1 + 1 + 1 + 1, 0, none⟩) 3 3, .slice (some ⟨s + 1 + 1 + 1 + 1 + 1, 0, none⟩) 3 3, .int .i64 3, .int .i64 3]) sampleG := by
  refine ⟨_, 3, _, 3, rfl, ⟨_, _, rfl, Nat.le_refl _, by omega, .inr ⟨_, 0, rfl, h4.lt, ?_⟩⟩, ⟨_, _, rfl, Nat.le_refl _, by omega, .inr ⟨_, 0, rfl, h5.lt, ?_⟩⟩⟩
  · intro i x hx
    rcases i with _ | _ | _ | i
    · simp only [sampleG, List.getElem?_cons_zero, Option.some.injEq] at hx
      subst hx
      refine ⟨_, 2, _, ⟨h4.cell 0 rfl, h4.cell 1 rfl, h4.cell 2 rfl⟩, ⟨Nat.le_refl _, by omega⟩, .inr ⟨_, 0, rfl, h2.lt, ?_⟩, one_prop h1⟩
      intro i hi
      match i, hi with
      | 0, _ => exact ⟨h2.cell 0 rfl, by decide⟩
      | 1, _ => exact ⟨h2.cell 1 rfl, by decide⟩
    · simp only [sampleG, List.getElem?_cons_zero, List.getElem?_cons_succ, Option.some.injEq] at hx
      subst hx
      refine ⟨_, 1, _, ⟨h4.cell 3 rfl, h4.cell 4 rfl, h4.cell 5 rfl⟩, ⟨Nat.le_refl _, by omega⟩, .inr ⟨_, 0, rfl, h3.lt, ?_⟩, one_prop h1⟩
      intro i hi
      match i, hi with
      | 0, _ => exact ⟨h3.cell 0 rfl, by decide⟩
    · simp only [sampleG, List.getElem?_cons_zero, List.getElem?_cons_succ, Option.some.injEq] at hx
      subst hx
      exact ⟨_, 0, _, ⟨h4.cell 6 rfl, h4.cell 7 rfl, h4.cell 8 rfl⟩, ⟨Nat.le_refl _, by omega⟩, .inl rfl, no_props _ _⟩
    · simp [sampleG] at hx
  · intro i x hx
    rcases i with _ | _ | _ | i
    · simp only [sampleG, List.getElem?_cons_zero, Option.some.injEq] at hx
      subst hx
      exact ⟨_, ⟨h5.cell 0 rfl, h5.cell 1 rfl, h5.cell 2 rfl, h5.cell 3 rfl, h5.cell 4 rfl⟩, by decide, no_props _ _⟩
    · simp only [sampleG, List.getElem?_cons_zero, List.getElem?_cons_succ, Option.some.injEq] at hx
      subst hx
      exact ⟨_, ⟨h5.cell 5 rfl, h5.cell 6 rfl, h5.cell 7 rfl, h5.cell 8 rfl, h5.cell 9 rfl⟩, by decide, no_props _ _⟩
    · simp only [sampleG, List.getElem?_cons_zero, List.getElem?_cons_succ, Option.some.injEq] at hx
      subst hx
      exact ⟨_, ⟨h5.cell 10 rfl, h5.cell 11 rfl, h5.cell 12 rfl, h5.cell 13 rfl, h5.cell 14 rfl⟩, by decide, no_props _ _⟩
    · simp [sampleG] at hx
theorem sample_world (w : World) (s : Nat) (hs : w.heap.size = s) : ∃ W, ((((((w.alloc (.cells #[.slice (some ⟨s + 1 + 1 + 1 + 1, 0, none⟩) 3 3, .slice (some ⟨s + 1 + 1 + 1 + 1 + 1, 0, none⟩) 3 3, .int .i64 3, .int .i64 3] 25)).alloc (.cells #[.string ⟨#[107]⟩, .int .i64 2, .bool false, .int .i64 1, .string ⟨#[]⟩, .slice none 0 0, .slice none 0 0] 90)).alloc (.cells #[.string ⟨#[65]⟩, .string ⟨#[66]⟩] 9)).alloc (.cells #[.string ⟨#[65]⟩] 9)).alloc (.cells #[.int .i64 0, .slice (some ⟨s + 1 + 1, 0, none⟩) 2 2, .slice (some ⟨s + 1, 0, none⟩) 1 1, .int .i64 1, .slice (some ⟨s + 1 + 1 + 1, 0, none⟩) 1 1, .slice (some ⟨s + 1, 0, none⟩) 1 1, .int .i64 2, .slice none 0 0, .slice none 0 0] 73)).alloc (.cells #[.int .i64 0, .int .i64 0, .int .i64 1, .string ⟨#[84]⟩, .slice none 0 0, .int .i64 1, .int .i64 0, .int .i64 2, .string ⟨#[84]⟩, .slice none 0 0, .int .i64 2, .int .i64 1, .int .i64 1, .string ⟨#[85]⟩, .slice none 0 0] 71)) = W ∧ Rec W s #[.slice (some ⟨s + 1 + 1 + 1 + 1, 0, none⟩) 3 3, .slice (some ⟨s + 1 + 1 + 1 + 1 + 1, 0, none⟩) 3 3, .int .i64 3, .int .i64 3] 25 ∧ GraphLies W.heap.size W (.agg #[.slice (some ⟨s + 1 + 1 + 1 + 1, 0, none⟩) 3 3, .slice (some ⟨s + 1 + 1 + 1 + 1 + 1, 0, none⟩) 3 3, .int .i64 3, .int .i64 3]) sampleG ∧ Below w.heap.size w W := by
  subst hs
  have e : ∀ (W : World) (o : Obj), (W.alloc o).heap.size = W.heap.size + 1 := fun W o => by simp
  refine ⟨_, rfl, ?_, sample_lies (s := w.heap.size) ?_ ?_ ?_ ?_ ?_, ?_⟩
  · exact (((((rec_new w _ _).up _).up _).up _).up _).up _
  · have := ((((rec_new (w.alloc (.cells #[.slice (some ⟨w.heap.size + 1 + 1 + 1 + 1, 0, none⟩) 3 3, .slice (some ⟨w.heap.size + 1 + 1 + 1 + 1 + 1, 0, none⟩) 3 3, .int .i64 3, .int .i64 3] 25)) #[.string ⟨#[107]⟩, .int .i64 2, .bool false, .int .i64 1, .string ⟨#[]⟩, .slice none 0 0, .slice none 0 0] 90).up (.cells #[.string ⟨#[65]⟩, .string ⟨#[66]⟩] 9)).up (.cells #[.string ⟨#[65]⟩] 9)).up (.cells #[.int .i64 0, .slice (some ⟨w.heap.size + 1 + 1, 0, none⟩) 2 2, .slice (some ⟨w.heap.size + 1, 0, none⟩) 1 1, .int .i64 1, .slice (some ⟨w.heap.size + 1 + 1 + 1, 0, none⟩) 1 1, .slice (some ⟨w.heap.size + 1, 0, none⟩) 1 1, .int .i64 2, .slice none 0 0, .slice none 0 0] 73)).up (.cells #[.int .i64 0, .int .i64 0, .int .i64 1, .string ⟨#[84]⟩, .slice none 0 0, .int .i64 1, .int .i64 0, .int .i64 2, .string ⟨#[84]⟩, .slice none 0 0, .int .i64 2, .int .i64 1, .int .i64 1, .string ⟨#[85]⟩, .slice none 0 0] 71)
    simp only [e] at this
    exact this
  · have := (((rec_new ((w.alloc (.cells #[.slice (some ⟨w.heap.size + 1 + 1 + 1 + 1, 0, none⟩) 3 3, .slice (some ⟨w.heap.size + 1 + 1 + 1 + 1 + 1, 0, none⟩) 3 3, .int .i64 3, .int .i64 3] 25)).alloc (.cells #[.string ⟨#[107]⟩, .int .i64 2, .bool false, .int .i64 1, .string ⟨#[]⟩, .slice none 0 0, .slice none 0 0] 90)) #[.string ⟨#[65]⟩, .string ⟨#[66]⟩] 9).up (.cells #[.string ⟨#[65]⟩] 9)).up (.cells #[.int .i64 0, .slice (some ⟨w.heap.size + 1 + 1, 0, none⟩) 2 2, .slice (some ⟨w.heap.size + 1, 0, none⟩) 1 1, .int .i64 1, .slice (some ⟨w.heap.size + 1 + 1 + 1, 0, none⟩) 1 1, .slice (some ⟨w.heap.size + 1, 0, none⟩) 1 1, .int .i64 2, .slice none 0 0, .slice none 0 0] 73)).up (.cells #[.int .i64 0, .int .i64 0, .int .i64 1, .string ⟨#[84]⟩, .slice none 0 0, .int .i64 1, .int .i64 0, .int .i64 2, .string ⟨#[84]⟩, .slice none 0 0, .int .i64 2, .int .i64 1, .int .i64 1, .string ⟨#[85]⟩, .slice none 0 0] 71)
    simp only [e] at this
    exact this
  · have := ((rec_new (((w.alloc (.cells #[.slice (some ⟨w.heap.size + 1 + 1 + 1 + 1, 0, none⟩) 3 3, .slice (some ⟨w.heap.size + 1 + 1 + 1 + 1 + 1, 0, none⟩) 3 3, .int .i64 3, .int .i64 3] 25)).alloc (.cells #[.string ⟨#[107]⟩, .int .i64 2, .bool false, .int .i64 1, .string ⟨#[]⟩, .slice none 0 0, .slice none 0 0] 90)).alloc (.cells #[.string ⟨#[65]⟩, .string ⟨#[66]⟩] 9)) #[.string ⟨#[65]⟩] 9).up (.cells #[.int .i64 0, .slice (some ⟨w.heap.size + 1 + 1, 0, none⟩) 2 2, .slice (some ⟨w.heap.size + 1, 0, none⟩) 1 1, .int .i64 1, .slice (some ⟨w.heap.size + 1 + 1 + 1, 0, none⟩) 1 1, .slice (some ⟨w.heap.size + 1, 0, none⟩) 1 1, .int .i64 2, .slice none 0 0, .slice none 0 0] 73)).up (.cells #[.int .i64 0, .int .i64 0, .int .i64 1, .string ⟨#[84]⟩, .slice none 0 0, .int .i64 1, .int .i64 0, .int .i64 2, .string ⟨#[84]⟩, .slice none 0 0, .int .i64 2, .int .i64 1, .int .i64 1, .string ⟨#[85]⟩, .slice none 0 0] 71)
    simp only [e] at this
    exact this
  · have := (rec_new ((((w.alloc (.cells #[.slice (some ⟨w.heap.size + 1 + 1 + 1 + 1, 0, none⟩) 3 3, .slice (some ⟨w.heap.size + 1 + 1 + 1 + 1 + 1, 0, none⟩) 3 3, .int .i64 3, .int .i64 3] 25)).alloc (.cells #[.string ⟨#[107]⟩, .int .i64 2, .bool false, .int .i64 1, .string ⟨#[]⟩, .slice none 0 0, .slice none 0 0] 90)).alloc (.cells #[.string ⟨#[65]⟩, .string ⟨#[66]⟩] 9)).alloc (.cells #[.string ⟨#[65]⟩] 9)) #[.int .i64 0, .slice (some ⟨w.heap.size + 1 + 1, 0, none⟩) 2 2, .slice (some ⟨w.heap.size + 1, 0, none⟩) 1 1, .int .i64 1, .slice (some ⟨w.heap.size + 1 + 1 + 1, 0, none⟩) 1 1, .slice (some ⟨w.heap.size + 1, 0, none⟩) 1 1, .int .i64 2, .slice none 0 0, .slice none 0 0] 73).up (.cells #[.int .i64 0, .int .i64 0, .int .i64 1, .string ⟨#[84]⟩, .slice none 0 0, .int .i64 1, .int .i64 0, .int .i64 2, .string ⟨#[84]⟩, .slice none 0 0, .int .i64 2, .int .i64 1, .int .i64 1, .string ⟨#[85]⟩, .slice none 0 0] 71)
    simp only [e] at this
    exact this
  · have := rec_new (((((w.alloc (.cells #[.slice (some ⟨w.heap.size + 1 + 1 + 1 + 1, 0, none⟩) 3 3, .slice (some ⟨w.heap.size + 1 + 1 + 1 + 1 + 1, 0, none⟩) 3 3, .int .i64 3, .int .i64 3] 25)).alloc (.cells #[.string ⟨#[107]⟩, .int .i64 2, .bool false, .int .i64 1, .string ⟨#[]⟩, .slice none 0 0, .slice none 0 0] 90)).alloc (.cells #[.string ⟨#[65]⟩, .string ⟨#[66]⟩] 9)).alloc (.cells #[.string ⟨#[65]⟩] 9)).alloc (.cells #[.int .i64 0, .slice (some ⟨w.heap.size + 1 + 1, 0, none⟩) 2 2, .slice (some ⟨w.heap.size + 1, 0, none⟩) 1 1, .int .i64 1, .slice (some ⟨w.heap.size + 1 + 1 + 1, 0, none⟩) 1 1, .slice (some ⟨w.heap.size + 1, 0, none⟩) 1 1, .int .i64 2, .slice none 0 0, .slice none 0 0] 73)) #[.int .i64 0, .int .i64 0, .int .i64 1, .string ⟨#[84]⟩, .slice none 0 0, .int .i64 1, .int .i64 0, .int .i64 2, .string ⟨#[84]⟩, .slice none 0 0, .int .i64 2, .int .i64 1, .int .i64 1, .string ⟨#[85]⟩, .slice none 0 0] 71
    simp only [e] at this
    exact this
  · refine ((((((Below.refl _ w).alloc (Nat.le_refl _) _).alloc ?_ _).alloc ?_ _).alloc ?_ _).alloc ?_ _).alloc ?_ _ <;> simp only [e] <;> omega
set_option maxRecDepth 100000 in
set_option maxHeartbeats 8000000 in
theorem sample_any (w : World) : Calls Tryz.prog 42 #[] w fun e w' => ∃ v, e = .returned v ∧ GraphLies w'.heap.size w' v sampleG ∧ Below w.heap.size w w' := by
  obtain ⟨s, hs⟩ : ∃ s, w.heap.size = s := ⟨_, rfl⟩
  have HS := hidE (sample_world w s hs)
  have HSS := hidE hs
  clear hs
  go_enter Tryz.func42, Tryz.ntmps42
  go_wp2_with fail
  obtain ⟨W, hW, hr, hg, hb⟩ := HS.out
  rw [HSS.out, hW]
  have c0 := hr.cell 0 rfl
  have c1 := hr.cell 1 rfl
  have c2 := hr.cell 2 rfl
  have c3 := hr.cell 3 rfl
  refine bodyPost_ret (v := .agg #[.slice (some ⟨s + 1 + 1 + 1 + 1, 0, none⟩) 3 3, .slice (some ⟨s + 1 + 1 + 1 + 1 + 1, 0, none⟩) 3 3, .int .i64 3, .int .i64 3]) ?_ rfl ⟨_, rfl, hg, HSS.out ▸ hb⟩
  simp [results, Tryz.results42, go_sem, c0, c1, c2, c3]
end Go.Proofs.YthfilnflgahcjaaGreatDoor
