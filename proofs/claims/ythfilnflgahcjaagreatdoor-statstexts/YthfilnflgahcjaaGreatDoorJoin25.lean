/- Equal: values that may not be are held for nothing. List, and Less at every two values. Storable, the program's and the document's. value.Storable. A map of texts that were met; rows of copies that grow. -/
import Derived.Test.YthfilnflgahcjaaGreatDoorJoin19
import Derived.Deep.QuietTactic
import Derived.BigQuiet
import Derived.Deep.RegionWith
import Derived.Test.YthfilnflgahcjaaGreatDoorJoin24
import Derived.Test.YthfilnflgahcjaaGreatDoorShape
import Derived.StringKeys
import Derived.MapKept
namespace Go.Proofs.YthfilnflgahcjaaGreatDoor
open Go.RowKit Go.Shelf
set_option linter.unusedVariables false
/-- Not too great to be looked at. -/
def Modest (t : Tree) : Prop := t.height < 100000000 ∧ bytesOf (t.pre 1) < 4611686018427387904
end Go.Proofs.YthfilnflgahcjaaGreatDoor

namespace Go.Proofs.YthfilnflgahcjaaGreatDoor
open Go.RowKit Go.Shelf
set_option linter.unusedVariables false
def plainB (k : Int) : Bool := k == 1 || k == 2 || k == 3
theorem plain_any (k : Int) (w : World) : Calls Tryz.prog 213 #[.int .i64 k] w fun e w' => e = .returned (.bool (plainB k)) ∧ w' = w := by
  go_enter Tryz.func213, Tryz.ntmps213
  by_cases h1 : k = 1
  · subst h1; go_wp2_with fail; go_ret; exact ⟨rfl, rfl⟩
  by_cases h2 : k = 2
  · subst h2; go_wp2_with fail; go_ret; exact ⟨rfl, rfl⟩
  go_wp2_with fail
  go_ret
  have e1 : (k == 1) = false := by simpa using h1
  have e2 : (k == 2) = false := by simpa using h2
  refine ⟨?_, rfl⟩
  unfold plainB
  rw [e1, e2]
  rfl
end Go.Proofs.YthfilnflgahcjaaGreatDoor

namespace Go.Proofs.YthfilnflgahcjaaGreatDoor
open Go.RowKit Go.Shelf
set_option linter.unusedVariables false
/-- The kind of the first value of a list. -/
def firstK (ts : List Tree) : Int := match ts with | [] => 0 | t :: _ => t.kind
/-- What Storable answers of a value that may be. -/
def storB (T : Tree) : Bool := if T.kind = 4 then T.kids.all fun t => plainB t.kind && (t.kind == firstK T.kids) else plainB T.kind
theorem take_all_snoc {p : Tree → Bool} {ts : List Tree} {j : Nat} {t : Tree} (h : (ts.take j).all p = true) (hx : ts[j]? = some t) (ht : p t = true) : (ts.take (j + 1)).all p = true := by
  rw [List.take_add_one, hx, List.all_append, h]; simp [ht]
theorem all_false {p : Tree → Bool} {ts : List Tree} {j : Nat} {t : Tree} (hx : ts[j]? = some t) (ht : p t = false) : ts.all p = false := by
  rw [List.all_eq_false]; exact ⟨t, List.mem_of_getElem? hx, by simp [ht]⟩
/-- The first value of a list that lies. -/
theorem KidsLie.first {B bl off : Nat} {w : World} {ts : List Tree} (h : KidsLie B w bl off ts) (h0 : 0 < ts.length) : w.cell? ⟨bl, off, none⟩ = some (.int .i64 (firstK ts)) := by
  obtain ⟨⟨p0, p1, p2, p3, p4, p5⟩, hx⟩ : ∃ t, ts[0]? = some t := ⟨_, List.getElem?_eq_getElem h0⟩
  obtain ⟨_, _, _, _, ⟨c0, _⟩, _⟩ := h.cells hx
  cases ts with
  | nil => simp at h0
  | cons t r =>
    simp at hx; subst hx
    simpa [firstK, Tree.kind] using c0
end Go.Proofs.YthfilnflgahcjaaGreatDoor

namespace Go.Proofs.YthfilnflgahcjaaGreatDoor
open Go.RowKit Go.Shelf
set_option linter.unusedVariables false
set_option maxRecDepth 100000 in
set_option maxHeartbeats 4000000 in
theorem Storable_any (T : Tree) (B : Nat) (v : Value) (w : World) (hB : B ≤ w.heap.size) (hv : Lies B w v T) (hT : Tabs w) (hm : Modest T) : Calls Tryz.prog 154 #[v] w fun e w' => e = .returned (.bool (decide (checkN T = 0) && storB T)) ∧ Below w.heap.size w w' := by
  obtain ⟨k, x, n, s, ks, ts⟩ := T
  have hv0 := hv
  simp only [Lies] at hv
  obtain ⟨ka, kc, la, lc, rfl, ⟨hs1, hs2, hs3, hs4, hs5⟩, hk, ht⟩ := hv
  unfold maxLen at hs5
  obtain ⟨W1, hW1⟩ : ∃ W1, w.alloc (.cells #[.int .i64 k, .bool x, .int .i64 n, .string s, .slice ka ks.length kc, .slice la ts.length lc] 88) = W1 := ⟨_, rfl⟩
  have hb1 : Below w.heap.size w W1 := hW1 ▸ (Below.refl _ _).alloc (Nat.le_refl _) _
  have hq1 : W1.heap[w.heap.size]? = some (.cells #[.int .i64 k, .bool x, .int .i64 n, .string s, .slice ka ks.length kc, .slice la ts.length lc] 88 (0, 0)) := hW1 ▸ World.alloc_heap_new _ _
  have hlt1 : w.heap.size < W1.heap.size := (Array.getElem?_eq_some_iff.1 hq1).1
  have HX : Hid (∀ W, Below W1.heap.size W1 W → Below w.heap.size w W ∧ W.cell? ⟨w.heap.size, 0, none⟩ = some (.int .i64 k) ∧ W.cell? ⟨w.heap.size, 5, none⟩ = some (.slice la ts.length lc)) := fun W hb => by
    have e := (hb.block _ hlt1).trans hq1
    exact ⟨hb1.trans (hb.mono (by omega)), by unfold World.cell?; simp only [e]; rfl, by unfold World.cell?; simp only [e]; rfl⟩
  have HT : Hid (ts = [] ∨ ∃ bl off, la = some ⟨bl, off, none⟩ ∧ bl < B ∧ KidsLie B w bl off ts) := ht
  have HCK := hidE (check_any _ _ W1 ((hv0.below (hb1.mono hB)).mono (Nat.le_trans hB hb1.size)) (hT.below hb1) hm.1 hm.2)
  have HW1 := hidE hW1
  obtain ⟨cn, hcn⟩ : ∃ c, checkN (.mk k x n s ks ts) = c := ⟨_, rfl⟩
  rw [hcn] at HCK ⊢
  have HS : Hid (storB (.mk k x n s ks ts) = (if k = 4 then ts.all fun t => plainB t.kind && (t.kind == firstK ts) else plainB k)) := rfl
  clear hW1 hq1 ht hk hv0 hT hm hcn
  go_enter Tryz.func154, Tryz.ntmps154
  go_wp2_with fail
  rw [HW1.out]
  refine HCK.out.mono ?_
  rintro e w2 ⟨rfl, hb2⟩
  have HB2 := hidE hb2
  obtain ⟨hbw2, q0, q5⟩ := HX.out w2 hb2
  have HBW2 := hidE hbw2
  clear hb2 hbw2 HW1 HCK
  by_cases hc : cn = 0
  · have hc' : (cn != 0) = false := by simp [hc]
    have HD : Hid (decide (cn = 0) = true) := decide_eq_true hc
    clear hc
    by_cases k4 : k = 4
    · have k4' : (k != 4) = false := by simp [k4]
      have HS2 : Hid (storB (.mk k x n s ks ts) = ts.all fun t => plainB t.kind && (t.kind == firstK ts)) := HS.out.trans (if_pos k4)
      clear HS k4
      go_wp2_with fail
      clear q0 q5
      go_loopw [17] (fun i wr => ∃ j : Nat, j ≤ ts.length ∧ i = .int .i64 j ∧ Below W1.heap.size W1 wr ∧ (ts.take j).all (fun t => plainB t.kind && (t.kind == firstK ts)) = true) (fun i _ => ts.length - (intOf i).toNat)
      case atStart => exact ⟨0, Nat.zero_le _, rfl, HB2.out, rfl⟩
      case round =>
        obtain ⟨j, hj, rfl, hbr, hal⟩ := hrel
        have HBR := hidE hbr
        have HAL := hidE hal
        obtain ⟨hbw, q0, q5⟩ := HX.out wr hbr
        have HBW := hidE hbw
        clear hbr hbw hal
        by_cases hlt : j < ts.length
        · obtain ⟨bl, off, rfl, hbl, hkk⟩ := HT.out.resolve_left (by intro e; subst e; simp at hlt)
          obtain ⟨⟨p0, p1, p2, p3, p4, p5⟩, hx⟩ : ∃ t, ts[j]? = some t := ⟨_, List.getElem?_eq_getElem hlt⟩
          have hkw := hkk.below (HBW.out.mono hB) hbl
          obtain ⟨ja, jc, jl, jd, ⟨c0, c1, c2, c3, c4, c5⟩, _⟩ := hkw.cells hx
          have d0 := hkw.first (by omega)
          have HX2 := hidE hx
          obtain ⟨fk, hfk⟩ : ∃ f, firstK ts = f := ⟨_, rfl⟩
          rw [hfk] at d0
          have HFK := hidE hfk
          have hl0 : (0 : Int) < ts.length := by omega
          have hbs : bl < wr.heap.size := by have := HBW.out.size; omega
          have hws : w.heap.size < wr.heap.size := by have := HBR.out.size; omega
          obtain ⟨pp, hpp⟩ : ∃ b, plainB p0 = b := ⟨_, rfl⟩
          have HPP := hidE hpp
          have HPL : Hid (∀ W, Calls Tryz.prog 213 #[.int .i64 p0] W fun e w' => e = .returned (.bool pp) ∧ w' = W) := fun W => by
            rw [← hpp]; exact plain_any _ _
          clear hkk hkw hx hfk hpp
          obtain ⟨W3, hW3⟩ : ∃ W3, wr.alloc (.cells #[.int .i64 p0, .bool p1, .int .i64 p2, .string p3, .slice ja p4.length jc, .slice jl p5.length jd] 88) = W3 := ⟨_, rfl⟩
          have hb3 : Below wr.heap.size wr W3 := hW3 ▸ (Below.refl _ _).alloc (Nat.le_refl _) _
          have z0 : W3.cell? ⟨wr.heap.size, 0, none⟩ = some (.int .i64 p0) := hW3 ▸ cell_new _ _ _ _ _ rfl
          have z5 : W3.cell? ⟨w.heap.size, 5, none⟩ = some (.slice (some ⟨bl, off, none⟩) ts.length lc) := (hb3.cell (p := ⟨w.heap.size, 5, none⟩) hws).trans q5
          have zd : W3.cell? ⟨bl, off, none⟩ = some (.int .i64 fk) := (hb3.cell (p := ⟨bl, off, none⟩) hbs).trans d0
          have HB3 := hidE hb3
          have HW3 := hidE hW3
          clear hb3 hW3
          go_wp2_with fail
          rw [HW3.out]
          clear c0 c1 c2 c3 c4 c5 q0 q5 d0
          cases pp with
          | true =>
            go_quiet ((go_at_call 213; exact Calls.quiet_of_same (HPL.out _)))
            by_cases e : p0 = fk
            · have e' : (p0 != fk) = false := by simp [e]
              go_wp2_with fail
              go_roundw
              case rel => exact ⟨j + 1, by omega, by go_num, below_drewN (HBR.out.trans (HB3.out.mono HBR.out.size)) _, take_all_snoc HAL.out HX2.out (by rw [HFK.out]; show (plainB p0 && (p0 == fk)) = true; rw [HPP.out]; simp [e])⟩
              case measure => simp [intOf]; omega
            · have e' : (p0 != fk) = true := by simp [e]
              have HA : Hid ((ts.all fun t => plainB t.kind && (t.kind == firstK ts)) = false) := all_false HX2.out (by rw [HFK.out]; simp [Tree.kind, e])
              go_wp2_with fail
              go_ret
              exact ⟨by rw [HD.out, HS2.out, HA.out]; rfl, below_drewN (HBW.out.trans (HB3.out.mono HBW.out.size)) _⟩
          | false =>
            have HA : Hid ((ts.all fun t => plainB t.kind && (t.kind == firstK ts)) = false) := all_false HX2.out (by simp [Tree.kind, HPP.out])
            go_quiet ((go_at_call 213; exact Calls.quiet_of_same (HPL.out _)))
            go_wp2_with fail
            go_ret
            exact ⟨by rw [HD.out, HS2.out, HA.out]; rfl, below_drewN (HBW.out.trans (HB3.out.mono HBW.out.size)) _⟩
        · have HA : Hid ((ts.all fun t => plainB t.kind && (t.kind == firstK ts)) = true) := by
            have := HAL.out
            rw [List.take_of_length_le (by omega)] at this
            exact this
          go_wp2_with fail
          go_ret
          exact ⟨by rw [HD.out, HS2.out, HA.out]; rfl, HBW.out⟩
    · have k4' : (k != 4) = true := by simp [k4]
      have HS2 : Hid (storB (.mk k x n s ks ts) = plainB k) := HS.out.trans (if_neg k4)
      clear HS
      go_wp2_with fail
      refine (plain_any _ _).mono ?_
      rintro e w3 ⟨rfl, rfl⟩
      obtain ⟨pp, hpp⟩ : ∃ b, plainB k = b := ⟨_, rfl⟩
      rw [hpp]
      have HPP := hidE hpp
      clear hpp
      go_wp2_with fail
      go_ret
      exact ⟨by rw [HD.out, HS2.out, HPP.out]; rfl, HBW2.out⟩
  · have hc' : (cn != 0) = true := by simp [hc]
    have HD : Hid (decide (cn = 0) = false) := decide_eq_false hc
    clear hc
    go_wp2_with fail
    go_ret
    exact ⟨by rw [HD.out]; rfl, HBW2.out⟩
end Go.Proofs.YthfilnflgahcjaaGreatDoor

namespace Go.Proofs.YthfilnflgahcjaaGreatDoor
open Go.RowKit Go.Shelf Go.WideShapes Go.Lib
set_option linter.unusedVariables false
set_option linter.unusedSimpArgs false
theorem zero173 (w : World) : (zeroValue 164).run Tryz.prog w = .ok (.agg #[]) w := by kernel_rfl
end Go.Proofs.YthfilnflgahcjaaGreatDoor

