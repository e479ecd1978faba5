/- Contract of the document's own Sum. -/
import Derived.Test.YtfpjggoonekooaaRef
import Derived.Deep.RegionWith
import Derived.Laws.OwnMore
import Derived.OneCell
namespace Go.Proofs.Ytfpjggoonekooaa
open Go.RowKit Go.WideShapes
set_option linter.unusedVariables false

theorem Dig.drew {w : World} {v : Value} {ds : List Int} (h : Dig w v ds) : Dig w.drew v ds := h

/-- The last digit struck. -/
theorem Dig.trim {w : World} {g cap : Nat} {os : List Int} {n : Nat} (h : Dig w (.slice (some ⟨g, 0, none⟩) os.length cap) os) (hn : os.length = n + 1) : Dig w (.slice (some ⟨g, 0, none⟩) n cap) (os.take n) := by
  obtain ⟨h1, hd⟩ := h
  refine ⟨?_, fun d hm => hd d (List.mem_of_mem_take hm)⟩
  have el : (os.take n).length = n := by simp; omega
  rw [el]
  obtain ⟨h2, ⟨h3, _⟩ | ⟨g', cap', cur, h3, h4, h5, h6, h7, h8, h9⟩⟩ := h1
  · cases h3
  · cases h3
    refine ⟨by simp; omega, Or.inr ⟨g, cap, cur, rfl, Nat.zero_le _, h5, by omega, h7, h8, ?_⟩⟩
    have : (os.map (Value.int .i64)).take n = (os.take n).map (Value.int .i64) := by rw [List.map_take]
    rw [← this, ← h9, List.take_take]
    congr 1
    omega
theorem dv_trim {os : List Int} {n : Nat} (hn : os.length = n + 1) (h : os.getD n 0 = 0) : dv (os.take n) = dv os := by
  have h1 := dv_take_succ os n
  rw [List.take_of_length_le (by omega), h] at h1
  simp at h1
  exact h1.symm

/-- The struct that holds the sum so far. -/
structure Held (B : Nat) (neg : Bool) (v : Value) (wr : World) : Prop where
  size : B < wr.heap.size
  c0 : wr.cell? ⟨B, 0, none⟩ = some (.bool neg)
  c1 : wr.cell? ⟨B, 1, none⟩ = some v
  f0 : wr.frozen? ⟨B, 0, none⟩ = false
  f1 : wr.frozen? ⟨B, 1, none⟩ = false

theorem Held.set {B : Nat} {neg : Bool} {v : Value} {wr : World} (h : Held B neg v wr) (neg' : Bool) (v' : Value) : Held B neg' v' ((wr.setCell ⟨B, 0, none⟩ (.bool neg')).setCell ⟨B, 1, none⟩ v') := by
  have a0 : (wr.setCell ⟨B, 0, none⟩ (.bool neg')).cell? ⟨B, 0, none⟩ = some (.bool neg') := World.cell?_setCell_same _ _ _ h.c0
  have a1 : (wr.setCell ⟨B, 0, none⟩ (.bool neg')).cell? ⟨B, 1, none⟩ = some v := (World.cell?_setCell_other _ _ _ _ (by simp)).trans h.c1
  refine ⟨by simpa using h.size, (World.cell?_setCell_other _ _ _ _ (by simp)).trans a0, World.cell?_setCell_same _ _ _ a1, ?_, ?_⟩
  · rw [World.frozen?_setCell, World.frozen?_setCell]; exact h.f0
  · rw [World.frozen?_setCell, World.frozen?_setCell]; exact h.f1
theorem Held.set1 {B : Nat} {neg : Bool} {v : Value} {wr : World} (h : Held B neg v wr) (v' : Value) : Held B neg v' (wr.setCell ⟨B, 1, none⟩ v') :=
  ⟨by simpa using h.size, (World.cell?_setCell_other _ _ _ _ (by simp)).trans h.c0, World.cell?_setCell_same _ _ _ h.c1, (World.frozen?_setCell _ _ _ _).trans h.f0, (World.frozen?_setCell _ _ _ _).trans h.f1⟩

/-- Digits do not lie where a truth lies: they stay when its struct is written. -/
theorem Dig.set {B o : Nat} {neg : Bool} {w : World} {v u : Value} {os : List Int} (h : Dig w v os) (hc : w.cell? ⟨B, 0, none⟩ = some (.bool neg)) : Dig (w.setCell ⟨B, o, none⟩ u) v os := by
  rcases h.cases with ⟨rfl, rfl⟩ | ⟨g, cap, rfl, _, _, _, hcell⟩
  · exact ⟨World.ownsRow_nil _ _ _ _, h.2⟩
  · refine ⟨?_, h.2⟩
    by_cases hg : g = B
    · subst hg
      cases os with
      | nil => exact (h.1.stored o u).1
      | cons a r =>
        have := hcell 0 (by simp)
        rw [hc] at this
        cases this
    · exact ownsRow_setCell_other h.1 (a := ⟨B, o, none⟩) (by simp [Value.ownBlock]; exact hg) u

def lenAt (B : Nat) (w : World) : Nat := match w.cell? ⟨B, 1, none⟩ with
  | some v => sliceLen v
  | none => 0
theorem lenAt_is {B : Nat} {w : World} {ad : Option Addr} {n cap : Nat} (h : w.cell? ⟨B, 1, none⟩ = some (.slice ad n cap)) : lenAt B w = n := by unfold lenAt; rw [h]; rfl

set_option maxHeartbeats 6400000 in
theorem rsum_any (b off cap : Nat) (zs : List Int) (w : World) (hm : zs.length ≤ 500) (hb : b < w.heap.size)
    (hc : ∀ j, j < zs.length → w.cell? ⟨b, off + j, none⟩ = some (.int .i64 (zs.getD j 0))) (hr : Fits zs) :
    Calls Try.prog 31 #[.slice (some ⟨b, off, none⟩) zs.length cap] w fun e w' => e = .returned (.tuple #[.int .i64 (fitN (sumL zs)), .int .i64 (fitE (sumL zs))]) ∧ Below w.heap.size w w' := by
  have HC := hidden hc
  have HR := hidden hr
  clear hc hr
  go_enter Try.func31, Try.ntmps31
  go_wp2_with fail
  refine (of64_any _ _ (by omega) (by omega)).mono ?_; rintro e w1 ⟨v1, ds, rfl, k1, d1, l1, e1⟩
  have L1 := hidden l1
  have E1 := hidden e1
  have D1 := hidden d1
  obtain ⟨ad1, cap1, hv1⟩ := d1.slice
  subst hv1
  have hb1 := Nat.lt_of_lt_of_le hb k1.size
  clear l1 e1 d1
  go_wp2
  go_loopw [5] (fun i wr => ∃ k : Nat, ∃ neg : Bool, ∃ v : Value, ∃ os : List Int, k ≤ zs.length ∧ i = .int .i64 k ∧ Held w1.heap.size neg v wr ∧ Dig wr v os ∧ os.length ≤ 5 + k ∧ sg neg (dv os) = sumL (zs.take k) ∧ Below w1.heap.size w1 wr) (fun i _ => zs.length - (intOf i).toNat)
  case atStart =>
    refine ⟨0, false, _, ds, by omega, rfl, ⟨by simp, by simp [go_sem], by simp [go_sem], by simp [go_sem], by simp [go_sem]⟩, D1.out.later ((Below.refl _ _).alloc (Nat.le_refl _) _), by have := L1.out; omega, ?_, (Below.refl _ _).alloc (Nat.le_refl _) _⟩
    rw [E1.out]; simp [sg, sz, sumL]
  case round =>
    obtain ⟨k, neg, v, os, hk, rfl, hheld, hdig, hlen, hsum, hbel⟩ := hrel
    have HH := hidden hheld
    have HD := hidden hdig
    have HL := hidden hlen
    have HS := hidden hsum
    obtain ⟨f1, f2, f3, f4, f5⟩ := hheld
    obtain ⟨adv, capv, hv⟩ := hdig.slice
    subst hv
    clear hdig hlen hsum
    have hbk := below_on k1 hbel
    by_cases hlt : k < zs.length
    · have hcx : wr.cell? ⟨b, off + k, none⟩ = some (.int .i64 (zs.getD k 0)) := (hbk.cell (by exact hb)).trans (HC.out k hlt)
      have hrx := HR.out k hlt
      have HZ := hidden (sumL_take hlt rfl)
      generalize zs.getD k 0 = z at hcx hrx HZ
      obtain ⟨r1, r2⟩ := hrx
      go_wp2
      go_region_with (first
        | (go_at_call 40; refine (of64_any _ _ r1 r2).mono ?_; rintro e w2 ⟨v2, es, rfl, k2, d2, l2, e2⟩; have q1 := (k2.cell (p := ⟨w1.heap.size, 0, none⟩) f1).trans f2; have q2 := (k2.cell (p := ⟨w1.heap.size, 1, none⟩) f1).trans f3; have q3 := (k2.frozen (p := ⟨w1.heap.size, 0, none⟩) f1).trans f4; have q4 := (k2.frozen (p := ⟨w1.heap.size, 1, none⟩) f1).trans f5; have L2 := hidden l2; have E2 := hidden e2; have D2 := hidden d2; clear l2 e2 d2)
        | (go_at_call 39; refine (wadd_any _ _ _ _ os es _ (Dig.later (by exact HD.out) k2) D2.out (by have := HL.out; omega) (by have := L2.out; omega)).mono ?_; rintro e w3 ⟨neg3, v3, os3, rfl, k3, d3, l3, e3⟩; obtain ⟨ad3, cap3, hv3⟩ := d3.slice; subst hv3; have hz2 := Nat.lt_of_lt_of_le f1 k2.size; have p1 := (k3.cell (p := ⟨w1.heap.size, 0, none⟩) hz2).trans q1; have p2 := (k3.cell (p := ⟨w1.heap.size, 1, none⟩) hz2).trans q2; have p3 := (k3.frozen (p := ⟨w1.heap.size, 0, none⟩) hz2).trans q3; have p4 := (k3.frozen (p := ⟨w1.heap.size, 1, none⟩) hz2).trans q4; have D3 := hidden d3; have L3 := hidden l3; have E3 := hidden e3; clear d3 l3 e3))
      all_goals
        have hB3 : w1.heap.size < w3.heap.size := Nat.lt_of_lt_of_le hz2 k3.size
        have S0 : Held w1.heap.size neg (.slice adv os.length capv) w3 := ⟨hB3, p1, p2, p3, p4⟩
        have S1 := S0.set neg3 (.slice ad3 os3.length cap3)
        have S2 := Dig.set (o := 1) (u := .slice ad3 os3.length cap3) (Dig.set (o := 0) (u := .bool neg3) D3.out p1) (World.cell?_setCell_same _ _ _ p1)
        have HX : Hid (sg neg3 (dv os3) = sumL (zs.take (k + 1))) := by unfold Hid; rw [E3.out, E2.out, sg_sz, HS.out, HZ.out]
        have hl3 : os3.length ≤ 5 + (k + 1) := by have := L3.out; have := HL.out; have := L2.out; omega
        have hb4 : Below w1.heap.size w1 ((w3.setCell ⟨w1.heap.size, 0, none⟩ (.bool neg3)).setCell ⟨w1.heap.size, 1, none⟩ (.slice ad3 os3.length cap3)) := ((below_on (below_on hbel.drew k2) k3).setCell (p := ⟨w1.heap.size, 0, none⟩) (Nat.le_refl _) _).setCell (p := ⟨w1.heap.size, 1, none⟩) (Nat.le_refl _) _
        have HS1 := hidden S1
        have HS2 := hidden S2
        have HB4 := hidden hb4
        clear S0 S1 S2 hb4 D3 L3 E3 D2 L2 E2 q1 q2 q3 q4 p1 p2 p3 p4 k2 k3 HH HD HL HS f1 f2 f3 f4 f5 hbk hcx hbel
        go_wp2
        go_loopw [24] (fun _ wr => ∃ v : Value, ∃ os' : List Int, Held w1.heap.size neg3 v wr ∧ Dig wr v os' ∧ os'.length ≤ 5 + (k + 1) ∧ sg neg3 (dv os') = sumL (zs.take (k + 1)) ∧ Below w1.heap.size w1 wr) (fun _ wr => lenAt w1.heap.size wr)
        case atStart => exact ⟨_, os3, HS1.out, HS2.out, hl3, HX.out, HB4.out⟩
        case round =>
          clear HS1 HS2 HB4 HX hl3 hB3 hz2
          obtain ⟨v, os', hh, hd, hl, hs, hbl⟩ := hrel
          have HH := hidden hh
          have HD := hidden hd
          have HS := hidden hs
          obtain ⟨f1, f2, f3, f4, f5⟩ := hh
          by_cases h5 : 5 < os'.length
          · rcases hd.cases with ⟨_, h⟩ | ⟨g, capg, hvg, hg, hcg, hcm, hcell⟩
            · rw [h] at h5; simp at h5
            · subst hvg
              have hcn := hcell (os'.length - 1) (by omega)
              have HDN := hidden (dv_trim (os := os') (n := os'.length - 1) (by omega))
              have HDT := hidden (hd.trim (n := os'.length - 1) (by omega))
              have HLA := hidden (lenAt_is f3)
              have hlq : os'.length ≤ 5 + (k + 1) := hl
              unfold maxLen at hcm
              clear hd hs hcell
              by_cases hz : os'.getD (os'.length - 1) 0 = 0
              · have HZ0 := hidden hz
                rw [hz] at hcn
                have T1 := hidden (HH.out.set1 (.slice (some ⟨g, 0, none⟩) (os'.length - 1) capg))
                have T2 := hidden (Dig.set (o := 1) (u := .slice (some ⟨g, 0, none⟩) (os'.length - 1) capg) HDT.out f2)
                have T3 := hidden (hbl.setCell (p := ⟨w1.heap.size, 1, none⟩) (Nat.le_refl _) (.slice (some ⟨g, 0, none⟩) (os'.length - 1) capg))
                have T4 := hidden (lenAt_is T1.out.c1)
                clear hz hbl
                go_wp2
                go_roundw
                case rel => exact ⟨_, os'.take (os'.length - 1), T1.out, T2.out, by simp; omega, by rw [HDN.out HZ0.out]; exact HS.out, T3.out⟩
                case measure => rw [T4.out, HLA.out]; omega
              · generalize os'.getD (os'.length - 1) 0 = X at hcn hz
                have hx : (X == 0) = false := beq_eq_false_iff_ne.2 hz
                clear hz
                go_wp2
                go_roundw
                case rel => exact ⟨k + 1, neg3, _, os', by omega, by go_num, HH.out, HD.out, hlq, HS.out, hbl⟩
                case measure => simp [intOf]; omega
          · obtain ⟨adz, capz, hvz⟩ := hd.slice
            subst hvz
            clear hd hs
            go_wp2
            go_roundw
            case rel => exact ⟨k + 1, neg3, _, os', by omega, by go_num, HH.out, HD.out, hl, HS.out, hbl⟩
            case measure => simp [intOf]; omega
    · have HX : Hid (sg neg (dv os) = sumL zs) := by have := HS.out; rw [List.take_of_length_le (by omega)] at this; exact this
      clear HS
      go_wp2_with fail
      refine (to64_any _ _ os _ HD.out).mono ?_; rintro e w4 ⟨rfl, k4⟩
      have hfin := below_on hbk k4
      go_wp2
      go_ret2
      exact ⟨ret_ii (by rw [HX.out]) (by rw [HX.out]), hfin⟩
end Go.Proofs.Ytfpjggoonekooaa
