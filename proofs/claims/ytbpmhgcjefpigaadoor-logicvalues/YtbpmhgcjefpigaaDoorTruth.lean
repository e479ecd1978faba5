/- Contracts of And, Or, Xor, Not and three: for every world and every list of truths that lies in it. -/
import Derived.Test.YtbpmhgcjefpigaaDoorNum
import Derived.Deep.QuietTactic
import Derived.BigQuiet
import Derived.WalkSmall
namespace Go.Proofs.YtbpmhgcjefpigaaDoor
open Go.RowKit
set_option linter.unusedVariables false

theorem bcell {W w1 : World} (hb : Below W.heap.size W w1) : (∀ b o, b < W.heap.size → w1.cell? ⟨b, o, none⟩ = W.cell? ⟨b, o, none⟩) ∧ (∀ b o, b < W.heap.size → w1.frozen? ⟨b, o, none⟩ = W.frozen? ⟨b, o, none⟩) :=
  ⟨fun b o h => hb.cell (p := ⟨b, o, none⟩) h, fun b o h => hb.frozen (p := ⟨b, o, none⟩) h⟩

theorem below_alloc {w w' : World} {o : Obj} (h : Below (w.alloc o).heap.size (w.alloc o) w') : Below w.heap.size w w' :=
  ((Below.refl _ _).alloc (Nat.le_refl _) o).trans (h.mono (by simp))
theorem below_on {w w1 w2 : World} (h : Below w.heap.size w w1) (k : Below w1.heap.size w1 w2) : Below w.heap.size w w2 := h.trans (k.mono h.size)

/-- A table of two: nine answers, read by row and by place. -/
def tb (c0 c1 c2 c3 c4 c5 c6 c7 c8 i j : Int) : Int :=
  if i = 0 then (if j = 0 then c0 else if j = 1 then c1 else c2) else if i = 1 then (if j = 0 then c3 else if j = 1 then c4 else c5) else (if j = 0 then c6 else if j = 1 then c7 else c8)

theorem kn_three (t : Int) : kn t = 0 ∨ kn t = 1 ∨ kn t = 2 := by have := kn_lo t; have := kn_hi t; omega

theorem fold_step {f : Int → Int → Int} {zs : List Int} {k : Nat} {a0 a z v : Int} (hlt : k < zs.length) (HF : Hid (a = (zs.take k).foldl f a0)) (HZ : Hid (zs.getD k 0 = z)) (hv : f a z = v) : v = (zs.take (k + 1)).foldl f a0 := by
  have h1 := HF.out
  have h2 := HZ.out
  have h3 : zs[k] = z := by rw [← h2, List.getD_eq_getElem?_getD, List.getElem?_eq_getElem hlt]; rfl
  rw [List.take_succ_eq_append_getElem hlt, List.foldl_append, ← h1, h3]
  exact hv.symm

set_option maxHeartbeats 800000 in
theorem together_any (c0 c1 c2 c3 c4 c5 c6 c7 c8 a0 : Int) (b off len cap : Nat) (zs : List Int) (w : World) (hl : len = zs.length) (hm : len ≤ 17592186044416) (hb : b < w.heap.size)
    (hc : ∀ j, j < len → w.cell? ⟨b, off + j, none⟩ = some (.int .i64 (zs.getD j 0)))
    (ha : a0 = 0 ∨ a0 = 1 ∨ a0 = 2)
    (ht : ∀ i j, tb c0 c1 c2 c3 c4 c5 c6 c7 c8 i j = 0 ∨ tb c0 c1 c2 c3 c4 c5 c6 c7 c8 i j = 1 ∨ tb c0 c1 c2 c3 c4 c5 c6 c7 c8 i j = 2) :
    Calls Tryd.prog 31 #[.int .i64 a0, .agg #[.int .i64 c0, .int .i64 c1, .int .i64 c2, .int .i64 c3, .int .i64 c4, .int .i64 c5, .int .i64 c6, .int .i64 c7, .int .i64 c8], .slice (some ⟨b, off, none⟩) len cap] w fun e w' =>
      e = .returned (.int .i64 (zs.foldl (fun a z => tb c0 c1 c2 c3 c4 c5 c6 c7 c8 a (kn z)) a0)) ∧ Below w.heap.size w w' := by
  subst hl
  go_enter Tryd.func31, Tryd.ntmps31
  go_wp2
  go_loopw [0, 11] (fun v i wr => ∃ k : Nat, ∃ a : Int, k ≤ zs.length ∧ i = .int .i64 k ∧ v = .int .i64 a ∧ (a = 0 ∨ a = 1 ∨ a = 2) ∧ a = (zs.take k).foldl (fun a z => tb c0 c1 c2 c3 c4 c5 c6 c7 c8 a (kn z)) a0 ∧
      Below w.heap.size w wr ∧ wr.cell? ⟨w.heap.size, 0, none⟩ = some (.int .i64 c0) ∧ wr.cell? ⟨w.heap.size, 1, none⟩ = some (.int .i64 c1) ∧ wr.cell? ⟨w.heap.size, 2, none⟩ = some (.int .i64 c2) ∧
      wr.cell? ⟨w.heap.size, 3, none⟩ = some (.int .i64 c3) ∧ wr.cell? ⟨w.heap.size, 4, none⟩ = some (.int .i64 c4) ∧ wr.cell? ⟨w.heap.size, 5, none⟩ = some (.int .i64 c5) ∧
      wr.cell? ⟨w.heap.size, 6, none⟩ = some (.int .i64 c6) ∧ wr.cell? ⟨w.heap.size, 7, none⟩ = some (.int .i64 c7) ∧ wr.cell? ⟨w.heap.size, 8, none⟩ = some (.int .i64 c8))
    (fun _ i _ => zs.length - (intOf i).toNat)
  case atStart => exact ⟨0, a0, Nat.zero_le _, rfl, rfl, ha, by simp, (Below.refl _ _).alloc (Nat.le_refl _) _, by simp, by simp, by simp, by simp, by simp, by simp, by simp, by simp, by simp⟩
  case round =>
    obtain ⟨k, a, hk, rfl, rfl, ha', hfold, hbel, h0, h1, h2, h3, h4, h5, h6, h7, h8⟩ := hrel
    have HF : Hid (a = (zs.take k).foldl (fun a z => tb c0 c1 c2 c3 c4 c5 c6 c7 c8 a (kn z)) a0) := hfold
    clear hfold
    by_cases hlt : k < zs.length
    · have hcx : wr.cell? ⟨b, off + k, none⟩ = some (.int .i64 (zs.getD k 0)) := (hbel.cell (by exact hb)).trans (hc k hlt)
      obtain ⟨z, hz⟩ : ∃ z, zs.getD k 0 = z := ⟨_, rfl⟩
      rw [hz] at hcx
      have HZ : Hid (zs.getD k 0 = z) := hz
      clear hz hc
      have HK := kn_three z
      rcases ha' with rfl | rfl | rfl
      all_goals
        rcases HK with hz0 | hz0 | hz0
        all_goals
          go_wp2
          go_quiet ((go_at_call 32; exact Calls.quiet_of_same (known_any _ _)))
          go_wp2
          go_roundw
          case rel =>
            refine ⟨k + 1, _, by omega, by go_num, rfl, ?d, ?f, below_drewN hbel _, h0, h1, h2, h3, h4, h5, h6, h7, h8⟩
            case d => first | exact ht 0 0 | exact ht 0 1 | exact ht 0 2 | exact ht 1 0 | exact ht 1 1 | exact ht 1 2 | exact ht 2 0 | exact ht 2 1 | exact ht 2 2
            case f => exact fold_step hlt HF HZ (by rw [hz0]; rfl)
          case measure => simp [intOf]; omega
    · have hke : k = zs.length := by omega
      have hfin := HF.out
      rw [hke, List.take_length] at hfin
      have HG : Hid (a = zs.foldl (fun a z => tb c0 c1 c2 c3 c4 c5 c6 c7 c8 a (kn z)) a0) := hfin
      clear hfin hc hke
      go_wp2
      go_ret
      exact ⟨ret_int HG.out, hbel⟩

def andL (zs : List Int) : Int := zs.foldl (fun a z => tb 0 0 0 0 1 1 0 1 2 a (kn z)) 2
def orL (zs : List Int) : Int := zs.foldl (fun a z => tb 0 1 2 1 1 2 2 2 2 a (kn z)) 0
def xorL (zs : List Int) : Int := zs.foldl (fun a z => tb 0 1 2 1 1 1 2 1 0 a (kn z)) 0
def notI (a : Int) : Int := 2 - kn a

theorem and_any (b off len cap : Nat) (zs : List Int) (w : World) (hl : len = zs.length) (hm : len ≤ 17592186044416) (hb : b < w.heap.size)
    (hc : ∀ j, j < len → w.cell? ⟨b, off + j, none⟩ = some (.int .i64 (zs.getD j 0))) :
    Calls Tryd.prog 7 #[.slice (some ⟨b, off, none⟩) len cap] w fun e w' => e = .returned (.int .i64 (andL zs)) ∧ Below w.heap.size w w' := by
  have HC : Hid (∀ j, j < len → w.cell? ⟨b, off + j, none⟩ = some (.int .i64 (zs.getD j 0))) := hc
  have HL : Hid (len = zs.length) := hl
  clear hc hl
  go_enter Tryd.func7, Tryd.ntmps7
  go_wp2_with fail
  refine (together_any _ _ _ _ _ _ _ _ _ _ b off len cap zs _ HL.out hm hb HC.out (by omega) (by intro i j; unfold tb; repeat' split; all_goals omega)).mono ?_
  rintro e w' ⟨rfl, hbel⟩
  go_wp2
  go_ret
  exact ⟨rfl, hbel⟩

theorem or_any (b off len cap : Nat) (zs : List Int) (w : World) (hl : len = zs.length) (hm : len ≤ 17592186044416) (hb : b < w.heap.size)
    (hc : ∀ j, j < len → w.cell? ⟨b, off + j, none⟩ = some (.int .i64 (zs.getD j 0))) :
    Calls Tryd.prog 8 #[.slice (some ⟨b, off, none⟩) len cap] w fun e w' => e = .returned (.int .i64 (orL zs)) ∧ Below w.heap.size w w' := by
  have HC : Hid (∀ j, j < len → w.cell? ⟨b, off + j, none⟩ = some (.int .i64 (zs.getD j 0))) := hc
  have HL : Hid (len = zs.length) := hl
  clear hc hl
  go_enter Tryd.func8, Tryd.ntmps8
  go_wp2_with fail
  refine (together_any _ _ _ _ _ _ _ _ _ _ b off len cap zs _ HL.out hm hb HC.out (by omega) (by intro i j; unfold tb; repeat' split; all_goals omega)).mono ?_
  rintro e w' ⟨rfl, hbel⟩
  go_wp2
  go_ret
  exact ⟨rfl, hbel⟩

theorem xor_any (x y : Int) (w : World) :
    Calls Tryd.prog 13 #[.int .i64 x, .int .i64 y] w fun e w' => e = .returned (.int .i64 (xorL [x, y])) ∧ Below w.heap.size w w' := by
  go_enter Tryd.func13, Tryd.ntmps13
  go_wp2_with fail
  refine (together_any _ _ _ _ _ _ _ _ _ _ w.heap.size 0 2 2 [x, y] _ rfl (by omega) (by simp) ?c (by omega) (by intro i j; unfold tb; repeat' split; all_goals omega)).mono ?_
  case c => intro j hj; match j, hj with
    | 0, _ => simp
    | 1, _ => simp
  rintro e w' ⟨rfl, hbel⟩
  go_wp2
  go_ret
  exact ⟨rfl, below_alloc hbel⟩

theorem not_any (x : Int) (w : World) :
    Calls Tryd.prog 15 #[.int .i64 x] w fun e w' => e = .returned (.int .i64 (notI x)) ∧ Below w.heap.size w w' := by
  have HK := kn_three x
  rcases HK with h | h | h
  all_goals
    have HN : Hid (notI x = 2 - kn x) := rfl
    go_enter Tryd.func15, Tryd.ntmps15
    go_wp2_with (go_at_call 32; refine (known_any _ _).mono ?_; rintro e w' ⟨rfl, rfl⟩)
    go_ret
    exact ⟨ret_int (by rw [HN.out, h]; rfl), (Below.refl _ _).alloc (Nat.le_refl _) _⟩

/- The same at a list that the caller has just laid. -/
theorem and_two (x y : Int) (w : World) :
    Calls Tryd.prog 7 #[.slice (some ⟨w.heap.size, 0, none⟩) 2 2] (w.alloc (.cells #[.int .i64 x, .int .i64 y] 23)) fun e w' => e = .returned (.int .i64 (andL [x, y])) ∧ Below w.heap.size w w' := by
  refine (and_any w.heap.size 0 2 2 [x, y] _ rfl (by omega) (by simp) ?c).mono ?_
  case c => intro j hj; match j, hj with
    | 0, _ => simp
    | 1, _ => simp
  rintro e w' ⟨rfl, hbel⟩
  exact ⟨rfl, below_alloc hbel⟩
theorem or_two (x y : Int) (w : World) :
    Calls Tryd.prog 8 #[.slice (some ⟨w.heap.size, 0, none⟩) 2 2] (w.alloc (.cells #[.int .i64 x, .int .i64 y] 23)) fun e w' => e = .returned (.int .i64 (orL [x, y])) ∧ Below w.heap.size w w' := by
  refine (or_any w.heap.size 0 2 2 [x, y] _ rfl (by omega) (by simp) ?c).mono ?_
  case c => intro j hj; match j, hj with
    | 0, _ => simp
    | 1, _ => simp
  rintro e w' ⟨rfl, hbel⟩
  exact ⟨rfl, below_alloc hbel⟩
theorem and_three (x y z : Int) (w : World) :
    Calls Tryd.prog 7 #[.slice (some ⟨w.heap.size, 0, none⟩) 3 3] (w.alloc (.cells #[.int .i64 x, .int .i64 y, .int .i64 z] 23)) fun e w' => e = .returned (.int .i64 (andL [x, y, z])) ∧ Below w.heap.size w w' := by
  refine (and_any w.heap.size 0 3 3 [x, y, z] _ rfl (by omega) (by simp) ?c).mono ?_
  case c => intro j hj; match j, hj with
    | 0, _ => simp
    | 1, _ => simp
    | 2, _ => simp
  rintro e w' ⟨rfl, hbel⟩
  exact ⟨rfl, below_alloc hbel⟩
theorem or_three (x y z : Int) (w : World) :
    Calls Tryd.prog 8 #[.slice (some ⟨w.heap.size, 0, none⟩) 3 3] (w.alloc (.cells #[.int .i64 x, .int .i64 y, .int .i64 z] 23)) fun e w' => e = .returned (.int .i64 (orL [x, y, z])) ∧ Below w.heap.size w w' := by
  refine (or_any w.heap.size 0 3 3 [x, y, z] _ rfl (by omega) (by simp) ?c).mono ?_
  case c => intro j hj; match j, hj with
    | 0, _ => simp
    | 1, _ => simp
    | 2, _ => simp
  rintro e w' ⟨rfl, hbel⟩
  exact ⟨rfl, below_alloc hbel⟩

end Go.Proofs.YtbpmhgcjefpigaaDoor
