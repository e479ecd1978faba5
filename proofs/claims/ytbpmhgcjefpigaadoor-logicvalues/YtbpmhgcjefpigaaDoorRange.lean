/- Contract of Range: for all three numbers of 64 bits. -/
import Derived.Test.YtbpmhgcjefpigaaDoorSum
import Derived.Maps.AppendAt
import Derived.WalkMore
namespace Go.Proofs.YtbpmhgcjefpigaaDoor
open Go.RowKit
set_option linter.unusedVariables false

theorem Tryd.info2 : (Tryd.prog.info? 2).map (fun i => (i.zero, i.size, i.bytes)) = some (some (.int .i64 0), 1, 8) := by kernel_rfl

def beyond (to step x : Int) : Bool := (decide (0 < step) && decide (to < x)) || (decide (step < 0) && decide (x < to))
def inside (n : Int) : Bool := decide (-9223372036854775808 ≤ n) && decide (n ≤ 9223372036854775807)

/-- The numbers of a range, at most so many. -/
def rgo (to step : Int) : Nat → Int → List Int
  | 0, _ => []
  | k + 1, x => if beyond to step x then [] else x :: (if inside (x + step) then rgo to step k (x + step) else [])

def sliceLen : Value → Nat
  | .slice _ n _ => n
  | _ => 0

theorem ownsRow_slice {w : World} {base e size : Nat} {v : Value} {n : Nat} {xs : List Value} (h : w.ownsRow base e size v n xs) : ∃ ad cap, v = .slice ad n cap := by
  obtain ⟨_, h | ⟨g, cap, cur, rfl, _⟩⟩ := h
  · obtain ⟨rfl, rfl⟩ := h; exact ⟨_, _, rfl⟩
  · exact ⟨_, _, rfl⟩

theorem rgo_end {to step x : Int} {k : Nat} (h : beyond to step x = true) : rgo to step k x = [] := by
  cases k with
  | zero => rfl
  | succ k => simp [rgo, h]
theorem rgo_on {to step x : Int} {k : Nat} (h : beyond to step x = false) (h2 : inside (x + step) = true) : rgo to step (k + 1) x = x :: rgo to step k (x + step) := by simp [rgo, h, h2]
theorem rgo_last {to step x : Int} {k : Nat} (h : beyond to step x = false) (h2 : inside (x + step) = false) : rgo to step (k + 1) x = [x] := by simp [rgo, h, h2]
theorem rgo_pos {to step x : Int} {k : Nat} (h : beyond to step x = false) : 0 < (rgo to step (k + 1) x).length := by simp [rgo, h]

theorem len_snoc (acc : List Int) (n : Int) : (acc ++ [n]).length = acc.length + 1 := by simp
theorem rel_app {w wr w1 : World} {v v' : Value} {acc : List Int} {n : Int} {o : Obj} (hown : wr.ownsRow w.heap.size 2 1 v acc.length (acc.map (Value.int .i64))) (hbel : Below w.heap.size w wr)
    (hown' : w1.ownsRow w.heap.size 2 1 v' (acc.length + 1) (acc.map (Value.int .i64) ++ [.int .i64 n])) (hgrow : (wr.alloc o).grownBy w1 v.ownBlock) :
    w1.ownsRow w.heap.size 2 1 v' (acc.length + 1) ((acc ++ [n]).map (Value.int .i64)) ∧ Below w.heap.size w w1 := by
  refine ⟨by simpa using hown', ?_⟩
  exact (hbel.alloc hbel.size o).grown hgrow (by have := hbel.size; simp; omega) (fun j hj => by have := (hown.lt j hj).1; omega)

/-- What is told of a range: too long, or the numbers. -/
def RangeSays (to step fr : Int) (w : World) (e : Ending) (w' : World) : Prop :=
  Below w.heap.size w w' ∧
      ((65536 < (rgo to step 65537 fr).length ∧ e = .returned (.tuple #[.slice none 0 0, .int .i64 3])) ∨
       ((rgo to step 65537 fr).length ≤ 65536 ∧ ∃ v, e = .returned (.tuple #[v, .int .i64 0]) ∧ w'.ownsRow w.heap.size 2 1 v (rgo to step 65537 fr).length ((rgo to step 65537 fr).map (Value.int .i64))))

theorem says_end {to step fr n : Int} {w wr : World} {acc : List Int} {v : Value} {k : Nat} (HRG : Hid (rgo to step 65537 fr = acc ++ rgo to step k n)) (hb : beyond to step n = true) (hlen : acc.length ≤ 65536)
    (hown : wr.ownsRow w.heap.size 2 1 v acc.length (acc.map (Value.int .i64))) (hbel : Below w.heap.size w wr) : RangeSays to step fr w (.returned (.tuple #[v, .int .i64 0])) wr := by
  have h := HRG.out
  rw [rgo_end hb, List.append_nil] at h
  unfold RangeSays
  rw [h]
  exact ⟨hbel, Or.inr ⟨hlen, v, rfl, hown⟩⟩
theorem says_last {to step fr n : Int} {w wr : World} {acc : List Int} {v : Value} (HRG : Hid (rgo to step 65537 fr = acc ++ rgo to step (65537 - acc.length) n)) (hb : beyond to step n = false) (hi : inside (n + step) = false) (hlen : acc.length < 65536)
    (hown : wr.ownsRow w.heap.size 2 1 v (acc.length + 1) ((acc ++ [n]).map (Value.int .i64))) (hbel : Below w.heap.size w wr) : RangeSays to step fr w (.returned (.tuple #[v, .int .i64 0])) wr := by
  have h := HRG.out
  rw [show 65537 - acc.length = (65536 - acc.length) + 1 by omega, rgo_last hb hi] at h
  unfold RangeSays
  rw [h]
  exact ⟨hbel, Or.inr ⟨by simp; omega, v, rfl, by rw [len_snoc]; exact hown⟩⟩
theorem says_long {to step fr n : Int} {w wr : World} {acc : List Int} (HRG : Hid (rgo to step 65537 fr = acc ++ rgo to step (65537 - acc.length) n)) (hb : beyond to step n = false) (hlen : acc.length = 65536)
    (hbel : Below w.heap.size w wr) : RangeSays to step fr w (.returned (.tuple #[.slice none 0 0, .int .i64 3])) wr := by
  have h := HRG.out
  rw [hlen, show (65537 - 65536 : Nat) = 0 + 1 by omega] at h
  have hp := rgo_pos (k := 0) hb
  unfold RangeSays
  rw [h]
  exact ⟨hbel, Or.inl ⟨by rw [List.length_append, hlen]; omega, rfl⟩⟩
theorem rgo_next {to step fr n : Int} {acc : List Int} (HRG : Hid (rgo to step 65537 fr = acc ++ rgo to step (65537 - acc.length) n)) (hb : beyond to step n = false) (hi : inside (n + step) = true) (hlen : acc.length < 65536) :
    rgo to step 65537 fr = (acc ++ [n]) ++ rgo to step (65537 - (acc ++ [n]).length) (n + step) := by
  rw [HRG.out, show 65537 - acc.length = (65536 - acc.length) + 1 by omega, rgo_on hb hi]
  simp [show 65537 - (acc.length + 1) = 65536 - acc.length by omega]

set_option maxHeartbeats 1600000 in
set_option maxRecDepth 100000 in
theorem range_any (fr to step : Int) (w : World) (hf1 : -9223372036854775808 ≤ fr) (hf2 : fr ≤ 9223372036854775807) (ht1 : -9223372036854775808 ≤ to) (ht2 : to ≤ 9223372036854775807)
    (hs1 : -9223372036854775808 ≤ step) (hs2 : step ≤ 9223372036854775807) (hs : 0 < step ∨ step < 0) :
    Calls Tryd.prog 20 #[.int .i64 fr, .int .i64 to, .int .i64 step] w fun e w' => RangeSays to step fr w e w' := by
  obtain ⟨i0, hi, hz0, hz1, hz2⟩ := info_parts Tryd.info2
  have hs0 : (step == 0) = false := beq_eq_false_iff_ne.2 (by omega)
  rcases hs with hs | hs
  · go_enter Tryd.func20, Tryd.ntmps20
    go_wp2
    go_step3
    go_wp2
    go_step3
    go_wp2
    go_loopw [8, 9] (fun v nn wr => ∃ acc : List Int, ∃ n : Int, nn = .int .i64 n ∧ -9223372036854775808 ≤ n ∧ n ≤ 9223372036854775807 ∧ acc.length ≤ 65536 ∧
        wr.ownsRow w.heap.size 2 1 v acc.length (acc.map (Value.int .i64)) ∧ Below w.heap.size w wr ∧ rgo to step 65537 fr = acc ++ rgo to step (65537 - acc.length) n)
      (fun v _ _ => 65537 - sliceLen v)
    case atStart => exact ⟨[], fr, rfl, hf1, hf2, by simp, World.ownsRow_nil _ _ _ _, Below.refl _ _, by simp⟩
    case round =>
      obtain ⟨acc, n, rfl, hn1, hn2, hlen, hown, hbel, hrg⟩ := hrel
      have HRG : Hid (rgo to step 65537 fr = acc ++ rgo to step (65537 - acc.length) n) := hrg
      clear hrg
      obtain ⟨ad, cap, rfl⟩ := ownsRow_slice hown
      by_cases hby : to < n
      · have HB : Hid (beyond to step n = true) := by unfold Hid beyond; simp; omega
        go_wp2
        try rw [Exit.noGoto_ret]
        go_ret2
        exact says_end HRG HB.out hlen hown hbel
      · have HB : Hid (beyond to step n = false) := by unfold Hid beyond; simp; omega
        by_cases hfull : acc.length = 65536
        · have hf : ((acc.length : Int) == 65536) = true := by simp; omega
          have HFU : Hid (acc.length = 65536) := hfull
          clear hfull
          go_wp2
          go_ret2
          exact says_long HRG HB.out HFU.out hbel
        · have hf : ((acc.length : Int) == 65536) = false := by simp; omega
          have hll : acc.length < 65536 := by omega
          clear hfull
          go_wp2_with (first
            | (at_builtin; refine wpList_append_own _ rfl _ _ 40 rfl w.heap.size 2 i0 (.int .i64 0) 1 8 Tryd.underlying40 hi hz0 hz1 hz2 rfl (by decide) _ _ _ rfl (hown.alloc _) ⟨wr.heap.size, 0, none⟩ 1 1 [.int .i64 n] rfl rfl ?c1 ?c2 ?c3 ?c4 ?c5 ?_)
            | fail)
          case c2 => rfl
          case c3 => unfold maxLen; omega
          case c4 => omega
          case c5 => have := hbel.size; simp; omega
          intro v' w1 hown' hgrow _
          have R := rel_app hown hbel hown' hgrow
          obtain ⟨R1, R2⟩ := R
          clear hown' hgrow hown hbel hf
          obtain ⟨ad', cap', rfl⟩ := ownsRow_slice R1
          by_cases hin : inside (n + step) = true
          · have HI : Hid (inside (n + step) = true) := hin
            have hin2 : -9223372036854775808 ≤ n + step ∧ n + step ≤ 9223372036854775807 := by unfold inside at hin; simpa using hin
            obtain ⟨b1, b2⟩ := hin2
            clear hin
            go_wp2_with fail
            refine (add_fits _ _ _ b1 b2).mono ?_
            rintro e w' ⟨rfl, rfl⟩
            go_wp2
            go_roundw
            case rel => exact ⟨acc ++ [n], n + step, rfl, b1, b2, by simp; omega, by rw [len_snoc]; exact R1, R2, rgo_next HRG HB.out HI.out hll⟩
            case measure => simp [sliceLen]; omega
          · have HI : Hid (inside (n + step) = false) := by unfold Hid; simpa using hin
            have hout : n + step < -9223372036854775808 ∨ 9223372036854775807 < n + step := by
              unfold inside at hin; simp at hin; omega
            clear hin
            rcases hout with ho | ho
            · go_wp2_with fail
              refine (add_under _ _ _ hn1 hs1 ho).mono ?_
              rintro e w' ⟨rfl, rfl⟩
              go_wp2
              try rw [Exit.noGoto_ret]
              go_ret2
              exact says_last HRG HB.out HI.out hll R1 R2
            · go_wp2_with fail
              refine (add_over _ _ _ hn2 hs2 ho).mono ?_
              rintro e w' ⟨rfl, rfl⟩
              go_wp2
              try rw [Exit.noGoto_ret]
              go_ret2
              exact says_last HRG HB.out HI.out hll R1 R2
  · go_enter Tryd.func20, Tryd.ntmps20
    go_wp2
    go_step3
    go_wp2
    go_step3
    go_wp2
    go_loopw [8, 9] (fun v nn wr => ∃ acc : List Int, ∃ n : Int, nn = .int .i64 n ∧ -9223372036854775808 ≤ n ∧ n ≤ 9223372036854775807 ∧ acc.length ≤ 65536 ∧
        wr.ownsRow w.heap.size 2 1 v acc.length (acc.map (Value.int .i64)) ∧ Below w.heap.size w wr ∧ rgo to step 65537 fr = acc ++ rgo to step (65537 - acc.length) n)
      (fun v _ _ => 65537 - sliceLen v)
    case atStart => exact ⟨[], fr, rfl, hf1, hf2, by simp, World.ownsRow_nil _ _ _ _, Below.refl _ _, by simp⟩
    case round =>
      obtain ⟨acc, n, rfl, hn1, hn2, hlen, hown, hbel, hrg⟩ := hrel
      have HRG : Hid (rgo to step 65537 fr = acc ++ rgo to step (65537 - acc.length) n) := hrg
      clear hrg
      obtain ⟨ad, cap, rfl⟩ := ownsRow_slice hown
      by_cases hby : n < to
      · have HB : Hid (beyond to step n = true) := by unfold Hid beyond; simp; omega
        go_wp2
        try rw [Exit.noGoto_ret]
        go_ret2
        exact says_end HRG HB.out hlen hown hbel
      · have HB : Hid (beyond to step n = false) := by unfold Hid beyond; simp; omega
        by_cases hfull : acc.length = 65536
        · have hf : ((acc.length : Int) == 65536) = true := by simp; omega
          have HFU : Hid (acc.length = 65536) := hfull
          clear hfull
          go_wp2
          go_ret2
          exact says_long HRG HB.out HFU.out hbel
        · have hf : ((acc.length : Int) == 65536) = false := by simp; omega
          have hll : acc.length < 65536 := by omega
          clear hfull
          go_wp2_with (first
            | (at_builtin; refine wpList_append_own _ rfl _ _ 40 rfl w.heap.size 2 i0 (.int .i64 0) 1 8 Tryd.underlying40 hi hz0 hz1 hz2 rfl (by decide) _ _ _ rfl (hown.alloc _) ⟨wr.heap.size, 0, none⟩ 1 1 [.int .i64 n] rfl rfl ?d1 ?d2 ?d3 ?d4 ?d5 ?_)
            | fail)
          case d2 => rfl
          case d3 => unfold maxLen; omega
          case d4 => omega
          case d5 => have := hbel.size; simp; omega
          intro v' w1 hown' hgrow _
          have R := rel_app hown hbel hown' hgrow
          obtain ⟨R1, R2⟩ := R
          clear hown' hgrow hown hbel hf
          obtain ⟨ad', cap', rfl⟩ := ownsRow_slice R1
          by_cases hin : inside (n + step) = true
          · have HI : Hid (inside (n + step) = true) := hin
            have hin2 : -9223372036854775808 ≤ n + step ∧ n + step ≤ 9223372036854775807 := by unfold inside at hin; simpa using hin
            obtain ⟨b1, b2⟩ := hin2
            clear hin
            go_wp2_with fail
            refine (add_fits _ _ _ b1 b2).mono ?_
            rintro e w' ⟨rfl, rfl⟩
            go_wp2
            go_roundw
            case rel => exact ⟨acc ++ [n], n + step, rfl, b1, b2, by simp; omega, by rw [len_snoc]; exact R1, R2, rgo_next HRG HB.out HI.out hll⟩
            case measure => simp [sliceLen]; omega
          · have HI : Hid (inside (n + step) = false) := by unfold Hid; simpa using hin
            have hout : n + step < -9223372036854775808 ∨ 9223372036854775807 < n + step := by
              unfold inside at hin; simp at hin; omega
            clear hin
            rcases hout with ho | ho
            · go_wp2_with fail
              refine (add_under _ _ _ hn1 hs1 ho).mono ?_
              rintro e w' ⟨rfl, rfl⟩
              go_wp2
              try rw [Exit.noGoto_ret]
              go_ret2
              exact says_last HRG HB.out HI.out hll R1 R2
            · go_wp2_with fail
              refine (add_over _ _ _ hn2 hs2 ho).mono ?_
              rintro e w' ⟨rfl, rfl⟩
              go_wp2
              try rw [Exit.noGoto_ret]
              go_ret2
              exact says_last HRG HB.out HI.out hll R1 R2
end Go.Proofs.YtbpmhgcjefpigaaDoor
