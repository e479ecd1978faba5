/- Contract of WideAdd at two signs, and at all. -/
import Derived.Test.YtfpjggoonekooaaWsum
namespace Go.Proofs.Ytfpjggoonekooaa
open Go.RowKit Go.WideShapes
set_option linter.unusedVariables false

theorem SizeSays.lt {ds es : List Int} {e : Ending} (h : SizeSays ds es e) (hl : dv ds < dv es) : e = .returned (.int .i64 (-1)) := by
  rcases h with ⟨h, _⟩ | ⟨_, h⟩ | ⟨_, h⟩
  · exact h
  · omega
  · omega
theorem SizeSays.ge {ds es : List Int} {e : Ending} (h : SizeSays ds es e) (hl : dv es ≤ dv ds) : e = .returned (.int .i64 0) ∨ e = .returned (.int .i64 1) := by
  rcases h with ⟨_, h⟩ | ⟨h, _⟩ | ⟨h, _⟩
  · omega
  · exact Or.inl h
  · exact Or.inr h

set_option maxHeartbeats 6400000 in
theorem wadd_keep (na nb : Bool) (va vb : Value) (ds es : List Int) (w : World) (hne : (na == nb) = false) (ha : Dig w va ds) (hb : Dig w vb es) (la : ds.length ≤ 100000) (lb : es.length ≤ 100000) (hle : dv es ≤ dv ds) :
    Calls Try.prog 39 #[.agg #[.bool na, va], .agg #[.bool nb, vb]] w fun e w' => WideSays w (sg na (dv ds - dv es)) (max ds.length es.length + 1) e w' := by
  obtain ⟨i0, hi, hz0, hz1, hz2⟩ := info_parts Try.info3
  have HLE : Hid (dv es ≤ dv ds) := hle
  have HA : Hid (Dig w va ds) := ha
  have HB : Hid (Dig w vb es) := hb
  obtain ⟨aa, ca, rfl⟩ := ownsRow_slice ha.1
  obtain ⟨ab, cb, rfl⟩ := ownsRow_slice hb.1
  clear ha hb hle
  obtain ⟨M, hM⟩ : ∃ M : Nat, M = max ds.length es.length := ⟨_, rfl⟩
  have m1 : ds.length ≤ M := by omega
  have m2 : es.length ≤ M := by omega
  have m3 : M ≤ 100000 := by omega
  have HMX : Hid (M = max ds.length es.length) := hM
  have hcase : (ds.length < es.length ∧ M = es.length) ∨ (es.length ≤ ds.length ∧ M = ds.length) := by omega
  clear hM
  have fin : Hid (∀ (k : Nat) (c : Int) (os : List Int) (ad : Option Addr) (cap : Nat) (wr : World), k = M + 1 → 0 ≤ c → c ≤ 1 → os.length = k → IsDig os → dv os - c * 65536 ^ k = dv (ds.take k) - dv (es.take k) →
      wr.ownsRow (w.heap.size + 4) 3 1 (.slice ad k cap) k (os.map (Value.int .i64)) → Below w.heap.size w wr →
      WideSays w (sg na (dv ds - dv es)) (max ds.length es.length + 1) (.returned (.agg #[.bool na, .slice ad k cap])) ((wr.setCell ⟨w.heap.size + 1 + 1, 0, none⟩ (.bool na)).setCell ⟨w.heap.size + 1 + 1, 1, none⟩ (.slice ad k cap))) := by
    intro k c os ad cap wr hk hc0 hc1 hl hdig hsum hown hbel
    refine ⟨na, _, os, rfl, ?_, ⟨?_, hdig⟩, by have := HMX.out; omega, ?_⟩
    · exact (hbel.setCell (p := ⟨w.heap.size + 1 + 1, 0, none⟩) (by show w.heap.size ≤ w.heap.size + 1 + 1; omega) _).setCell (p := ⟨w.heap.size + 1 + 1, 1, none⟩) (by show w.heap.size ≤ w.heap.size + 1 + 1; omega) _
    · rw [hl]
      exact ownsRow_low (ownsRow_set (ownsRow_set hown (a := ⟨w.heap.size + 1 + 1, 0, none⟩) (by show w.heap.size + 1 + 1 < w.heap.size + 4; omega) _) (a := ⟨w.heap.size + 1 + 1, 1, none⟩) (by show w.heap.size + 1 + 1 < w.heap.size + 4; omega) _)
    · rw [sub_fin hl hdig hsum (by omega) (by omega) hc0 hc1 (by have := HLE.out; omega)]
  rcases hcase with ⟨hlt, rfl⟩ | ⟨hlt, rfl⟩
  · go_enter Try.func39, Try.ntmps39
    go_wp2_with fail
    refine (size_says _ _ ds es _ (HA.out.later (((((Below.refl _ _).alloc (Nat.le_refl _) _).alloc (by simp) _).alloc (by simp; omega) _).alloc (by simp; omega) _)) (HB.out.later (((((Below.refl _ _).alloc (Nat.le_refl _) _).alloc (by simp) _).alloc (by simp; omega) _).alloc (by simp; omega) _)) (by omega) (by omega)).mono ?_
    rintro e wq ⟨hsz, rfl⟩
    have hsz2 := hsz.ge HLE.out
    clear hsz
    rcases hsz2 with rfl | rfl
    all_goals
      go_wp2
      go_loopw [7, 10] (fun cc i wr => ∃ k : Nat, ∃ os : List Int, ∃ c : Int, ∃ v : Value, k ≤ es.length + 1 ∧ i = .int .i64 k ∧ cc = .int .i64 c ∧ 0 ≤ c ∧ c ≤ 1 ∧ os.length = k ∧ IsDig os ∧ dv os - c * 65536 ^ k = dv (ds.take k) - dv (es.take k) ∧
          wr.ownsRow (w.heap.size + 4) 3 1 v k (os.map (Value.int .i64)) ∧ Four w.heap.size na (.slice aa ds.length ca) nb (.slice ab es.length cb) na v wr ∧ Below w.heap.size w wr)
        (fun _ i _ => es.length + 1 - (intOf i).toNat)
      case atStart =>
        refine ⟨0, [], 0, .slice none 0 0, by omega, rfl, rfl, by omega, by omega, rfl, ?_, by simp [dv], World.ownsRow_nil _ _ _ _, ?_, ?_⟩
        · intro d hd; simp at hd
        · exact four_start w na _ nb _
        · exact ((((Below.refl _ _).alloc (Nat.le_refl _) _).alloc (by simp) _).alloc (by simp; omega) _).alloc (by simp; omega) _
      case round =>
        obtain ⟨k, os, c, v, hk, rfl, rfl, c0, c1, hlen, hdig, hsum, hown, hfour, hbel⟩ := hrel
        have HL : Hid (os.length = k) := hlen
        have HD : Hid (IsDig os) := hdig
        have HS : Hid (dv os - c * 65536 ^ k = dv (ds.take k) - dv (es.take k)) := hsum
        have HF : Hid (Four w.heap.size na (.slice aa ds.length ca) nb (.slice ab es.length cb) na v wr) := hfour
        obtain ⟨f1, f2, f3, f4, f5, f6, f7, f8, f9, f10, f11, f12⟩ := hfour
        obtain ⟨ad, cap, hv⟩ := ownsRow_slice hown
        subst hv
        clear hlen hdig hsum
        by_cases hlt4 : k < es.length + 1
        · have DA : Hid (Dig wr (.slice aa ds.length ca) ds) := HA.out.later hbel
          have DB : Hid (Dig wr (.slice ab es.length cb) es) := HB.out.later hbel
          have xb := isDig_getD (HA.out.2) k
          have yb := isDig_getD (HB.out.2) k
          obtain ⟨x, hx⟩ : ∃ x, ds.getD k 0 = x := ⟨_, rfl⟩
          obtain ⟨y, hy⟩ : ∃ y, es.getD k 0 = y := ⟨_, rfl⟩
          have HX : Hid (ds.getD k 0 = x) := hx
          have HY : Hid (es.getD k 0 = y) := hy
          rw [hx] at xb
          rw [hy] at yb
          obtain ⟨xb0, xb1⟩ := xb
          obtain ⟨yb0, yb1⟩ := yb
          clear hx hy
          go_wp2
          go_quiet ((go_at_call 44; exact Calls.quiet_of_same (digit_x _ _ _ _ _ (by first | exact DA.out | exact DB.out | exact Dig.drewN DA.out _ | exact Dig.drewN DB.out _) (by omega) (by first | exact HX | exact HY))))
          have hown2 := ownsRow_drewN hown nq
          go_wp2_with (first
            | (at_builtin; refine wpList_append_own _ rfl _ _ 56 rfl (w.heap.size + 4) 3 i0 (.int .i64 0) 1 8 Try.underlying56 hi hz0 hz1 hz2 rfl (by decide) _ _ _ rfl (hown2.alloc _) ⟨wr.heap.size, 0, none⟩ 1 1 [.int .i64 ((x - y + 65536 - c) % 65536)] rfl rfl (cell_one_new _ _ _) (by intro u hu; simp at hu; subst hu; rfl) (by unfold maxLen; omega) (by omega) (by simp; omega) ?_)
            | fail)
          intro v' w1 hown' hgrow _
          obtain ⟨ad', cap', hv'⟩ := ownsRow_slice hown'
          subst hv'
          have R : Below (w.heap.size + 4) wr w1 := (below_drewN (Below.refl _ _) nq).trans (app_below (wr := wr.drewN nq) f1 hown2 hgrow)
          have HF1 := HF.out.below R
          have HF2 : Hid (Four w.heap.size na (.slice aa ds.length ca) nb (.slice ab es.length cb) na (.slice ad' (k + 1) cap') (w1.setCell ⟨w.heap.size + 1 + 1 + 1, 1, none⟩ (.slice ad' (k + 1) cap'))) := HF1.set _
          have g1 := HF1.fo1
          have g2 := HF1.o1
          have hb2 : Below w.heap.size w (w1.setCell ⟨w.heap.size + 1 + 1 + 1, 1, none⟩ (.slice ad' (k + 1) cap')) := (hbel.trans (R.mono (by omega))).setCell (p := ⟨w.heap.size + 1 + 1 + 1, 1, none⟩) (by show w.heap.size ≤ w.heap.size + 1 + 1 + 1; omega) _
          have ho2 := ownsRow_set hown' (a := ⟨w.heap.size + 1 + 1 + 1, 1, none⟩) (by show w.heap.size + 1 + 1 + 1 < w.heap.size + 4; omega) (.slice ad' (k + 1) cap')
          clear hown' hgrow hown hown2 R HF1 hbel f1 f2 f3 f4 f5 f6 f7 f8 f9 f10 f11 f12 HF DA DB
          go_wp2
          go_roundw
          case rel => exact ⟨k + 1, os ++ [(x - y + 65536 - c) % 65536], 1 - (x - y + 65536 - c) / 65536, _, by omega, by go_num, rfl, by omega, by omega, by have := HL.out; simp; omega, isDig_snoc HD.out (by omega) (by omega), sub_step HL.out HS.out HX.out HY.out, by simpa using ho2, HF2.out, hb2⟩
          case measure => simp [intOf]; omega
        · have hke : k = es.length + 1 := by omega
          have HFI := fin.out k c os ad cap wr hke c0 c1 HL.out HD.out HS.out hown hbel
          have HFJ := hidden HFI
          clear HFI hke
          go_wp2
          exact bodyPost_ret (v := .agg #[.bool na, .slice ad k cap]) (by simp [results, Try.results39, go_sem, f6, f7]) rfl HFJ.out
  · go_enter Try.func39, Try.ntmps39
    go_wp2_with fail
    refine (size_says _ _ ds es _ (HA.out.later (((((Below.refl _ _).alloc (Nat.le_refl _) _).alloc (by simp) _).alloc (by simp; omega) _).alloc (by simp; omega) _)) (HB.out.later (((((Below.refl _ _).alloc (Nat.le_refl _) _).alloc (by simp) _).alloc (by simp; omega) _).alloc (by simp; omega) _)) (by omega) (by omega)).mono ?_
    rintro e wq ⟨hsz, rfl⟩
    have hsz2 := hsz.ge HLE.out
    clear hsz
    rcases hsz2 with rfl | rfl
    all_goals
      go_wp2
      go_loopw [7, 10] (fun cc i wr => ∃ k : Nat, ∃ os : List Int, ∃ c : Int, ∃ v : Value, k ≤ ds.length + 1 ∧ i = .int .i64 k ∧ cc = .int .i64 c ∧ 0 ≤ c ∧ c ≤ 1 ∧ os.length = k ∧ IsDig os ∧ dv os - c * 65536 ^ k = dv (ds.take k) - dv (es.take k) ∧
          wr.ownsRow (w.heap.size + 4) 3 1 v k (os.map (Value.int .i64)) ∧ Four w.heap.size na (.slice aa ds.length ca) nb (.slice ab es.length cb) na v wr ∧ Below w.heap.size w wr)
        (fun _ i _ => ds.length + 1 - (intOf i).toNat)
      case atStart =>
        refine ⟨0, [], 0, .slice none 0 0, by omega, rfl, rfl, by omega, by omega, rfl, ?_, by simp [dv], World.ownsRow_nil _ _ _ _, ?_, ?_⟩
        · intro d hd; simp at hd
        · exact four_start w na _ nb _
        · exact ((((Below.refl _ _).alloc (Nat.le_refl _) _).alloc (by simp) _).alloc (by simp; omega) _).alloc (by simp; omega) _
      case round =>
        obtain ⟨k, os, c, v, hk, rfl, rfl, c0, c1, hlen, hdig, hsum, hown, hfour, hbel⟩ := hrel
        have HL : Hid (os.length = k) := hlen
        have HD : Hid (IsDig os) := hdig
        have HS : Hid (dv os - c * 65536 ^ k = dv (ds.take k) - dv (es.take k)) := hsum
        have HF : Hid (Four w.heap.size na (.slice aa ds.length ca) nb (.slice ab es.length cb) na v wr) := hfour
        obtain ⟨f1, f2, f3, f4, f5, f6, f7, f8, f9, f10, f11, f12⟩ := hfour
        obtain ⟨ad, cap, hv⟩ := ownsRow_slice hown
        subst hv
        clear hlen hdig hsum
        by_cases hlt4 : k < ds.length + 1
        · have DA : Hid (Dig wr (.slice aa ds.length ca) ds) := HA.out.later hbel
          have DB : Hid (Dig wr (.slice ab es.length cb) es) := HB.out.later hbel
          have xb := isDig_getD (HA.out.2) k
          have yb := isDig_getD (HB.out.2) k
          obtain ⟨x, hx⟩ : ∃ x, ds.getD k 0 = x := ⟨_, rfl⟩
          obtain ⟨y, hy⟩ : ∃ y, es.getD k 0 = y := ⟨_, rfl⟩
          have HX : Hid (ds.getD k 0 = x) := hx
          have HY : Hid (es.getD k 0 = y) := hy
          rw [hx] at xb
          rw [hy] at yb
          obtain ⟨xb0, xb1⟩ := xb
          obtain ⟨yb0, yb1⟩ := yb
          clear hx hy
          go_wp2
          go_quiet ((go_at_call 44; exact Calls.quiet_of_same (digit_x _ _ _ _ _ (by first | exact DA.out | exact DB.out | exact Dig.drewN DA.out _ | exact Dig.drewN DB.out _) (by omega) (by first | exact HX | exact HY))))
          have hown2 := ownsRow_drewN hown nq
          go_wp2_with (first
            | (at_builtin; refine wpList_append_own _ rfl _ _ 56 rfl (w.heap.size + 4) 3 i0 (.int .i64 0) 1 8 Try.underlying56 hi hz0 hz1 hz2 rfl (by decide) _ _ _ rfl (hown2.alloc _) ⟨wr.heap.size, 0, none⟩ 1 1 [.int .i64 ((x - y + 65536 - c) % 65536)] rfl rfl (cell_one_new _ _ _) (by intro u hu; simp at hu; subst hu; rfl) (by unfold maxLen; omega) (by omega) (by simp; omega) ?_)
            | fail)
          intro v' w1 hown' hgrow _
          obtain ⟨ad', cap', hv'⟩ := ownsRow_slice hown'
          subst hv'
          have R : Below (w.heap.size + 4) wr w1 := (below_drewN (Below.refl _ _) nq).trans (app_below (wr := wr.drewN nq) f1 hown2 hgrow)
          have HF1 := HF.out.below R
          have HF2 : Hid (Four w.heap.size na (.slice aa ds.length ca) nb (.slice ab es.length cb) na (.slice ad' (k + 1) cap') (w1.setCell ⟨w.heap.size + 1 + 1 + 1, 1, none⟩ (.slice ad' (k + 1) cap'))) := HF1.set _
          have g1 := HF1.fo1
          have g2 := HF1.o1
          have hb2 : Below w.heap.size w (w1.setCell ⟨w.heap.size + 1 + 1 + 1, 1, none⟩ (.slice ad' (k + 1) cap')) := (hbel.trans (R.mono (by omega))).setCell (p := ⟨w.heap.size + 1 + 1 + 1, 1, none⟩) (by show w.heap.size ≤ w.heap.size + 1 + 1 + 1; omega) _
          have ho2 := ownsRow_set hown' (a := ⟨w.heap.size + 1 + 1 + 1, 1, none⟩) (by show w.heap.size + 1 + 1 + 1 < w.heap.size + 4; omega) (.slice ad' (k + 1) cap')
          clear hown' hgrow hown hown2 R HF1 hbel f1 f2 f3 f4 f5 f6 f7 f8 f9 f10 f11 f12 HF DA DB
          go_wp2
          go_roundw
          case rel => exact ⟨k + 1, os ++ [(x - y + 65536 - c) % 65536], 1 - (x - y + 65536 - c) / 65536, _, by omega, by go_num, rfl, by omega, by omega, by have := HL.out; simp; omega, isDig_snoc HD.out (by omega) (by omega), sub_step HL.out HS.out HX.out HY.out, by simpa using ho2, HF2.out, hb2⟩
          case measure => simp [intOf]; omega
        · have hke : k = ds.length + 1 := by omega
          have HFI := fin.out k c os ad cap wr hke c0 c1 HL.out HD.out HS.out hown hbel
          have HFJ := hidden HFI
          clear HFI hke
          go_wp2
          exact bodyPost_ret (v := .agg #[.bool na, .slice ad k cap]) (by simp [results, Try.results39, go_sem, f6, f7]) rfl HFJ.out

set_option maxHeartbeats 6400000 in
theorem wadd_swap (na nb : Bool) (va vb : Value) (ds es : List Int) (w : World) (hne : (na == nb) = false) (ha : Dig w va ds) (hb : Dig w vb es) (la : ds.length ≤ 100000) (lb : es.length ≤ 100000) (hle : dv ds < dv es) :
    Calls Try.prog 39 #[.agg #[.bool na, va], .agg #[.bool nb, vb]] w fun e w' => WideSays w (sg nb (dv es - dv ds)) (max ds.length es.length + 1) e w' := by
  obtain ⟨i0, hi, hz0, hz1, hz2⟩ := info_parts Try.info3
  have HLE : Hid (dv ds < dv es) := hle
  have HA : Hid (Dig w va ds) := ha
  have HB : Hid (Dig w vb es) := hb
  obtain ⟨aa, ca, rfl⟩ := ownsRow_slice ha.1
  obtain ⟨ab, cb, rfl⟩ := ownsRow_slice hb.1
  clear ha hb hle
  obtain ⟨M, hM⟩ : ∃ M : Nat, M = max ds.length es.length := ⟨_, rfl⟩
  have m1 : ds.length ≤ M := by omega
  have m2 : es.length ≤ M := by omega
  have m3 : M ≤ 100000 := by omega
  have HMX : Hid (M = max ds.length es.length) := hM
  have hcase : (ds.length < es.length ∧ M = es.length) ∨ (es.length ≤ ds.length ∧ M = ds.length) := by omega
  clear hM
  have fin : Hid (∀ (k : Nat) (c : Int) (os : List Int) (ad : Option Addr) (cap : Nat) (wr : World), k = M + 1 → 0 ≤ c → c ≤ 1 → os.length = k → IsDig os → dv os - c * 65536 ^ k = dv (es.take k) - dv (ds.take k) →
      wr.ownsRow (w.heap.size + 4) 3 1 (.slice ad k cap) k (os.map (Value.int .i64)) → Below w.heap.size w wr →
      WideSays w (sg nb (dv es - dv ds)) (max ds.length es.length + 1) (.returned (.agg #[.bool nb, .slice ad k cap])) ((wr.setCell ⟨w.heap.size + 1 + 1, 0, none⟩ (.bool nb)).setCell ⟨w.heap.size + 1 + 1, 1, none⟩ (.slice ad k cap))) := by
    intro k c os ad cap wr hk hc0 hc1 hl hdig hsum hown hbel
    refine ⟨nb, _, os, rfl, ?_, ⟨?_, hdig⟩, by have := HMX.out; omega, ?_⟩
    · exact (hbel.setCell (p := ⟨w.heap.size + 1 + 1, 0, none⟩) (by show w.heap.size ≤ w.heap.size + 1 + 1; omega) _).setCell (p := ⟨w.heap.size + 1 + 1, 1, none⟩) (by show w.heap.size ≤ w.heap.size + 1 + 1; omega) _
    · rw [hl]
      exact ownsRow_low (ownsRow_set (ownsRow_set hown (a := ⟨w.heap.size + 1 + 1, 0, none⟩) (by show w.heap.size + 1 + 1 < w.heap.size + 4; omega) _) (a := ⟨w.heap.size + 1 + 1, 1, none⟩) (by show w.heap.size + 1 + 1 < w.heap.size + 4; omega) _)
    · rw [sub_fin hl hdig hsum (by omega) (by omega) hc0 hc1 (by have := HLE.out; omega)]
  rcases hcase with ⟨hlt, rfl⟩ | ⟨hlt, rfl⟩
  · go_enter Try.func39, Try.ntmps39
    go_wp2_with fail
    refine (size_says _ _ ds es _ (HA.out.later (((((Below.refl _ _).alloc (Nat.le_refl _) _).alloc (by simp) _).alloc (by simp; omega) _).alloc (by simp; omega) _)) (HB.out.later (((((Below.refl _ _).alloc (Nat.le_refl _) _).alloc (by simp) _).alloc (by simp; omega) _).alloc (by simp; omega) _)) (by omega) (by omega)).mono ?_
    rintro e wq ⟨hsz, rfl⟩
    have hsz2 := hsz.lt HLE.out
    subst hsz2
    clear hsz
    go_wp2
    go_loopw [7, 10] (fun cc i wr => ∃ k : Nat, ∃ os : List Int, ∃ c : Int, ∃ v : Value, k ≤ es.length + 1 ∧ i = .int .i64 k ∧ cc = .int .i64 c ∧ 0 ≤ c ∧ c ≤ 1 ∧ os.length = k ∧ IsDig os ∧ dv os - c * 65536 ^ k = dv (es.take k) - dv (ds.take k) ∧
        wr.ownsRow (w.heap.size + 4) 3 1 v k (os.map (Value.int .i64)) ∧ Four w.heap.size nb (.slice ab es.length cb) na (.slice aa ds.length ca) nb v wr ∧ Below w.heap.size w wr)
      (fun _ i _ => es.length + 1 - (intOf i).toNat)
    case atStart =>
      refine ⟨0, [], 0, .slice none 0 0, by omega, rfl, rfl, by omega, by omega, rfl, ?_, by simp [dv], World.ownsRow_nil _ _ _ _, ?_, ?_⟩
      · intro d hd; simp at hd
      · exact four_start w nb _ na _
      · exact ((((Below.refl _ _).alloc (Nat.le_refl _) _).alloc (by simp) _).alloc (by simp; omega) _).alloc (by simp; omega) _
    case round =>
      obtain ⟨k, os, c, v, hk, rfl, rfl, c0, c1, hlen, hdig, hsum, hown, hfour, hbel⟩ := hrel
      have HL : Hid (os.length = k) := hlen
      have HD : Hid (IsDig os) := hdig
      have HS : Hid (dv os - c * 65536 ^ k = dv (es.take k) - dv (ds.take k)) := hsum
      have HF : Hid (Four w.heap.size nb (.slice ab es.length cb) na (.slice aa ds.length ca) nb v wr) := hfour
      obtain ⟨f1, f2, f3, f4, f5, f6, f7, f8, f9, f10, f11, f12⟩ := hfour
      obtain ⟨ad, cap, hv⟩ := ownsRow_slice hown
      subst hv
      clear hlen hdig hsum
      by_cases hlt4 : k < es.length + 1
      · have DA : Hid (Dig wr (.slice aa ds.length ca) ds) := HA.out.later hbel
        have DB : Hid (Dig wr (.slice ab es.length cb) es) := HB.out.later hbel
        have xb := isDig_getD (HB.out.2) k
        have yb := isDig_getD (HA.out.2) k
        obtain ⟨x, hx⟩ : ∃ x, es.getD k 0 = x := ⟨_, rfl⟩
        obtain ⟨y, hy⟩ : ∃ y, ds.getD k 0 = y := ⟨_, rfl⟩
        have HX : Hid (es.getD k 0 = x) := hx
        have HY : Hid (ds.getD k 0 = y) := hy
        rw [hx] at xb
        rw [hy] at yb
        obtain ⟨xb0, xb1⟩ := xb
        obtain ⟨yb0, yb1⟩ := yb
        clear hx hy
        go_wp2
        go_quiet ((go_at_call 44; exact Calls.quiet_of_same (digit_x _ _ _ _ _ (by first | exact DA.out | exact DB.out | exact Dig.drewN DA.out _ | exact Dig.drewN DB.out _) (by omega) (by first | exact HX | exact HY))))
        have hown2 := ownsRow_drewN hown nq
        go_wp2_with (first
          | (at_builtin; refine wpList_append_own _ rfl _ _ 56 rfl (w.heap.size + 4) 3 i0 (.int .i64 0) 1 8 Try.underlying56 hi hz0 hz1 hz2 rfl (by decide) _ _ _ rfl (hown2.alloc _) ⟨wr.heap.size, 0, none⟩ 1 1 [.int .i64 ((x - y + 65536 - c) % 65536)] rfl rfl (cell_one_new _ _ _) (by intro u hu; simp at hu; subst hu; rfl) (by unfold maxLen; omega) (by omega) (by simp; omega) ?_)
          | fail)
        intro v' w1 hown' hgrow _
        obtain ⟨ad', cap', hv'⟩ := ownsRow_slice hown'
        subst hv'
        have R : Below (w.heap.size + 4) wr w1 := (below_drewN (Below.refl _ _) nq).trans (app_below (wr := wr.drewN nq) f1 hown2 hgrow)
        have HF1 := HF.out.below R
        have HF2 : Hid (Four w.heap.size nb (.slice ab es.length cb) na (.slice aa ds.length ca) nb (.slice ad' (k + 1) cap') (w1.setCell ⟨w.heap.size + 1 + 1 + 1, 1, none⟩ (.slice ad' (k + 1) cap'))) := HF1.set _
        have g1 := HF1.fo1
        have g2 := HF1.o1
        have hb2 : Below w.heap.size w (w1.setCell ⟨w.heap.size + 1 + 1 + 1, 1, none⟩ (.slice ad' (k + 1) cap')) := (hbel.trans (R.mono (by omega))).setCell (p := ⟨w.heap.size + 1 + 1 + 1, 1, none⟩) (by show w.heap.size ≤ w.heap.size + 1 + 1 + 1; omega) _
        have ho2 := ownsRow_set hown' (a := ⟨w.heap.size + 1 + 1 + 1, 1, none⟩) (by show w.heap.size + 1 + 1 + 1 < w.heap.size + 4; omega) (.slice ad' (k + 1) cap')
        clear hown' hgrow hown hown2 R HF1 hbel f1 f2 f3 f4 f5 f6 f7 f8 f9 f10 f11 f12 HF DA DB
        go_wp2
        go_roundw
        case rel => exact ⟨k + 1, os ++ [(x - y + 65536 - c) % 65536], 1 - (x - y + 65536 - c) / 65536, _, by omega, by go_num, rfl, by omega, by omega, by have := HL.out; simp; omega, isDig_snoc HD.out (by omega) (by omega), sub_step HL.out HS.out HX.out HY.out, by simpa using ho2, HF2.out, hb2⟩
        case measure => simp [intOf]; omega
      · have hke : k = es.length + 1 := by omega
        have HFI := fin.out k c os ad cap wr hke c0 c1 HL.out HD.out HS.out hown hbel
        have HFJ := hidden HFI
        clear HFI hke
        go_wp2
        exact bodyPost_ret (v := .agg #[.bool nb, .slice ad k cap]) (by simp [results, Try.results39, go_sem, f6, f7]) rfl HFJ.out
  · go_enter Try.func39, Try.ntmps39
    go_wp2_with fail
    refine (size_says _ _ ds es _ (HA.out.later (((((Below.refl _ _).alloc (Nat.le_refl _) _).alloc (by simp) _).alloc (by simp; omega) _).alloc (by simp; omega) _)) (HB.out.later (((((Below.refl _ _).alloc (Nat.le_refl _) _).alloc (by simp) _).alloc (by simp; omega) _).alloc (by simp; omega) _)) (by omega) (by omega)).mono ?_
    rintro e wq ⟨hsz, rfl⟩
    have hsz2 := hsz.lt HLE.out
    subst hsz2
    clear hsz
    go_wp2
    go_loopw [7, 10] (fun cc i wr => ∃ k : Nat, ∃ os : List Int, ∃ c : Int, ∃ v : Value, k ≤ ds.length + 1 ∧ i = .int .i64 k ∧ cc = .int .i64 c ∧ 0 ≤ c ∧ c ≤ 1 ∧ os.length = k ∧ IsDig os ∧ dv os - c * 65536 ^ k = dv (es.take k) - dv (ds.take k) ∧
        wr.ownsRow (w.heap.size + 4) 3 1 v k (os.map (Value.int .i64)) ∧ Four w.heap.size nb (.slice ab es.length cb) na (.slice aa ds.length ca) nb v wr ∧ Below w.heap.size w wr)
      (fun _ i _ => ds.length + 1 - (intOf i).toNat)
    case atStart =>
      refine ⟨0, [], 0, .slice none 0 0, by omega, rfl, rfl, by omega, by omega, rfl, ?_, by simp [dv], World.ownsRow_nil _ _ _ _, ?_, ?_⟩
      · intro d hd; simp at hd
      · exact four_start w nb _ na _
      · exact ((((Below.refl _ _).alloc (Nat.le_refl _) _).alloc (by simp) _).alloc (by simp; omega) _).alloc (by simp; omega) _
    case round =>
      obtain ⟨k, os, c, v, hk, rfl, rfl, c0, c1, hlen, hdig, hsum, hown, hfour, hbel⟩ := hrel
      have HL : Hid (os.length = k) := hlen
      have HD : Hid (IsDig os) := hdig
      have HS : Hid (dv os - c * 65536 ^ k = dv (es.take k) - dv (ds.take k)) := hsum
      have HF : Hid (Four w.heap.size nb (.slice ab es.length cb) na (.slice aa ds.length ca) nb v wr) := hfour
      obtain ⟨f1, f2, f3, f4, f5, f6, f7, f8, f9, f10, f11, f12⟩ := hfour
      obtain ⟨ad, cap, hv⟩ := ownsRow_slice hown
      subst hv
      clear hlen hdig hsum
      by_cases hlt4 : k < ds.length + 1
      · have DA : Hid (Dig wr (.slice aa ds.length ca) ds) := HA.out.later hbel
        have DB : Hid (Dig wr (.slice ab es.length cb) es) := HB.out.later hbel
        have xb := isDig_getD (HB.out.2) k
        have yb := isDig_getD (HA.out.2) k
        obtain ⟨x, hx⟩ : ∃ x, es.getD k 0 = x := ⟨_, rfl⟩
        obtain ⟨y, hy⟩ : ∃ y, ds.getD k 0 = y := ⟨_, rfl⟩
        have HX : Hid (es.getD k 0 = x) := hx
        have HY : Hid (ds.getD k 0 = y) := hy
        rw [hx] at xb
        rw [hy] at yb
        obtain ⟨xb0, xb1⟩ := xb
        obtain ⟨yb0, yb1⟩ := yb
        clear hx hy
        go_wp2
        go_quiet ((go_at_call 44; exact Calls.quiet_of_same (digit_x _ _ _ _ _ (by first | exact DA.out | exact DB.out | exact Dig.drewN DA.out _ | exact Dig.drewN DB.out _) (by omega) (by first | exact HX | exact HY))))
        have hown2 := ownsRow_drewN hown nq
        go_wp2_with (first
          | (at_builtin; refine wpList_append_own _ rfl _ _ 56 rfl (w.heap.size + 4) 3 i0 (.int .i64 0) 1 8 Try.underlying56 hi hz0 hz1 hz2 rfl (by decide) _ _ _ rfl (hown2.alloc _) ⟨wr.heap.size, 0, none⟩ 1 1 [.int .i64 ((x - y + 65536 - c) % 65536)] rfl rfl (cell_one_new _ _ _) (by intro u hu; simp at hu; subst hu; rfl) (by unfold maxLen; omega) (by omega) (by simp; omega) ?_)
          | fail)
        intro v' w1 hown' hgrow _
        obtain ⟨ad', cap', hv'⟩ := ownsRow_slice hown'
        subst hv'
        have R : Below (w.heap.size + 4) wr w1 := (below_drewN (Below.refl _ _) nq).trans (app_below (wr := wr.drewN nq) f1 hown2 hgrow)
        have HF1 := HF.out.below R
        have HF2 : Hid (Four w.heap.size nb (.slice ab es.length cb) na (.slice aa ds.length ca) nb (.slice ad' (k + 1) cap') (w1.setCell ⟨w.heap.size + 1 + 1 + 1, 1, none⟩ (.slice ad' (k + 1) cap'))) := HF1.set _
        have g1 := HF1.fo1
        have g2 := HF1.o1
        have hb2 : Below w.heap.size w (w1.setCell ⟨w.heap.size + 1 + 1 + 1, 1, none⟩ (.slice ad' (k + 1) cap')) := (hbel.trans (R.mono (by omega))).setCell (p := ⟨w.heap.size + 1 + 1 + 1, 1, none⟩) (by show w.heap.size ≤ w.heap.size + 1 + 1 + 1; omega) _
        have ho2 := ownsRow_set hown' (a := ⟨w.heap.size + 1 + 1 + 1, 1, none⟩) (by show w.heap.size + 1 + 1 + 1 < w.heap.size + 4; omega) (.slice ad' (k + 1) cap')
        clear hown' hgrow hown hown2 R HF1 hbel f1 f2 f3 f4 f5 f6 f7 f8 f9 f10 f11 f12 HF DA DB
        go_wp2
        go_roundw
        case rel => exact ⟨k + 1, os ++ [(x - y + 65536 - c) % 65536], 1 - (x - y + 65536 - c) / 65536, _, by omega, by go_num, rfl, by omega, by omega, by have := HL.out; simp; omega, isDig_snoc HD.out (by omega) (by omega), sub_step HL.out HS.out HX.out HY.out, by simpa using ho2, HF2.out, hb2⟩
        case measure => simp [intOf]; omega
      · have hke : k = ds.length + 1 := by omega
        have HFI := fin.out k c os ad cap wr hke c0 c1 HL.out HD.out HS.out hown hbel
        have HFJ := hidden HFI
        clear HFI hke
        go_wp2
        exact bodyPost_ret (v := .agg #[.bool nb, .slice ad k cap]) (by simp [results, Try.results39, go_sem, f6, f7]) rfl HFJ.out

/-- The sum of two numbers of any size. -/
theorem wadd_any (na nb : Bool) (va vb : Value) (ds es : List Int) (w : World) (ha : Dig w va ds) (hb : Dig w vb es) (la : ds.length ≤ 100000) (lb : es.length ≤ 100000) :
    Calls Try.prog 39 #[.agg #[.bool na, va], .agg #[.bool nb, vb]] w fun e w' => WideSays w (sg na (dv ds) + sg nb (dv es)) (max ds.length es.length + 1) e w' := by
  by_cases hn : na = nb
  · subst hn
    have e : sg na (dv ds) + sg na (dv es) = sg na (dv ds + dv es) := by cases na <;> simp [sg] <;> omega
    rw [e]
    exact wadd_same na va vb ds es w ha hb la lb
  · have hne : (na == nb) = false := by simp [hn]
    by_cases hle : dv es ≤ dv ds
    · have e : sg na (dv ds) + sg nb (dv es) = sg na (dv ds - dv es) := by cases na <;> cases nb <;> simp [sg] at * <;> omega
      rw [e]
      exact wadd_keep na nb va vb ds es w hne ha hb la lb hle
    · have e : sg na (dv ds) + sg nb (dv es) = sg nb (dv es - dv ds) := by cases na <;> cases nb <;> simp [sg] at * <;> omega
      rw [e]
      exact wadd_swap na nb va vb ds es w hne ha hb la lb (by omega)
end Go.Proofs.Ytfpjggoonekooaa
