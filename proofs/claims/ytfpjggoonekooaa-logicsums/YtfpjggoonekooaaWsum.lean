/- Contract of WideAdd: the sum of two numbers of any size. -/
import Derived.Test.YtfpjggoonekooaaWadd
namespace Go.Proofs.Ytfpjggoonekooaa
open Go.RowKit Go.WideShapes
set_option linter.unusedVariables false

theorem four_start (w : World) (na : Bool) (va : Value) (nb : Bool) (vb : Value) : Four w.heap.size na va nb vb na (.slice none 0 0)
    ((((w.alloc (.cells #[.bool na, va] 58)).alloc (.cells #[.bool nb, vb] 58)).alloc (.cells #[.bool false, .slice none 0 0] 58)).alloc (.cells #[.bool na, .slice none 0 0] 58)) where
  size := by simp
  a0 := by simp [go_sem]
  a1 := by simp [go_sem]
  b0 := by simp [go_sem]
  b1 := by simp [go_sem]
  r0 := by simp [go_sem]
  r1 := by simp [go_sem]
  o0 := by simp [go_sem]
  o1 := by simp [go_sem]
  fr0 := by simp [go_sem]
  fr1 := by simp [go_sem]
  fo1 := by simp [go_sem]

/-- One digit, by name. -/
theorem digit_x (v : Value) (ds : List Int) (i : Nat) (x : Int) (w : World) (hd : Dig w v ds) (hi : i ≤ 9223372036854775807) (hx : Hid (ds.getD i 0 = x)) :
    Calls Try.prog 44 #[v, .int .i64 i] w fun e w' => e = .returned (.int .i64 x) ∧ w' = w := by
  rw [← hx.out]; exact digit_any v ds i w hd hi

theorem hidden {p : Prop} (h : p) : Hid p := h

def WideSays (w : World) (N : Int) (L : Nat) (e : Ending) (w' : World) : Prop :=
  ∃ neg v os, e = .returned (.agg #[.bool neg, v]) ∧ Below w.heap.size w w' ∧ Dig w' v os ∧ os.length ≤ L ∧ sg neg (dv os) = N

set_option maxHeartbeats 3200000 in
theorem wadd_same (n : Bool) (va vb : Value) (ds es : List Int) (w : World) (ha : Dig w va ds) (hb : Dig w vb es) (la : ds.length ≤ 100000) (lb : es.length ≤ 100000) :
    Calls Try.prog 39 #[.agg #[.bool n, va], .agg #[.bool n, vb]] w fun e w' => WideSays w (sg n (dv ds + dv es)) (max ds.length es.length + 1) e w' := by
  obtain ⟨i0, hi, hz0, hz1, hz2⟩ := info_parts Try.info3
  have HA : Hid (Dig w va ds) := ha
  have HB : Hid (Dig w vb es) := hb
  obtain ⟨aa, ca, rfl⟩ := ownsRow_slice ha.1
  obtain ⟨ab, cb, rfl⟩ := ownsRow_slice hb.1
  clear ha hb
  obtain ⟨M, hM⟩ : ∃ M : Nat, M = max ds.length es.length := ⟨_, rfl⟩
  have m1 : ds.length ≤ M := by omega
  have m2 : es.length ≤ M := by omega
  have m3 : M ≤ 100000 := by omega
  have HMX : Hid (M = max ds.length es.length) := hM
  have hcase : (ds.length < es.length ∧ M = es.length) ∨ (es.length ≤ ds.length ∧ M = ds.length) := by omega
  clear hM
  have fin : Hid (∀ (k : Nat) (c : Int) (os : List Int) (ad : Option Addr) (cap : Nat) (wr : World), k = M + 1 → c = 0 → os.length = k → IsDig os → dv os + c * 65536 ^ k = dv (ds.take k) + dv (es.take k) →
      wr.ownsRow (w.heap.size + 4) 3 1 (.slice ad k cap) k (os.map (Value.int .i64)) → Below w.heap.size w wr →
      WideSays w (sg n (dv ds + dv es)) (max ds.length es.length + 1) (.returned (.agg #[.bool n, .slice ad k cap])) ((wr.setCell ⟨w.heap.size + 1 + 1, 0, none⟩ (.bool n)).setCell ⟨w.heap.size + 1 + 1, 1, none⟩ (.slice ad k cap))) := by
    intro k c os ad cap wr hk hc hl hdig hsum hown hbel
    refine ⟨n, _, os, rfl, ?_, ⟨?_, hdig⟩, by have := HMX.out; omega, ?_⟩
    · exact (hbel.setCell (p := ⟨w.heap.size + 1 + 1, 0, none⟩) (by show w.heap.size ≤ w.heap.size + 1 + 1; omega) _).setCell (p := ⟨w.heap.size + 1 + 1, 1, none⟩) (by show w.heap.size ≤ w.heap.size + 1 + 1; omega) _
    · rw [hl]
      exact ownsRow_low (ownsRow_set (ownsRow_set hown (a := ⟨w.heap.size + 1 + 1, 0, none⟩) (by show w.heap.size + 1 + 1 < w.heap.size + 4; omega) _) (a := ⟨w.heap.size + 1 + 1, 1, none⟩) (by show w.heap.size + 1 + 1 < w.heap.size + 4; omega) _)
    · rw [add_fin hl hsum (by omega) (by omega) hc]
  rcases hcase with ⟨hlt, rfl⟩ | ⟨hlt, rfl⟩
  · go_enter Try.func39, Try.ntmps39
    go_wp2
    go_loopw [7, 8] (fun cc i wr => ∃ k : Nat, ∃ os : List Int, ∃ c : Int, ∃ v : Value, k ≤ es.length + 1 ∧ i = .int .i64 k ∧ cc = .int .i64 c ∧ 0 ≤ c ∧ c ≤ 1 ∧ (k = es.length + 1 → c = 0) ∧ os.length = k ∧ IsDig os ∧ dv os + c * 65536 ^ k = dv (ds.take k) + dv (es.take k) ∧
        wr.ownsRow (w.heap.size + 4) 3 1 v k (os.map (Value.int .i64)) ∧ Four w.heap.size n (.slice aa ds.length ca) n (.slice ab es.length cb) n v wr ∧ Below w.heap.size w wr)
      (fun _ i _ => es.length + 1 - (intOf i).toNat)
    case atStart =>
      refine ⟨0, [], 0, .slice none 0 0, by omega, rfl, rfl, by omega, by omega, fun _ => rfl, rfl, ?_, by simp [dv], World.ownsRow_nil _ _ _ _, ?_, ?_⟩
      · intro d hd; simp at hd
      · exact four_start w n _ n _
      · exact ((((Below.refl _ _).alloc (Nat.le_refl _) _).alloc (by simp) _).alloc (by simp; omega) _).alloc (by simp; omega) _
    case round =>
      obtain ⟨k, os, c, v, hk, rfl, rfl, c0, c1, hlast, hlen, hdig, hsum, hown, hfour, hbel⟩ := hrel
      have HL : Hid (os.length = k) := hlen
      have HD : Hid (IsDig os) := hdig
      have HS : Hid (dv os + c * 65536 ^ k = dv (ds.take k) + dv (es.take k)) := hsum
      have HLA : Hid (k = es.length + 1 → c = 0) := hlast
      have HF : Hid (Four w.heap.size n (.slice aa ds.length ca) n (.slice ab es.length cb) n v wr) := hfour
      obtain ⟨f1, f2, f3, f4, f5, f6, f7, f8, f9, f10, f11, f12⟩ := hfour
      obtain ⟨ad, cap, hv⟩ := ownsRow_slice hown
      subst hv
      clear hlen hdig hsum hlast
      by_cases hlt4 : k < es.length + 1
      · have DA : Hid (Dig wr (.slice aa ds.length ca) ds) := HA.out.later hbel
        have DB : Hid (Dig wr (.slice ab es.length cb) es) := HB.out.later hbel
        have xb := isDig_getD HA.out.2 k
        have yb := isDig_getD HB.out.2 k
        obtain ⟨x, hx⟩ : ∃ x, ds.getD k 0 = x := ⟨_, rfl⟩
        obtain ⟨y, hy⟩ : ∃ y, es.getD k 0 = y := ⟨_, rfl⟩
        have HX : Hid (ds.getD k 0 = x) := hx
        have HY : Hid (es.getD k 0 = y) := hy
        rw [hx] at xb
        rw [hy] at yb
        have hxy : Hid (k = es.length → x + y = 0) := fun e => by rw [← hx, ← hy, getD_out (by omega), getD_out (by omega)]; rfl
        obtain ⟨xb0, xb1⟩ := xb
        obtain ⟨yb0, yb1⟩ := yb
        clear hx hy
        go_wp2
        go_quiet ((go_at_call 44; exact Calls.quiet_of_same (digit_x _ _ _ _ _ (by first | exact DA.out | exact DB.out | exact Dig.drewN DA.out _ | exact Dig.drewN DB.out _) (by omega) (by first | exact HX | exact HY))))
        have hown2 := ownsRow_drewN hown nq
        go_wp2_with (first
          | (at_builtin; refine wpList_append_own _ rfl _ _ 56 rfl (w.heap.size + 4) 3 i0 (.int .i64 0) 1 8 Try.underlying56 hi hz0 hz1 hz2 rfl (by decide) _ _ _ rfl (hown2.alloc _) ⟨wr.heap.size, 0, none⟩ 1 1 [.int .i64 ((x + y + c) % 65536)] rfl rfl ?c1 ?c2 ?c3 ?c4 ?c5 ?_)
          | fail)
        case c1 => exact cell_one_new _ _ _
        case c2 => intro u hu; simp at hu; subst hu; rfl
        case c3 => unfold maxLen; omega
        case c4 => omega
        case c5 => simp; omega
        intro v' w1 hown' hgrow _
        obtain ⟨ad', cap', hv'⟩ := ownsRow_slice hown'
        subst hv'
        have R : Below (w.heap.size + 4) wr w1 := (below_drewN (Below.refl _ _) nq).trans (app_below (wr := wr.drewN nq) f1 hown2 hgrow)
        have HF1 := HF.out.below R
        have HF2 : Hid (Four w.heap.size n (.slice aa ds.length ca) n (.slice ab es.length cb) n (.slice ad' (k + 1) cap') (w1.setCell ⟨w.heap.size + 1 + 1 + 1, 1, none⟩ (.slice ad' (k + 1) cap'))) := HF1.set _
        have g1 := HF1.fo1
        have g2 := HF1.o1
        have hb2 : Below w.heap.size w (w1.setCell ⟨w.heap.size + 1 + 1 + 1, 1, none⟩ (.slice ad' (k + 1) cap')) := (hbel.trans (R.mono (by omega))).setCell (p := ⟨w.heap.size + 1 + 1 + 1, 1, none⟩) (by show w.heap.size ≤ w.heap.size + 1 + 1 + 1; omega) _
        have ho2 := ownsRow_set hown' (a := ⟨w.heap.size + 1 + 1 + 1, 1, none⟩) (by show w.heap.size + 1 + 1 + 1 < w.heap.size + 4; omega) (.slice ad' (k + 1) cap')
        clear hown' hgrow hown hown2 R HF1 hbel f1 f2 f3 f4 f5 f6 f7 f8 f9 f10 f11 f12 HF DA DB
        go_wp2
        go_roundw
        case rel => exact ⟨k + 1, os ++ [(x + y + c) % 65536], (x + y + c) / 65536, _, by omega, by go_num, rfl, by omega, by omega, fun e => by have := hxy.out (by omega); omega, by have := HL.out; simp; omega, isDig_snoc HD.out (by omega) (by omega), add_step HL.out HS.out HX.out HY.out, by simpa using ho2, HF2.out, hb2⟩
        case measure => simp [intOf]; omega
      · have hke : k = es.length + 1 := by omega
        have HFI := fin.out k c os ad cap wr hke (HLA.out hke) HL.out HD.out HS.out hown hbel
        have HFJ := hidden HFI
        clear HFI hke
        go_wp2
        exact bodyPost_ret (v := .agg #[.bool n, .slice ad k cap]) (by simp [results, Try.results39, go_sem, f6, f7]) rfl HFJ.out
  · go_enter Try.func39, Try.ntmps39
    go_wp2
    go_loopw [7, 8] (fun cc i wr => ∃ k : Nat, ∃ os : List Int, ∃ c : Int, ∃ v : Value, k ≤ ds.length + 1 ∧ i = .int .i64 k ∧ cc = .int .i64 c ∧ 0 ≤ c ∧ c ≤ 1 ∧ (k = ds.length + 1 → c = 0) ∧ os.length = k ∧ IsDig os ∧ dv os + c * 65536 ^ k = dv (ds.take k) + dv (es.take k) ∧
        wr.ownsRow (w.heap.size + 4) 3 1 v k (os.map (Value.int .i64)) ∧ Four w.heap.size n (.slice aa ds.length ca) n (.slice ab es.length cb) n v wr ∧ Below w.heap.size w wr)
      (fun _ i _ => ds.length + 1 - (intOf i).toNat)
    case atStart =>
      refine ⟨0, [], 0, .slice none 0 0, by omega, rfl, rfl, by omega, by omega, fun _ => rfl, rfl, ?_, by simp [dv], World.ownsRow_nil _ _ _ _, ?_, ?_⟩
      · intro d hd; simp at hd
      · exact four_start w n _ n _
      · exact ((((Below.refl _ _).alloc (Nat.le_refl _) _).alloc (by simp) _).alloc (by simp; omega) _).alloc (by simp; omega) _
    case round =>
      obtain ⟨k, os, c, v, hk, rfl, rfl, c0, c1, hlast, hlen, hdig, hsum, hown, hfour, hbel⟩ := hrel
      have HL : Hid (os.length = k) := hlen
      have HD : Hid (IsDig os) := hdig
      have HS : Hid (dv os + c * 65536 ^ k = dv (ds.take k) + dv (es.take k)) := hsum
      have HLA : Hid (k = ds.length + 1 → c = 0) := hlast
      have HF : Hid (Four w.heap.size n (.slice aa ds.length ca) n (.slice ab es.length cb) n v wr) := hfour
      obtain ⟨f1, f2, f3, f4, f5, f6, f7, f8, f9, f10, f11, f12⟩ := hfour
      obtain ⟨ad, cap, hv⟩ := ownsRow_slice hown
      subst hv
      clear hlen hdig hsum hlast
      by_cases hlt4 : k < ds.length + 1
      · have DA : Hid (Dig wr (.slice aa ds.length ca) ds) := HA.out.later hbel
        have DB : Hid (Dig wr (.slice ab es.length cb) es) := HB.out.later hbel
        have xb := isDig_getD HA.out.2 k
        have yb := isDig_getD HB.out.2 k
        obtain ⟨x, hx⟩ : ∃ x, ds.getD k 0 = x := ⟨_, rfl⟩
        obtain ⟨y, hy⟩ : ∃ y, es.getD k 0 = y := ⟨_, rfl⟩
        have HX : Hid (ds.getD k 0 = x) := hx
        have HY : Hid (es.getD k 0 = y) := hy
        rw [hx] at xb
        rw [hy] at yb
        have hxy : Hid (k = ds.length → x + y = 0) := fun e => by rw [← hx, ← hy, getD_out (by omega), getD_out (by omega)]; rfl
        obtain ⟨xb0, xb1⟩ := xb
        obtain ⟨yb0, yb1⟩ := yb
        clear hx hy
        go_wp2
        go_quiet ((go_at_call 44; exact Calls.quiet_of_same (digit_x _ _ _ _ _ (by first | exact DA.out | exact DB.out | exact Dig.drewN DA.out _ | exact Dig.drewN DB.out _) (by omega) (by first | exact HX | exact HY))))
        have hown2 := ownsRow_drewN hown nq
        go_wp2_with (first
          | (at_builtin; refine wpList_append_own _ rfl _ _ 56 rfl (w.heap.size + 4) 3 i0 (.int .i64 0) 1 8 Try.underlying56 hi hz0 hz1 hz2 rfl (by decide) _ _ _ rfl (hown2.alloc _) ⟨wr.heap.size, 0, none⟩ 1 1 [.int .i64 ((x + y + c) % 65536)] rfl rfl ?d1 ?d2 ?d3 ?d4 ?d5 ?_)
          | fail)
        case d1 => exact cell_one_new _ _ _
        case d2 => intro u hu; simp at hu; subst hu; rfl
        case d3 => unfold maxLen; omega
        case d4 => omega
        case d5 => simp; omega
        intro v' w1 hown' hgrow _
        obtain ⟨ad', cap', hv'⟩ := ownsRow_slice hown'
        subst hv'
        have R : Below (w.heap.size + 4) wr w1 := (below_drewN (Below.refl _ _) nq).trans (app_below (wr := wr.drewN nq) f1 hown2 hgrow)
        have HF1 := HF.out.below R
        have HF2 : Hid (Four w.heap.size n (.slice aa ds.length ca) n (.slice ab es.length cb) n (.slice ad' (k + 1) cap') (w1.setCell ⟨w.heap.size + 1 + 1 + 1, 1, none⟩ (.slice ad' (k + 1) cap'))) := HF1.set _
        have g1 := HF1.fo1
        have g2 := HF1.o1
        have hb2 : Below w.heap.size w (w1.setCell ⟨w.heap.size + 1 + 1 + 1, 1, none⟩ (.slice ad' (k + 1) cap')) := (hbel.trans (R.mono (by omega))).setCell (p := ⟨w.heap.size + 1 + 1 + 1, 1, none⟩) (by show w.heap.size ≤ w.heap.size + 1 + 1 + 1; omega) _
        have ho2 := ownsRow_set hown' (a := ⟨w.heap.size + 1 + 1 + 1, 1, none⟩) (by show w.heap.size + 1 + 1 + 1 < w.heap.size + 4; omega) (.slice ad' (k + 1) cap')
        clear hown' hgrow hown hown2 R HF1 hbel f1 f2 f3 f4 f5 f6 f7 f8 f9 f10 f11 f12 HF DA DB
        go_wp2
        go_roundw
        case rel => exact ⟨k + 1, os ++ [(x + y + c) % 65536], (x + y + c) / 65536, _, by omega, by go_num, rfl, by omega, by omega, fun e => by have := hxy.out (by omega); omega, by have := HL.out; simp; omega, isDig_snoc HD.out (by omega) (by omega), add_step HL.out HS.out HX.out HY.out, by simpa using ho2, HF2.out, hb2⟩
        case measure => simp [intOf]; omega
      · have hke : k = ds.length + 1 := by omega
        have HFI := fin.out k c os ad cap wr hke (HLA.out hke) HL.out HD.out HS.out hown hbel
        have HFJ := hidden HFI
        clear HFI hke
        go_wp2
        exact bodyPost_ret (v := .agg #[.bool n, .slice ad k cap]) (by simp [results, Try.results39, go_sem, f6, f7]) rfl HFJ.out
end Go.Proofs.Ytfpjggoonekooaa
