/- The walk of WideMul at two numbers of four digits. -/
import Derived.Test.YtfpjggoonekooaaWmul
namespace Go.Proofs.Ytfpjggoonekooaa
open Go.RowKit Go.WideShapes
set_option linter.unusedVariables false

theorem heap_new (w : World) (o : Obj) (n : Nat) (h : n = w.heap.size) : (w.alloc o).heap[n]? = some o := by subst h; exact Array.getElem?_push_size
theorem nine_start1 (w : World) (na : Bool) (va vb : Value) (neg : Bool) (nb : Bool) : Nine w.heap.size (w.heap.size + 1 + 1 + 1) (w.heap.size + 1 + 1 + 1 + 1) va vb neg [0, 0, 0, 0, 0, 0, 0, 0, 0]
    ((((((w.alloc (.cells #[.bool na, va] 58)).alloc (.cells #[.bool nb, vb] 58)).alloc (.cells #[.bool false, .slice none 0 0] 58)).alloc (.cells #[.int .i64 0, .int .i64 0, .int .i64 0, .int .i64 0, .int .i64 0, .int .i64 0, .int .i64 0, .int .i64 0, .int .i64 0] 3)).alloc (.cells #[.bool neg, .slice (some ⟨w.heap.size + 1 + 1 + 1, 0, none⟩) 9 9] 58)).drew) where
  size := by simp
  a1 := by simp [go_sem]
  b1 := by simp [go_sem]
  r0 := by simp [go_sem]
  r1 := by simp [go_sem]
  o0 := by simp [go_sem]
  o1 := by simp [go_sem]
  fr0 := by simp [go_sem]
  fr1 := by simp [go_sem]
  row := by
    refine ⟨by simp, Or.inr ⟨_, 9, #[.int .i64 0, .int .i64 0, .int .i64 0, .int .i64 0, .int .i64 0, .int .i64 0, .int .i64 0, .int .i64 0, .int .i64 0], rfl, Nat.zero_le _, (Below.heap_alloc _ _ _ (by simp)).trans (heap_new _ _ _ (by simp)), by omega, by unfold maxLen; omega, rfl, rfl⟩⟩
theorem nine_start2 (w : World) (na : Bool) (va vb : Value) (neg : Bool) (nb : Bool) : Nine w.heap.size (w.heap.size + 1 + 1 + 1 + 1) (w.heap.size + 1 + 1 + 1) va vb neg [0, 0, 0, 0, 0, 0, 0, 0, 0]
    ((((((w.alloc (.cells #[.bool na, va] 58)).alloc (.cells #[.bool nb, vb] 58)).alloc (.cells #[.bool false, .slice none 0 0] 58)).alloc (.cells #[.bool neg, .slice (some ⟨w.heap.size + 1 + 1 + 1 + 1, 0, none⟩) 9 9] 58)).alloc (.cells #[.int .i64 0, .int .i64 0, .int .i64 0, .int .i64 0, .int .i64 0, .int .i64 0, .int .i64 0, .int .i64 0, .int .i64 0] 3)).drew) where
  size := by simp
  a1 := by simp [go_sem]
  b1 := by simp [go_sem]
  r0 := by simp [go_sem]
  r1 := by simp [go_sem]
  o0 := by simp [go_sem]
  o1 := by simp [go_sem]
  fr0 := by simp [go_sem]
  fr1 := by simp [go_sem]
  row := by
    refine ⟨by simp, Or.inr ⟨_, 9, #[.int .i64 0, .int .i64 0, .int .i64 0, .int .i64 0, .int .i64 0, .int .i64 0, .int .i64 0, .int .i64 0, .int .i64 0], rfl, Nat.zero_le _, heap_new _ _ _ (by simp), by omega, by unfold maxLen; omega, rfl, rfl⟩⟩

set_option maxHeartbeats 6400000 in
theorem wmul_any (na nb : Bool) (va vb : Value) (ds es : List Int) (w : World) (ha : Dig w va ds) (hb : Dig w vb es) (la : ds.length = 4) (lb : es.length = 4) :
    Calls Try.prog 42 #[.agg #[.bool na, va], .agg #[.bool nb, vb]] w fun e w' => WideSays w (sg (!na == nb) (dv ds * dv es)) 9 e w' := by
  have HA : Hid (Dig w va ds) := ha
  have HB : Hid (Dig w vb es) := hb
  rcases ha.cases with ⟨_, h⟩ | ⟨ga, ca, rfl, hga, _, _, hca⟩
  · rw [h] at la; simp at la
  rcases hb.cases with ⟨_, h⟩ | ⟨gb, cb, rfl, hgb, _, _, hcb⟩
  · rw [h] at lb; simp at lb
  rw [la, lb]
  rw [la] at hca
  rw [lb] at hcb
  have HCA := hidden hca
  have HCB := hidden hcb
  have LA := hidden la
  have LB := hidden lb
  clear ha hb la lb hca hcb
  have hmk := make9
  obtain ⟨neg, hneg⟩ : ∃ b, (!na == nb) = b := ⟨_, rfl⟩
  rw [hneg]
  go_enter Try.func42, Try.ntmps42
  go_wp2
  go_region
  all_goals try rw [hneg]
  all_goals clear hneg
  · clear hmk
    go_wp2
    go_loopw [6] (fun i wr => ∃ a : Nat, ∃ os : List Int, a ≤ 4 ∧ i = .int .i64 a ∧ os.length = 9 ∧ IsDig os ∧ dv os = soFar ds es a 0 ∧ Nine w.heap.size (w.heap.size + 1 + 1 + 1) (w.heap.size + 1 + 1 + 1 + 1) (.slice (some ⟨ga, 0, none⟩) 4 ca) (.slice (some ⟨gb, 0, none⟩) 4 cb) neg os wr ∧ Below w.heap.size w wr) (fun i _ => 4 - (intOf i).toNat)
    case atStart =>
      exact ⟨0, [0, 0, 0, 0, 0, 0, 0, 0, 0], by omega, rfl, rfl, zeros9.1, by rw [soFar_zero, zeros9.2]; simp [dv], nine_start1 w _ _ _ neg _, ((((((Below.refl _ _).alloc (Nat.le_refl _) _).alloc (by simp) _).alloc (by simp; omega) _).alloc (by simp; omega) _).alloc (by simp; omega) _).drew⟩
    case round =>
      obtain ⟨a, os, ha4, rfl, hl, hdig, hsum, hnine, hbel⟩ := hrel
      have HL := hidden hl
      have HD := hidden hdig
      have HS := hidden hsum
      have HN := hidden hnine
      obtain ⟨f1, f2, f3, f4, f5, f6, f7, f8, f9, f10⟩ := hnine
      clear hl hdig hsum f10
      by_cases hlt : a < 4
      · go_wp2
        clear f1 f2 f3 f4 f5 f6 f7 f8 f9
        go_loopw [7] (fun i wr => ∃ b : Nat, ∃ os : List Int, b ≤ 4 ∧ i = .int .i64 b ∧ os.length = 9 ∧ IsDig os ∧ dv os = soFar ds es a b ∧ Nine w.heap.size (w.heap.size + 1 + 1 + 1) (w.heap.size + 1 + 1 + 1 + 1) (.slice (some ⟨ga, 0, none⟩) 4 ca) (.slice (some ⟨gb, 0, none⟩) 4 cb) neg os wr ∧ Below w.heap.size w wr) (fun i _ => 4 - (intOf i).toNat)
        case atStart => exact ⟨0, os, by omega, rfl, HL.out, HD.out, HS.out, HN.out, hbel⟩
        case round =>
          clear HL HD HS HN hbel os
          obtain ⟨b, os, hb4, rfl, hl, hdig, hsum, hnine, hbel⟩ := hrel
          have HL := hidden hl
          have HD := hidden hdig
          have HS := hidden hsum
          have HN := hidden hnine
          obtain ⟨f1, f2, f3, f4, f5, f6, f7, f8, f9, f10⟩ := hnine
          clear hl hdig hsum f10
          by_cases hlt2 : b < 4
          · have hx := (hbel.cell (p := ⟨ga, a, none⟩) hga).trans (HCA.out a hlt)
            have hy := (hbel.cell (p := ⟨gb, b, none⟩) hgb).trans (HCB.out b hlt2)
            have xb := isDig_getD HA.out.2 a
            have yb := isDig_getD HB.out.2 b
            have HT := hidden (soFar_next (ds := ds) (es := es) (i := a) (k := b))
            have HTL := hidden (soFar_lt HA.out.2 HB.out.2 LA.out LB.out a (b + 1))
            generalize ds.getD a 0 = x at hx xb HT
            generalize es.getD b 0 = y at hy yb HT
            have hxy := mul_le' (c := 65535) (d := 65535) xb.1 xb.2 yb.1 yb.2
            obtain ⟨p1, p2⟩ := hxy
            obtain ⟨x1, x2⟩ := xb
            obtain ⟨y1, y2⟩ := yb
            go_wp2
            go_quiet (fail)
            go_wp2
            clear f1 f2 f3 f4 f5 f6 f7 f8 f9 hx hy
            generalize hP : x * y = P at *
            have HP := hidden hP
            clear hP
            go_loopw [8, 9] (fun sv av wr => ∃ s : Int, ∃ t : Nat, ∃ os : List Int, sv = .int .i64 s ∧ av = .int .i64 t ∧ 0 ≤ s ∧ s ≤ 4294836225 ∧ t ≤ 100 ∧ os.length = 9 ∧ IsDig os ∧ dv os + s * 65536 ^ t = soFar ds es a (b + 1) ∧ Nine w.heap.size (w.heap.size + 1 + 1 + 1) (w.heap.size + 1 + 1 + 1 + 1) (.slice (some ⟨ga, 0, none⟩) 4 ca) (.slice (some ⟨gb, 0, none⟩) 4 cb) neg os wr ∧ Below w.heap.size w wr) (fun _ av _ => 100 - (intOf av).toNat)
            case atStart => exact ⟨P, a + b, os, rfl, by go_num, by omega, by omega, by omega, HL.out, HD.out, by rw [HT.out, HS.out], HN.out.drewN _, below_drewN hbel _⟩
            case round =>
              clear HL HD HS HN hbel os
              obtain ⟨s, t, os, rfl, rfl, s1, s2, ht, hl, hdig, hsum, hnine, hbel⟩ := hrel
              have HL := hidden hl
              have HD := hidden hdig
              have HS := hidden hsum
              have HN := hidden hnine
              obtain ⟨f1, f2, f3, f4, f5, f6, f7, f8, f9, f10⟩ := hnine
              by_cases hs0 : 0 < s
              · have ht9 : t < 9 := place_lt hsum (dv_nn hdig) (by omega) HTL.out
                have hat := HN.out.at HL.out t ht9
                have ob := isDig_getD HD.out t
                have HST := hidden (carry_step hsum (by rw [hl]; exact ht9) (os.getD t 0) rfl)
                generalize hO : os.getD t 0 = o at hat ob HST
                have HSE := hidden (HN.out.set (by omega) (by omega) t ((s + o) % 65536))
                obtain ⟨a1, a2⟩ := hat
                obtain ⟨o1, o2⟩ := ob
                clear hl hdig hsum f10 hO
                have hb2 : Below w.heap.size w (wr.setCell ⟨w.heap.size + 1 + 1 + 1, t, none⟩ (.int .i64 ((s + o) % 65536))) := hbel.setCell (p := ⟨w.heap.size + 1 + 1 + 1, t, none⟩) (by show w.heap.size ≤ w.heap.size + 1 + 1 + 1; omega) _
                go_wp2
                go_roundw
                case rel => exact ⟨(s + o) / 65536, t + 1, os.set t ((s + o) % 65536), rfl, by go_num, by omega, by omega, by omega, by rw [List.length_set]; exact HL.out, isDig_set HD.out (by omega) (by omega), HST.out, HSE.out, hb2⟩
                case measure => simp [intOf]; omega
              · clear hl hdig hsum f10
                go_wp2
                go_roundw
                case rel => exact ⟨b + 1, os, by omega, by go_num, HL.out, HD.out, by have := HS.out; rw [show s = 0 by omega] at this; simpa using this, HN.out, hbel⟩
                case measure => simp [intOf]; omega
          · go_wp2
            go_roundw
            case rel => exact ⟨a + 1, os, by omega, by go_num, HL.out, HD.out, by have := HS.out; rw [show b = 4 by omega, soFar_end LB.out] at this; exact this, HN.out, hbel⟩
            case measure => simp [intOf]; omega
      · have HFI := hidden (HN.out.fin (w := w) (N := sg neg (dv ds * dv es)) rfl (by omega) HL.out HD.out hbel (by rw [HS.out, show a = 4 by omega, soFar_zero, List.take_of_length_le (by have := LA.out; omega)]))
        go_wp2
        exact bodyPost_ret (v := .agg #[.bool neg, .slice (some ⟨w.heap.size + 1 + 1 + 1, 0, none⟩) 9 9]) (by simp [results, Try.results42, go_sem, f4, f5]) rfl HFI.out
  · clear hmk
    go_wp2
    go_loopw [6] (fun i wr => ∃ a : Nat, ∃ os : List Int, a ≤ 4 ∧ i = .int .i64 a ∧ os.length = 9 ∧ IsDig os ∧ dv os = soFar ds es a 0 ∧ Nine w.heap.size (w.heap.size + 1 + 1 + 1 + 1) (w.heap.size + 1 + 1 + 1) (.slice (some ⟨ga, 0, none⟩) 4 ca) (.slice (some ⟨gb, 0, none⟩) 4 cb) neg os wr ∧ Below w.heap.size w wr) (fun i _ => 4 - (intOf i).toNat)
    case atStart =>
      exact ⟨0, [0, 0, 0, 0, 0, 0, 0, 0, 0], by omega, rfl, rfl, zeros9.1, by rw [soFar_zero, zeros9.2]; simp [dv], nine_start2 w _ _ _ neg _, ((((((Below.refl _ _).alloc (Nat.le_refl _) _).alloc (by simp) _).alloc (by simp; omega) _).alloc (by simp; omega) _).alloc (by simp; omega) _).drew⟩
    case round =>
      obtain ⟨a, os, ha4, rfl, hl, hdig, hsum, hnine, hbel⟩ := hrel
      have HL := hidden hl
      have HD := hidden hdig
      have HS := hidden hsum
      have HN := hidden hnine
      obtain ⟨f1, f2, f3, f4, f5, f6, f7, f8, f9, f10⟩ := hnine
      clear hl hdig hsum f10
      by_cases hlt : a < 4
      · go_wp2
        clear f1 f2 f3 f4 f5 f6 f7 f8 f9
        go_loopw [7] (fun i wr => ∃ b : Nat, ∃ os : List Int, b ≤ 4 ∧ i = .int .i64 b ∧ os.length = 9 ∧ IsDig os ∧ dv os = soFar ds es a b ∧ Nine w.heap.size (w.heap.size + 1 + 1 + 1 + 1) (w.heap.size + 1 + 1 + 1) (.slice (some ⟨ga, 0, none⟩) 4 ca) (.slice (some ⟨gb, 0, none⟩) 4 cb) neg os wr ∧ Below w.heap.size w wr) (fun i _ => 4 - (intOf i).toNat)
        case atStart => exact ⟨0, os, by omega, rfl, HL.out, HD.out, HS.out, HN.out, hbel⟩
        case round =>
          clear HL HD HS HN hbel os
          obtain ⟨b, os, hb4, rfl, hl, hdig, hsum, hnine, hbel⟩ := hrel
          have HL := hidden hl
          have HD := hidden hdig
          have HS := hidden hsum
          have HN := hidden hnine
          obtain ⟨f1, f2, f3, f4, f5, f6, f7, f8, f9, f10⟩ := hnine
          clear hl hdig hsum f10
          by_cases hlt2 : b < 4
          · have hx := (hbel.cell (p := ⟨ga, a, none⟩) hga).trans (HCA.out a hlt)
            have hy := (hbel.cell (p := ⟨gb, b, none⟩) hgb).trans (HCB.out b hlt2)
            have xb := isDig_getD HA.out.2 a
            have yb := isDig_getD HB.out.2 b
            have HT := hidden (soFar_next (ds := ds) (es := es) (i := a) (k := b))
            have HTL := hidden (soFar_lt HA.out.2 HB.out.2 LA.out LB.out a (b + 1))
            generalize ds.getD a 0 = x at hx xb HT
            generalize es.getD b 0 = y at hy yb HT
            have hxy := mul_le' (c := 65535) (d := 65535) xb.1 xb.2 yb.1 yb.2
            obtain ⟨p1, p2⟩ := hxy
            obtain ⟨x1, x2⟩ := xb
            obtain ⟨y1, y2⟩ := yb
            go_wp2
            go_quiet (fail)
            go_wp2
            clear f1 f2 f3 f4 f5 f6 f7 f8 f9 hx hy
            generalize hP : x * y = P at *
            have HP := hidden hP
            clear hP
            go_loopw [8, 9] (fun sv av wr => ∃ s : Int, ∃ t : Nat, ∃ os : List Int, sv = .int .i64 s ∧ av = .int .i64 t ∧ 0 ≤ s ∧ s ≤ 4294836225 ∧ t ≤ 100 ∧ os.length = 9 ∧ IsDig os ∧ dv os + s * 65536 ^ t = soFar ds es a (b + 1) ∧ Nine w.heap.size (w.heap.size + 1 + 1 + 1 + 1) (w.heap.size + 1 + 1 + 1) (.slice (some ⟨ga, 0, none⟩) 4 ca) (.slice (some ⟨gb, 0, none⟩) 4 cb) neg os wr ∧ Below w.heap.size w wr) (fun _ av _ => 100 - (intOf av).toNat)
            case atStart => exact ⟨P, a + b, os, rfl, by go_num, by omega, by omega, by omega, HL.out, HD.out, by rw [HT.out, HS.out], HN.out.drewN _, below_drewN hbel _⟩
            case round =>
              clear HL HD HS HN hbel os
              obtain ⟨s, t, os, rfl, rfl, s1, s2, ht, hl, hdig, hsum, hnine, hbel⟩ := hrel
              have HL := hidden hl
              have HD := hidden hdig
              have HS := hidden hsum
              have HN := hidden hnine
              obtain ⟨f1, f2, f3, f4, f5, f6, f7, f8, f9, f10⟩ := hnine
              by_cases hs0 : 0 < s
              · have ht9 : t < 9 := place_lt hsum (dv_nn hdig) (by omega) HTL.out
                have hat := HN.out.at HL.out t ht9
                have ob := isDig_getD HD.out t
                have HST := hidden (carry_step hsum (by rw [hl]; exact ht9) (os.getD t 0) rfl)
                generalize hO : os.getD t 0 = o at hat ob HST
                have HSE := hidden (HN.out.set (by omega) (by omega) t ((s + o) % 65536))
                obtain ⟨a1, a2⟩ := hat
                obtain ⟨o1, o2⟩ := ob
                clear hl hdig hsum f10 hO
                have hb2 : Below w.heap.size w (wr.setCell ⟨w.heap.size + 1 + 1 + 1 + 1, t, none⟩ (.int .i64 ((s + o) % 65536))) := hbel.setCell (p := ⟨w.heap.size + 1 + 1 + 1 + 1, t, none⟩) (by show w.heap.size ≤ w.heap.size + 1 + 1 + 1 + 1; omega) _
                go_wp2
                go_roundw
                case rel => exact ⟨(s + o) / 65536, t + 1, os.set t ((s + o) % 65536), rfl, by go_num, by omega, by omega, by omega, by rw [List.length_set]; exact HL.out, isDig_set HD.out (by omega) (by omega), HST.out, HSE.out, hb2⟩
                case measure => simp [intOf]; omega
              · clear hl hdig hsum f10
                go_wp2
                go_roundw
                case rel => exact ⟨b + 1, os, by omega, by go_num, HL.out, HD.out, by have := HS.out; rw [show s = 0 by omega] at this; simpa using this, HN.out, hbel⟩
                case measure => simp [intOf]; omega
          · go_wp2
            go_roundw
            case rel => exact ⟨a + 1, os, by omega, by go_num, HL.out, HD.out, by have := HS.out; rw [show b = 4 by omega, soFar_end LB.out] at this; exact this, HN.out, hbel⟩
            case measure => simp [intOf]; omega
      · have HFI := hidden (HN.out.fin (w := w) (N := sg neg (dv ds * dv es)) rfl (by omega) HL.out HD.out hbel (by rw [HS.out, show a = 4 by omega, soFar_zero, List.take_of_length_le (by have := LA.out; omega)]))
        go_wp2
        exact bodyPost_ret (v := .agg #[.bool neg, .slice (some ⟨w.heap.size + 1 + 1 + 1 + 1, 0, none⟩) 9 9]) (by simp [results, Try.results42, go_sem, f4, f5]) rfl HFI.out
end Go.Proofs.Ytfpjggoonekooaa
