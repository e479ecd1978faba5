/- What is reckoned from counts: relationships of a node with a label. -/
import Derived.Test.YthfilnflgahcjaaGreatDoorJoin10
import Derived.Test.YthfilnflgahcjaaGreatDoorJoin33
namespace Go.Proofs.YthfilnflgahcjaaGreatDoor
open Go.RowKit Go.Shelf Go.Maps
set_option linter.unusedVariables false
set_option linter.unusedSimpArgs false
attribute [local go_sem] Oper.semAt_some
def fromI (s : StatP) (lab : ByteArray) (dir : Int) (ts : List ByteArray) : Int :=
  let T := if ts = [] then s.types.map (fun x => x.1) else ts
  shareI (if dir ≤ 0 then plusI [if 0 ≤ dir then plusI [0, endedI s lab true T] else 0, endedI s lab false T] else (if 0 ≤ dir then plusI [0, endedI s lab true T] else 0)) (labelledI s [lab])
set_option maxRecDepth 100000 in
set_option maxHeartbeats 8000000 in
theorem from_any (s : StatP) (vl vt ve vk vs : Value) (lab : ByteArray) (dir : Int) (ls : List ByteArray) (B : Nat) (w : World) (hB : B ≤ w.heap.size) (h : StatL B w vl vt ve vk s) (hs : SRow 1 strE B w vs ls) (hlab : okS lab) (hok : ∀ x ∈ ls, okS x) (hl : ls.length ≤ 100000) : Calls Tryz.prog 28 #[statV s vl vt ve vk, .string lab, .int .i64 dir, vs] w fun e w' => e = .returned (.int .i64 (fromI s lab dir ls)) ∧ Below w.heap.size w w' := by
  obtain ⟨T, hT⟩ : ∃ T, (if ls = [] then s.types.map (fun x => x.1) else ls) = T := ⟨_, rfl⟩
  have HTO : ∀ x ∈ T, okS x := by
    intro x hx
    rw [← hT] at hx
    split at hx
    · obtain ⟨y, hy, rfl⟩ := List.mem_map.1 hx
      exact h.ot y hy
    · exact hok x hx
  have HTL : T.length ≤ 100000 := by
    rw [← hT]
    split
    · rw [List.length_map]; exact h.nt
    · exact hl
  have HE1 : Hid (∀ W v, Below w.heap.size w W → SRow 1 strE W.heap.size W v T → Calls Tryz.prog 61 #[statV s vl vt ve vk, .string lab, .bool true, v] W fun e w' => e = .returned (.int .i64 (endedI s lab true T)) ∧ Below W.heap.size W w') := fun W v hb hv => endedAll_any s vl vt ve vk v lab true T _ W (Nat.le_refl _) (h.up (hb.mono hB) (Nat.le_trans hB hb.size)) hv hlab HTO HTL
  have HE2 : Hid (∀ W v, Below w.heap.size w W → SRow 1 strE W.heap.size W v T → Calls Tryz.prog 61 #[statV s vl vt ve vk, .string lab, .bool false, v] W fun e w' => e = .returned (.int .i64 (endedI s lab false T)) ∧ Below W.heap.size W w') := fun W v hb hv => endedAll_any s vl vt ve vk v lab false T _ W (Nat.le_refl _) (h.up (hb.mono hB) (Nat.le_trans hB hb.size)) hv hlab HTO HTL
  have HL : Hid (∀ W, Below w.heap.size w W → Calls Tryz.prog 19 #[statV s vl vt ve vk, .slice (some ⟨W.heap.size, 0, none⟩) 1 1] (W.alloc (.cells #[.string lab] 9)) fun e w' => e = .returned (.int .i64 (labelledI s [lab])) ∧ Below (W.alloc (.cells #[.string lab] 9)).heap.size (W.alloc (.cells #[.string lab] 9)) w') := fun W hb => labelled_any s vl vt ve vk _ [lab] _ _ (Nat.le_refl _) ((h.up (hb.mono hB) (Nat.le_trans hB hb.size)).up (below_new _ _) (below_new W _).size) (srow_new (k := 1) (enc := strE) (fun _ => rfl) W [lab] #[.string lab] 9 rfl (show 1 ≤ 9223372036854775807 by decide)) (fun x hx => by simp only [List.mem_cons, List.not_mem_nil, or_false] at hx; rw [hx]; exact hlab) (show 1 ≤ 100000 by decide)
  have H64 : Hid (∀ W, Below w.heap.size w W → Calls Tryz.prog 64 #[vt, .func (.func 59) #[] #[]] W fun e w' => ∃ v, e = .returned v ∧ ORow 9 1 strE W.heap.size w' v (s.types.map fun x => x.1) ∧ Below W.heap.size W w') := fun W hb => f64_any s.types vt B W (Nat.le_trans hB hb.size) (h.ht.keep (hb.mono hB)) h.nt
  have HFR : fromI s lab dir ls = shareI (if dir ≤ 0 then plusI [if 0 ≤ dir then plusI [0, endedI s lab true T] else 0, endedI s lab false T] else (if 0 ≤ dir then plusI [0, endedI s lab true T] else 0)) (labelledI s [lab]) := by
    unfold fromI
    rw [hT]
  rw [HFR]
  clear HFR
  obtain ⟨E1, hE1⟩ : ∃ E, endedI s lab true T = E := ⟨_, rfl⟩
  obtain ⟨E2, hE2⟩ : ∃ E, endedI s lab false T = E := ⟨_, rfl⟩
  obtain ⟨L, hL⟩ : ∃ E, labelledI s [lab] = E := ⟨_, rfl⟩
  rw [hE1] at HE1 ⊢
  rw [hE2] at HE2 ⊢
  rw [hL] at HL ⊢
  clear hE1 hE2 hL HTO HTL
  obtain ⟨res, hres⟩ : ∃ r, shareI (if dir ≤ 0 then plusI [if 0 ≤ dir then plusI [0, E1] else 0, E2] else (if 0 ≤ dir then plusI [0, E1] else 0)) L = r := ⟨_, rfl⟩
  rw [hres]
  have HRES : Hid (shareI (if 0 ≤ dir then (if dir ≤ 0 then plusI [plusI [0, E1], E2] else plusI [0, E1]) else (if dir ≤ 0 then plusI [0, E2] else 0)) L = res) := by
    show _ = _
    rw [← hres]
    by_cases d1 : 0 ≤ dir <;> by_cases d2 : dir ≤ 0 <;> simp only [d1, d2, if_true, if_false]
  have HSH : Hid (∀ a W, Calls Tryz.prog 32 #[.int .i64 a, .int .i64 L] W fun e w' => e = .returned (.int .i64 (shareI a L)) ∧ w' = W) := fun a W => share_any a L W
  have HS := hidE (fun W (hb : Below w.heap.size w W) => (hs.keep (hb.mono hB)).mono (Nat.le_trans hB hb.size))
  clear hres
  obtain ⟨la, lc, rfl, _⟩ := h.hl
  obtain ⟨ta, tc, rfl, _⟩ := h.ht
  obtain ⟨ea, ec, rfl, _⟩ := h.he
  obtain ⟨ka, kc, rfl, _⟩ := h.hk
  obtain ⟨sa, sc, rfl, _⟩ := hs
  unfold statV at *
  generalize s.nodes = n at *
  generalize s.rels = r at *
  generalize s.labels.length = l1 at *
  generalize s.types.length = l2 at *
  generalize s.ends.length = l3 at *
  generalize s.keys.length = l4 at *
  clear h hok
  by_cases h0 : ls = []
  · subst h0
    rw [if_pos rfl] at hT
    rw [hT] at H64
    simp only [List.length_nil]
    clear HS hT
    go_enter Tryz.func28, Tryz.ntmps28
    go_upto_region 1 with fail
    have HW0 := hidE (below_new w (.cells #[.int .i64 n, .int .i64 r, .slice la l1 lc, .slice ta l2 tc, .slice ea l3 ec, .slice ka l4 kc] 33))
    have HX0 := hidE (sbox_new w (.int .i64 n) (.int .i64 r) (.slice la l1 lc) (.slice ta l2 tc) (.slice ea l3 ec) (.slice ka l4 kc) 33)
    obtain ⟨W1, hW1⟩ : ∃ W, w.alloc (.cells #[.int .i64 n, .int .i64 r, .slice la l1 lc, .slice ta l2 tc, .slice ea l3 ec, .slice ka l4 kc] 33) = W := ⟨_, rfl⟩
    rw [hW1] at HW0 HX0 ⊢
    clear hW1
    obtain ⟨_, e0, e1, e2, e3, e4, e5⟩ := HX0.out
    go_upto_region 3 with (go_at_call 64; refine (H64.out _ HW0.out).mono ?_; rintro e W3 ⟨v3, rfl, ho3, hb3⟩; have HBW3 := hidE (Below.on HW0.out hb3); have HXW3 := hidE (HX0.out.keep hb3); have HTW3 := hidE (ORow.srow (enc := strE) (k := 1) (fun _ => rfl) ho3); obtain ⟨va, vc, rfl⟩ := ho3.slice; clear hb3 ho3)
    clear e0 e1 e2 e3 e4 e5
    generalize T.length = lT at *
    by_cases d1 : 0 ≤ dir
    · by_cases d2 : dir ≤ 0
      · have HR0 : Hid (res = shareI (plusI [plusI [0, E1], E2]) L) := by show _ = _; rw [← HRES.out, if_pos d1, if_pos d2]
        obtain ⟨_, e0, e1, e2, e3, e4, e5⟩ := HXW3.out
        go_upto_region 6 with (first
          | (go_at_call 61; refine (HE1.out _ _ HBW3.out HTW3.out).mono ?_; rintro e QWa ⟨rfl, hb⟩
             have HBWa := hidE (Below.on (Below.on HBW3.out hb) (below_new QWa (.cells #[.int .i64 0, .int .i64 E1] 2)))
             have HXWa := hidE ((HXW3.out.keep hb).keep (below_new QWa (.cells #[.int .i64 0, .int .i64 E1] 2)))
             have HTWa : Hid (SRow 1 strE (QWa.alloc (.cells #[.int .i64 0, .int .i64 E1] 2)).heap.size (QWa.alloc (.cells #[.int .i64 0, .int .i64 E1] 2)) _ T) := (HTW3.out.up hb hb.size).up (below_new QWa _) (below_new QWa _).size
             have HPWa := hidE (plus_any [0, E1] _ _ _ (Nat.le_refl _) (srow_new (k := 1) (enc := intE) (fun _ => rfl) QWa [0, E1] #[.int .i64 0, .int .i64 E1] 2 rfl (show 2 ≤ 9223372036854775807 by decide)))
             clear hb)
          | (go_at_call 34; refine HPWa.out.mono ?_; rintro e _ ⟨rfl, rfl⟩))
        obtain ⟨Wa, hWa⟩ : ∃ W, (QWa.alloc (.cells #[.int .i64 0, .int .i64 E1] 2)) = W := ⟨_, rfl⟩
        rw [hWa] at HBWa HXWa HTWa ⊢
        clear hWa e0 e1 e2 e3 e4 e5
        obtain ⟨_, e0, e1, e2, e3, e4, e5⟩ := HXWa.out
        go_upto_region 8 with (first
          | (go_at_call 61; refine (HE2.out _ _ HBWa.out HTWa.out).mono ?_; rintro e QWb ⟨rfl, hb⟩
             have HBWb := hidE (Below.on (Below.on HBWa.out hb) (below_new QWb (.cells #[.int .i64 (plusI [0, E1]), .int .i64 E2] 2)))
             have HXWb := hidE ((HXWa.out.keep hb).keep (below_new QWb (.cells #[.int .i64 (plusI [0, E1]), .int .i64 E2] 2)))
             have HTWb : Hid (SRow 1 strE (QWb.alloc (.cells #[.int .i64 (plusI [0, E1]), .int .i64 E2] 2)).heap.size (QWb.alloc (.cells #[.int .i64 (plusI [0, E1]), .int .i64 E2] 2)) _ T) := (HTWa.out.up hb hb.size).up (below_new QWb _) (below_new QWb _).size
             have HPWb := hidE (plus_any [(plusI [0, E1]), E2] _ _ _ (Nat.le_refl _) (srow_new (k := 1) (enc := intE) (fun _ => rfl) QWb [(plusI [0, E1]), E2] #[.int .i64 (plusI [0, E1]), .int .i64 E2] 2 rfl (show 2 ≤ 9223372036854775807 by decide)))
             clear hb)
          | (go_at_call 34; refine HPWb.out.mono ?_; rintro e _ ⟨rfl, rfl⟩))
        obtain ⟨Wb, hWb⟩ : ∃ W, (QWb.alloc (.cells #[.int .i64 (plusI [0, E1]), .int .i64 E2] 2)) = W := ⟨_, rfl⟩
        rw [hWb] at HBWb HXWb HTWb ⊢
        clear hWb e0 e1 e2 e3 e4 e5
        obtain ⟨_, e0, e1, e2, e3, e4, e5⟩ := HXWb.out
        go_wp2_with (first
          | (go_at_call 19; refine (HL.out _ HBWb.out).mono ?_; rintro e WF ⟨rfl, hb⟩; have HBF := hidE (Below.on (Below.on HBWb.out (below_new _ _)) hb); clear hb)
          | (go_at_call 32; refine (HSH.out _ _).mono ?_; rintro e _ ⟨rfl, rfl⟩))
        go_ret
        exact ⟨by rw [HR0.out]; rfl, HBF.out⟩
      · have HR0 : Hid (res = shareI (plusI [0, E1]) L) := by show _ = _; rw [← HRES.out, if_pos d1, if_neg d2]
        obtain ⟨_, e0, e1, e2, e3, e4, e5⟩ := HXW3.out
        go_upto_region 6 with (first
          | (go_at_call 61; refine (HE1.out _ _ HBW3.out HTW3.out).mono ?_; rintro e QWa ⟨rfl, hb⟩
             have HBWa := hidE (Below.on (Below.on HBW3.out hb) (below_new QWa (.cells #[.int .i64 0, .int .i64 E1] 2)))
             have HXWa := hidE ((HXW3.out.keep hb).keep (below_new QWa (.cells #[.int .i64 0, .int .i64 E1] 2)))
             have HTWa : Hid (SRow 1 strE (QWa.alloc (.cells #[.int .i64 0, .int .i64 E1] 2)).heap.size (QWa.alloc (.cells #[.int .i64 0, .int .i64 E1] 2)) _ T) := (HTW3.out.up hb hb.size).up (below_new QWa _) (below_new QWa _).size
             have HPWa := hidE (plus_any [0, E1] _ _ _ (Nat.le_refl _) (srow_new (k := 1) (enc := intE) (fun _ => rfl) QWa [0, E1] #[.int .i64 0, .int .i64 E1] 2 rfl (show 2 ≤ 9223372036854775807 by decide)))
             clear hb)
          | (go_at_call 34; refine HPWa.out.mono ?_; rintro e _ ⟨rfl, rfl⟩))
        obtain ⟨Wa, hWa⟩ : ∃ W, (QWa.alloc (.cells #[.int .i64 0, .int .i64 E1] 2)) = W := ⟨_, rfl⟩
        rw [hWa] at HBWa HXWa HTWa ⊢
        clear hWa e0 e1 e2 e3 e4 e5
        obtain ⟨_, e0, e1, e2, e3, e4, e5⟩ := HXWa.out
        go_wp2_with (first
          | (go_at_call 19; refine (HL.out _ HBWa.out).mono ?_; rintro e WF ⟨rfl, hb⟩; have HBF := hidE (Below.on (Below.on HBWa.out (below_new _ _)) hb); clear hb)
          | (go_at_call 32; refine (HSH.out _ _).mono ?_; rintro e _ ⟨rfl, rfl⟩))
        go_ret
        exact ⟨by rw [HR0.out]; rfl, HBF.out⟩
    · have d2 : dir ≤ 0 := by omega
      have HR0 : Hid (res = shareI (plusI [0, E2]) L) := by show _ = _; rw [← HRES.out, if_neg d1, if_pos d2]
      obtain ⟨_, e0, e1, e2, e3, e4, e5⟩ := HXW3.out
      go_upto_region 8 with (first
        | (go_at_call 61; refine (HE2.out _ _ HBW3.out HTW3.out).mono ?_; rintro e QWb ⟨rfl, hb⟩
           have HBWb := hidE (Below.on (Below.on HBW3.out hb) (below_new QWb (.cells #[.int .i64 0, .int .i64 E2] 2)))
           have HXWb := hidE ((HXW3.out.keep hb).keep (below_new QWb (.cells #[.int .i64 0, .int .i64 E2] 2)))
           have HTWb : Hid (SRow 1 strE (QWb.alloc (.cells #[.int .i64 0, .int .i64 E2] 2)).heap.size (QWb.alloc (.cells #[.int .i64 0, .int .i64 E2] 2)) _ T) := (HTW3.out.up hb hb.size).up (below_new QWb _) (below_new QWb _).size
           have HPWb := hidE (plus_any [0, E2] _ _ _ (Nat.le_refl _) (srow_new (k := 1) (enc := intE) (fun _ => rfl) QWb [0, E2] #[.int .i64 0, .int .i64 E2] 2 rfl (show 2 ≤ 9223372036854775807 by decide)))
           clear hb)
        | (go_at_call 34; refine HPWb.out.mono ?_; rintro e _ ⟨rfl, rfl⟩))
      obtain ⟨Wb, hWb⟩ : ∃ W, (QWb.alloc (.cells #[.int .i64 0, .int .i64 E2] 2)) = W := ⟨_, rfl⟩
      rw [hWb] at HBWb HXWb HTWb ⊢
      clear hWb e0 e1 e2 e3 e4 e5
      obtain ⟨_, e0, e1, e2, e3, e4, e5⟩ := HXWb.out
      go_wp2_with (first
        | (go_at_call 19; refine (HL.out _ HBWb.out).mono ?_; rintro e WF ⟨rfl, hb⟩; have HBF := hidE (Below.on (Below.on HBWb.out (below_new _ _)) hb); clear hb)
        | (go_at_call 32; refine (HSH.out _ _).mono ?_; rintro e _ ⟨rfl, rfl⟩))
      go_ret
      exact ⟨by rw [HR0.out]; rfl, HBF.out⟩
  · rw [if_neg h0] at hT
    subst hT
    have hl1 : (ls.length : Int) ≠ 0 := by
      have : ls.length ≠ 0 := fun e => h0 (List.eq_nil_of_length_eq_zero e)
      omega
    have hl2 : ((ls.length : Int) == 0) = false := beq_eq_false_iff_ne.2 hl1
    obtain ⟨T, hT⟩ : ∃ T, ls = T := ⟨_, rfl⟩
    rw [hT] at HE1 HE2 HS hl2 ⊢
    clear hT h0 hl1 hl
    go_enter Tryz.func28, Tryz.ntmps28
    go_upto_region 1 with fail
    have HW0 := hidE (below_new w (.cells #[.int .i64 n, .int .i64 r, .slice la l1 lc, .slice ta l2 tc, .slice ea l3 ec, .slice ka l4 kc] 33))
    have HX0 := hidE (sbox_new w (.int .i64 n) (.int .i64 r) (.slice la l1 lc) (.slice ta l2 tc) (.slice ea l3 ec) (.slice ka l4 kc) 33)
    obtain ⟨W1, hW1⟩ : ∃ W, w.alloc (.cells #[.int .i64 n, .int .i64 r, .slice la l1 lc, .slice ta l2 tc, .slice ea l3 ec, .slice ka l4 kc] 33) = W := ⟨_, rfl⟩
    rw [hW1] at HW0 HX0 ⊢
    clear hW1
    have HBW1 := HW0
    have HXW1 := HX0
    have HTW1 := hidE (HS.out W1 HW0.out)
    go_upto_region 3 with fail
    generalize T.length = lT at *
    by_cases d1 : 0 ≤ dir
    · by_cases d2 : dir ≤ 0
      · have HR0 : Hid (res = shareI (plusI [plusI [0, E1], E2]) L) := by show _ = _; rw [← HRES.out, if_pos d1, if_pos d2]
        obtain ⟨_, e0, e1, e2, e3, e4, e5⟩ := HXW1.out
        go_upto_region 6 with (first
          | (go_at_call 61; refine (HE1.out _ _ HBW1.out HTW1.out).mono ?_; rintro e QWa ⟨rfl, hb⟩
             have HBWa := hidE (Below.on (Below.on HBW1.out hb) (below_new QWa (.cells #[.int .i64 0, .int .i64 E1] 2)))
             have HXWa := hidE ((HXW1.out.keep hb).keep (below_new QWa (.cells #[.int .i64 0, .int .i64 E1] 2)))
             have HTWa : Hid (SRow 1 strE (QWa.alloc (.cells #[.int .i64 0, .int .i64 E1] 2)).heap.size (QWa.alloc (.cells #[.int .i64 0, .int .i64 E1] 2)) _ T) := (HTW1.out.up hb hb.size).up (below_new QWa _) (below_new QWa _).size
             have HPWa := hidE (plus_any [0, E1] _ _ _ (Nat.le_refl _) (srow_new (k := 1) (enc := intE) (fun _ => rfl) QWa [0, E1] #[.int .i64 0, .int .i64 E1] 2 rfl (show 2 ≤ 9223372036854775807 by decide)))
             clear hb)
          | (go_at_call 34; refine HPWa.out.mono ?_; rintro e _ ⟨rfl, rfl⟩))
        obtain ⟨Wa, hWa⟩ : ∃ W, (QWa.alloc (.cells #[.int .i64 0, .int .i64 E1] 2)) = W := ⟨_, rfl⟩
        rw [hWa] at HBWa HXWa HTWa ⊢
        clear hWa e0 e1 e2 e3 e4 e5
        obtain ⟨_, e0, e1, e2, e3, e4, e5⟩ := HXWa.out
        go_upto_region 8 with (first
          | (go_at_call 61; refine (HE2.out _ _ HBWa.out HTWa.out).mono ?_; rintro e QWb ⟨rfl, hb⟩
             have HBWb := hidE (Below.on (Below.on HBWa.out hb) (below_new QWb (.cells #[.int .i64 (plusI [0, E1]), .int .i64 E2] 2)))
             have HXWb := hidE ((HXWa.out.keep hb).keep (below_new QWb (.cells #[.int .i64 (plusI [0, E1]), .int .i64 E2] 2)))
             have HTWb : Hid (SRow 1 strE (QWb.alloc (.cells #[.int .i64 (plusI [0, E1]), .int .i64 E2] 2)).heap.size (QWb.alloc (.cells #[.int .i64 (plusI [0, E1]), .int .i64 E2] 2)) _ T) := (HTWa.out.up hb hb.size).up (below_new QWb _) (below_new QWb _).size
             have HPWb := hidE (plus_any [(plusI [0, E1]), E2] _ _ _ (Nat.le_refl _) (srow_new (k := 1) (enc := intE) (fun _ => rfl) QWb [(plusI [0, E1]), E2] #[.int .i64 (plusI [0, E1]), .int .i64 E2] 2 rfl (show 2 ≤ 9223372036854775807 by decide)))
             clear hb)
          | (go_at_call 34; refine HPWb.out.mono ?_; rintro e _ ⟨rfl, rfl⟩))
        obtain ⟨Wb, hWb⟩ : ∃ W, (QWb.alloc (.cells #[.int .i64 (plusI [0, E1]), .int .i64 E2] 2)) = W := ⟨_, rfl⟩
        rw [hWb] at HBWb HXWb HTWb ⊢
        clear hWb e0 e1 e2 e3 e4 e5
        obtain ⟨_, e0, e1, e2, e3, e4, e5⟩ := HXWb.out
        go_wp2_with (first
          | (go_at_call 19; refine (HL.out _ HBWb.out).mono ?_; rintro e WF ⟨rfl, hb⟩; have HBF := hidE (Below.on (Below.on HBWb.out (below_new _ _)) hb); clear hb)
          | (go_at_call 32; refine (HSH.out _ _).mono ?_; rintro e _ ⟨rfl, rfl⟩))
        go_ret
        exact ⟨by rw [HR0.out]; rfl, HBF.out⟩
      · have HR0 : Hid (res = shareI (plusI [0, E1]) L) := by show _ = _; rw [← HRES.out, if_pos d1, if_neg d2]
        obtain ⟨_, e0, e1, e2, e3, e4, e5⟩ := HXW1.out
        go_upto_region 6 with (first
          | (go_at_call 61; refine (HE1.out _ _ HBW1.out HTW1.out).mono ?_; rintro e QWa ⟨rfl, hb⟩
             have HBWa := hidE (Below.on (Below.on HBW1.out hb) (below_new QWa (.cells #[.int .i64 0, .int .i64 E1] 2)))
             have HXWa := hidE ((HXW1.out.keep hb).keep (below_new QWa (.cells #[.int .i64 0, .int .i64 E1] 2)))
             have HTWa : Hid (SRow 1 strE (QWa.alloc (.cells #[.int .i64 0, .int .i64 E1] 2)).heap.size (QWa.alloc (.cells #[.int .i64 0, .int .i64 E1] 2)) _ T) := (HTW1.out.up hb hb.size).up (below_new QWa _) (below_new QWa _).size
             have HPWa := hidE (plus_any [0, E1] _ _ _ (Nat.le_refl _) (srow_new (k := 1) (enc := intE) (fun _ => rfl) QWa [0, E1] #[.int .i64 0, .int .i64 E1] 2 rfl (show 2 ≤ 9223372036854775807 by decide)))
             clear hb)
          | (go_at_call 34; refine HPWa.out.mono ?_; rintro e _ ⟨rfl, rfl⟩))
        obtain ⟨Wa, hWa⟩ : ∃ W, (QWa.alloc (.cells #[.int .i64 0, .int .i64 E1] 2)) = W := ⟨_, rfl⟩
        rw [hWa] at HBWa HXWa HTWa ⊢
        clear hWa e0 e1 e2 e3 e4 e5
        obtain ⟨_, e0, e1, e2, e3, e4, e5⟩ := HXWa.out
        go_wp2_with (first
          | (go_at_call 19; refine (HL.out _ HBWa.out).mono ?_; rintro e WF ⟨rfl, hb⟩; have HBF := hidE (Below.on (Below.on HBWa.out (below_new _ _)) hb); clear hb)
          | (go_at_call 32; refine (HSH.out _ _).mono ?_; rintro e _ ⟨rfl, rfl⟩))
        go_ret
        exact ⟨by rw [HR0.out]; rfl, HBF.out⟩
    · have d2 : dir ≤ 0 := by omega
      have HR0 : Hid (res = shareI (plusI [0, E2]) L) := by show _ = _; rw [← HRES.out, if_neg d1, if_pos d2]
      obtain ⟨_, e0, e1, e2, e3, e4, e5⟩ := HXW1.out
      go_upto_region 8 with (first
        | (go_at_call 61; refine (HE2.out _ _ HBW1.out HTW1.out).mono ?_; rintro e QWb ⟨rfl, hb⟩
           have HBWb := hidE (Below.on (Below.on HBW1.out hb) (below_new QWb (.cells #[.int .i64 0, .int .i64 E2] 2)))
           have HXWb := hidE ((HXW1.out.keep hb).keep (below_new QWb (.cells #[.int .i64 0, .int .i64 E2] 2)))
           have HTWb : Hid (SRow 1 strE (QWb.alloc (.cells #[.int .i64 0, .int .i64 E2] 2)).heap.size (QWb.alloc (.cells #[.int .i64 0, .int .i64 E2] 2)) _ T) := (HTW1.out.up hb hb.size).up (below_new QWb _) (below_new QWb _).size
           have HPWb := hidE (plus_any [0, E2] _ _ _ (Nat.le_refl _) (srow_new (k := 1) (enc := intE) (fun _ => rfl) QWb [0, E2] #[.int .i64 0, .int .i64 E2] 2 rfl (show 2 ≤ 9223372036854775807 by decide)))
           clear hb)
        | (go_at_call 34; refine HPWb.out.mono ?_; rintro e _ ⟨rfl, rfl⟩))
      obtain ⟨Wb, hWb⟩ : ∃ W, (QWb.alloc (.cells #[.int .i64 0, .int .i64 E2] 2)) = W := ⟨_, rfl⟩
      rw [hWb] at HBWb HXWb HTWb ⊢
      clear hWb e0 e1 e2 e3 e4 e5
      obtain ⟨_, e0, e1, e2, e3, e4, e5⟩ := HXWb.out
      go_wp2_with (first
        | (go_at_call 19; refine (HL.out _ HBWb.out).mono ?_; rintro e WF ⟨rfl, hb⟩; have HBF := hidE (Below.on (Below.on HBWb.out (below_new _ _)) hb); clear hb)
        | (go_at_call 32; refine (HSH.out _ _).mono ?_; rintro e _ ⟨rfl, rfl⟩))
      go_ret
      exact ⟨by rw [HR0.out]; rfl, HBF.out⟩
end Go.Proofs.YthfilnflgahcjaaGreatDoor
