/- nothing: is nothing somewhere in a value? -/
import Derived.Test.YtbpmhgcjefpigaaGreatDoorEqFacts
import Derived.Test.YtbpmhgcjefpigaaGreatDoorSmall
namespace Go.Proofs.YtbpmhgcjefpigaaGreatDoor
open Go.RowKit Go.Shelf
set_option linter.unusedVariables false

set_option maxHeartbeats 2000000 in
theorem nothing_any : ∀ (T : Tree) (B : Nat) (v : Value) (w : World), B ≤ w.heap.size → Lies B w v T →
    Calls Tryz.prog 57 #[v] w fun e w' => e = .returned (.bool (noneB T)) ∧ Below w.heap.size w w' := by
  refine Tree.ind ?_
  intro k x n s ks ts ih B v w hB hv
  simp only [Lies] at hv
  obtain ⟨ka, kc, la, lc, rfl, ⟨hs1, hs2, hs3, hs4, hs5⟩, hk, ht⟩ := hv
  have HIH := hidE ih
  have HRES : Hid (noneB (.mk k x n s ks ts) = (ts.any noneB || k == 0)) := by show _ = _; rw [noneB, noneL_any]
  clear ih hk hs1 hs2 hs3
  unfold maxLen at hs5
  obtain ⟨W1, hW1⟩ : ∃ W1, w.alloc (.cells #[.int .i64 k, .bool x, .int .i64 n, .string s, .slice ka ks.length kc, .slice la ts.length lc] 26) = W1 := ⟨_, rfl⟩
  have HBX : Hid (∀ W, Below W1.heap.size W1 W → Below w.heap.size w W ∧ W.cell? ⟨w.heap.size, 0, none⟩ = some (.int .i64 k) ∧ W.cell? ⟨w.heap.size, 5, none⟩ = some (.slice la ts.length lc)) := fun W hb => by
    rw [← hW1] at hb
    refine ⟨below_alloc hb, ?_, ?_⟩
    · exact (hb.cell (p := ⟨w.heap.size, 0, none⟩) (by simp)).trans (cell_new _ _ _ _ _ rfl)
    · exact (hb.cell (p := ⟨w.heap.size, 5, none⟩) (by simp)).trans (cell_new _ _ _ _ _ rfl)
  have HW1 := hidE hW1
  clear hW1
  go_enter Tryz.func57, Tryz.ntmps57
  go_wp2_with fail
  rw [HW1.out]
  go_loopw [3] (fun i wr => ∃ j : Nat, j ≤ ts.length ∧ i = .int .i64 j ∧ Below W1.heap.size W1 wr ∧ (ts.take j).any noneB = false) (fun i _ => ts.length - (intOf i).toNat)
  case atStart => exact ⟨0, Nat.zero_le _, rfl, Below.refl _ _, rfl⟩
  case round =>
    obtain ⟨j, hj, rfl, hbr, hno⟩ := hrel
    have HNO := hidE hno
    clear hno
    obtain ⟨hbw, f0, f5⟩ := HBX.out wr hbr
    by_cases hlt : j < ts.length
    · obtain ⟨bl, off, rfl, hbl, hkk⟩ := ht.resolve_left (by intro e; subst e; simp at hlt)
      obtain ⟨⟨p0, p1, p2, p3, p4, p5⟩, hx⟩ : ∃ t, ts[j]? = some t := ⟨_, List.getElem?_eq_getElem hlt⟩
      obtain ⟨ja, jc, jl, jd, ⟨c0, c1, c2, c3, c4, c5⟩, hlx⟩ := (hkk.below (hbw.mono hB) hbl).cells hx
      have HX := hidE hx
      have HC := hidE (HIH.out _ (List.mem_of_getElem? hx) B _ wr (Nat.le_trans hB hbw.size) hlx)
      clear hx hkk hlx
      go_wp2_with fail
      refine HC.out.mono ?_
      rintro e w2 ⟨rfl, hb2⟩
      have HB2 : Hid (Below W1.heap.size W1 w2) := below_on hbr hb2
      generalize hcn : noneB (.mk p0 p1 p2 p3 p4 p5) = cn at *
      have HCN := hidE hcn
      clear hb2 HC hcn c0 c1 c2 c3 c4 c5
      cases cn with
      | false =>
        go_wp2_with fail
        go_roundw
        case rel =>
          refine ⟨j + 1, by omega, by go_num, HB2.out, ?_⟩
          rw [List.take_add_one, HX.out, List.any_append, HNO.out]
          simp [HCN.out]
        case measure => simp [intOf]; omega
      | true =>
        have HF : Hid (Below w.heap.size w w2) := (HBX.out w2 HB2.out).1
        have HT : Hid (noneB (.mk k x n s ks ts) = true) := by
          show _ = _
          rw [HRES.out, Bool.or_eq_true, List.any_eq_true]
          exact .inl ⟨_, List.mem_of_getElem? HX.out, HCN.out⟩
        go_wp2_with fail
        go_ret
        exact ⟨by rw [HT.out]; rfl, HF.out⟩
    · have HT : Hid (noneB (.mk k x n s ks ts) = (k == 0)) := by
        show _ = _
        have := HNO.out
        rw [List.take_of_length_le (by omega)] at this
        rw [HRES.out, this, Bool.false_or]
      have HF := hidE hbw
      go_wp2_with fail
      go_ret
      exact ⟨by rw [HT.out]; rfl, HF.out⟩
end Go.Proofs.YtbpmhgcjefpigaaGreatDoor
