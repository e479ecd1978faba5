/- The document's own: which texts are keywords. -/
import Derived.Test.YtbjcdpenfijfoaaGreatDoorJoin10
namespace Go.Proofs.YtbjcdpenfijfoaaGreatDoor
open Go.RowKit Go.Shelf Go.Lexed
set_option linter.unusedVariables false
set_option linter.unusedSimpArgs false
attribute [local go_sem] Oper.semAt_some
def rkL : List ByteArray := [⟨#[97, 110, 100]⟩, ⟨#[97, 115]⟩, ⟨#[97, 115, 99]⟩, ⟨#[97, 115, 99, 101, 110, 100, 105, 110, 103]⟩, ⟨#[98, 121]⟩, ⟨#[99, 97, 115, 101]⟩, ⟨#[99, 111, 110, 116, 97, 105, 110, 115]⟩, ⟨#[99, 114, 101, 97, 116, 101]⟩, ⟨#[100, 101, 108, 101, 116, 101]⟩, ⟨#[100, 101, 115, 99]⟩, ⟨#[100, 101, 115, 99, 101, 110, 100, 105, 110, 103]⟩, ⟨#[100, 101, 116, 97, 99, 104]⟩, ⟨#[100, 105, 115, 116, 105, 110, 99, 116]⟩, ⟨#[101, 108, 115, 101]⟩, ⟨#[101, 110, 100]⟩, ⟨#[101, 110, 100, 115]⟩, ⟨#[102, 97, 108, 115, 101]⟩, ⟨#[105, 110]⟩, ⟨#[105, 115]⟩, ⟨#[108, 105, 109, 105, 116]⟩, ⟨#[109, 97, 116, 99, 104]⟩, ⟨#[110, 111, 116]⟩, ⟨#[110, 117, 108, 108]⟩, ⟨#[111, 110]⟩, ⟨#[111, 112, 116, 105, 111, 110, 97, 108]⟩, ⟨#[111, 114]⟩, ⟨#[111, 114, 100, 101, 114]⟩, ⟨#[114, 101, 109, 111, 118, 101]⟩, ⟨#[114, 101, 116, 117, 114, 110]⟩, ⟨#[115, 101, 116]⟩, ⟨#[115, 107, 105, 112]⟩, ⟨#[115, 116, 97, 114, 116, 115]⟩, ⟨#[116, 104, 101, 110]⟩, ⟨#[116, 114, 117, 101]⟩, ⟨#[117, 110, 119, 105, 110, 100]⟩, ⟨#[119, 104, 101, 110]⟩, ⟨#[119, 104, 101, 114, 101]⟩, ⟨#[119, 105, 116, 104]⟩, ⟨#[120, 111, 114]⟩]
set_option maxRecDepth 100000 in
theorem kw_rk : (kwL.all fun K => lowL K.data.toList == K.data.toList && (rkL.map fun K => K.data.toList).contains K.data.toList) = true := by decide +kernel
set_option maxRecDepth 100000 in
theorem rk_kw : (rkL.all fun K => (kwL.map fun K => K.data.toList).contains K.data.toList) = true := by decide +kernel
theorem rres_eq (l : List UInt8) : (rkL.any fun K => decide (K.data.toList = lowL l)) = resB l := by
  have h1 := List.all_eq_true.1 kw_rk
  have h2 := List.all_eq_true.1 rk_kw
  rw [Bool.eq_iff_iff]
  unfold resB
  simp only [List.any_eq_true, decide_eq_true_eq]
  refine ⟨?_, ?_⟩
  · rintro ⟨K, hK, e⟩
    have := h2 K hK
    rw [List.contains_iff_mem, List.mem_map] at this
    obtain ⟨K', hK', e'⟩ := this
    refine ⟨K', hK', ?_⟩
    have h3 := h1 K' hK'
    rw [Bool.and_eq_true, beq_iff_eq] at h3
    rw [h3.1, e', e]
  · rintro ⟨K, hK, e⟩
    have h3 := h1 K hK
    rw [Bool.and_eq_true, beq_iff_eq, List.contains_iff_mem, List.mem_map] at h3
    obtain ⟨K', hK', e'⟩ := h3.2
    exact ⟨K', hK', by rw [e', e, h3.1]⟩
set_option maxRecDepth 100000 in
set_option maxHeartbeats 4000000 in
theorem rres_any (s : ByteArray) (hs : s.size ≤ 10000000000) (w : World) : Calls Tryz.prog 26 #[.string s] w fun e w' => e = .returned (.bool (resB s.data.toList)) ∧ Below w.heap.size w w' := by
  have HV : Hid (resB s.data.toList = rkL.any fun K => decide (K.data.toList = lowL s.data.toList)) := (rres_eq _).symm
  generalize resB s.data.toList = V at HV ⊢
  have HL := hidE (fun w => rlower_any s hs w)
  have HCM : Hid (∀ K : ByteArray, (K.data.toList = lowL s.data.toList → (K.toList == (bsOf (lowL s.data.toList)).toList) = true) ∧ (¬ K.data.toList = lowL s.data.toList → (K.toList == (bsOf (lowL s.data.toList)).toList) = false)) := by
    intro K
    rw [ByteArray.toList_eq, ByteArray.toList_eq, bsOf_list]
    exact ⟨fun h => by rw [h]; simp, fun h => by rw [beq_eq_false_iff_ne]; exact h⟩
  generalize lowL s.data.toList = A at HV HL HCM
  go_enter Tryz.func26, Tryz.ntmps26
  go_upto_region 2 with fail
  generalize hW1 : World.alloc _ _ = W1
  have HB1 : Hid (Below w.heap.size w W1) := by rw [← hW1]; exact (Below.refl _ _).alloc (Nat.le_refl _) _
  have HT : Hid (∀ (q : Nat) (K : ByteArray), rkL[q]? = some K → W1.cell? ⟨w.heap.size, q, none⟩ = some (.string K)) := by
    intro q K hq
    rw [← hW1]
    refine cell_new _ _ _ _ _ ?_
    have : (rkL.map Value.string).toArray[q]? = some (.string K) := by rw [List.getElem?_toArray, List.getElem?_map, hq]; rfl
    exact this
  clear hW1
  obtain ⟨p, hp⟩ : ∃ p, w.heap.size = p := ⟨_, rfl⟩
  have HP := hidE hp
  rw [hp] at HT ⊢
  have hpl : p < W1.heap.size := lt_of_cell (HT.out 0 _ rfl)
  clear hp
  go_wp2_with fail
  go_loopw [4] (fun i wr => ∃ q : Nat, q ≤ 39 ∧ i = .int .i64 q ∧ Below W1.heap.size W1 wr ∧ V = (rkL.drop q).any fun K => decide (K.data.toList = A)) (fun i _ => 39 - (intOf i).toNat)
  case atStart => exact ⟨0, by omega, rfl, Below.refl _ _, HV.out⟩
  case round =>
    obtain ⟨q, hq, rfl, hb, hv⟩ := hrel
    have HB := hidE hb
    have HQ := hidE hv
    clear hb hv
    by_cases hlt : q < 39
    · have hlt' : (q : Int) < 39 := by omega
      obtain ⟨K, hK⟩ : ∃ K, rkL[q]? = some K := ⟨_, List.getElem?_eq_getElem hlt⟩
      have c0 := (HB.out.cell (p := ⟨p, q, none⟩) hpl).trans (HT.out q K hK)
      have HK := hidE hK
      have hpr : p < wr.heap.size := Nat.lt_of_lt_of_le hpl HB.out.size
      clear hK
      go_wp2_with fail
      go_region_with (refine (HL.out _).mono ?_; rintro e w2 ⟨rfl, hb2⟩; have c2 := (hb2.cell (p := ⟨p, q, none⟩) hpr).trans c0)
      all_goals
        have HB2 : Hid (Below W1.heap.size W1 w2) := HB.out.drew.trans (hb2.mono HB.out.size)
        clear hb2 c2 c0
        by_cases he : K.data.toList = A
        · have HF : Hid (V = true) := by
            show _ = _
            rw [HQ.out, any_step _ HK.out, decide_eq_true he, Bool.true_or]
          rw [(HCM.out K).1 he]
          go_wp2_with fail
          go_ret
          exact ⟨by rw [HF.out]; rfl, HB1.out.trans (HB2.out.mono (by rw [HP.out]; exact Nat.le_of_lt hpl))⟩
        · have HF : Hid (V = (rkL.drop (q + 1)).any fun K => decide (K.data.toList = A)) := by
            show _ = _
            rw [HQ.out, any_step _ HK.out, decide_eq_false he, Bool.false_or]
          rw [(HCM.out K).2 he]
          go_wp2_with fail
          go_roundw
          case rel => exact ⟨q + 1, by omega, by go_num, HB2.out, HF.out⟩
          case measure => simp [intOf]; omega
    · have hlt' : ¬ (q : Int) < 39 := by omega
      have HF : Hid (V = false) := by
        show _ = _
        rw [HQ.out, List.drop_of_length_le (by show 39 ≤ q; omega)]
        rfl
      go_wp2_with fail
      go_ret
      exact ⟨by rw [HF.out]; rfl, HB1.out.trans (HB.out.mono (by rw [HP.out]; exact Nat.le_of_lt hpl))⟩
end Go.Proofs.YtbjcdpenfijfoaaGreatDoor
