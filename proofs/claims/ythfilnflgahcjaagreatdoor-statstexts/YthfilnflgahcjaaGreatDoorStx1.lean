/- The text of the number one. -/
import Derived.Test.YthfilnflgahcjaaGreatDoorJoin24
import Derived.Test.YthfilnflgahcjaaGreatDoorJoin16
namespace Go.Proofs.YthfilnflgahcjaaGreatDoor
open Go.RowKit Go.Shelf Go.Lib
set_option linter.unusedVariables false
set_option linter.unusedSimpArgs false
attribute [local go_sem] Oper.semAt_some
set_option maxRecDepth 100000 in
theorem small_one (w : World) : Calls Tryz.prog 163 #[.int .i64 1] w fun e w' => e = .returned (.string ⟨#[49]⟩) ∧ w' = w := by
  go_enter Tryz.func163, Tryz.ntmps163
  go_wp2_with fail
  go_ret
  exact ⟨rfl, rfl⟩
/-- A row of bytes that has this one. -/
def OneB (e : Ending) (w w' : World) : Prop := ∃ g c, e = .returned (.slice (some ⟨g, 0, none⟩) 1 c) ∧ w'.cell? ⟨g, 0, none⟩ = some (.int .u8 49) ∧ Below w.heap.size w w'
set_option maxRecDepth 100000 in
theorem appendUint_one (w : World) : Calls Tryz.prog 253 #[.slice none 0 0, .int .u64 1, .int .i64 10] w fun e w' => OneB e w w' := by
  go_enter Tryz.func253, Tryz.ntmps253
  go_wp2_with fail
  refine (small_one w).mono ?_
  rintro e w1 ⟨rfl, hw⟩
  subst hw
  go_wp2_with fail
  go_ret
  refine ⟨_, _, rfl, ?_, ((Below.refl _ _).alloc (Nat.le_refl _) _).drew⟩
  show World.cell? (World.alloc _ _) _ = _
  refine cell_new _ _ _ 0 _ ?_
  rw [Array.getElem?_append_left (by decide)]
  rfl
set_option maxRecDepth 100000 in
theorem appendInt_one (w : World) : Calls Tryz.prog 239 #[.slice none 0 0, .int .i64 1, .int .i64 10] w fun e w' => OneB e w w' := by
  have HC := hidE (appendUint_one w)
  go_enter Tryz.func239, Tryz.ntmps239
  go_wp2_with fail
  refine HC.out.mono ?_
  rintro e w' ⟨g, c, rfl, h1, h2⟩
  have HT := hidE (And.intro h1 h2)
  clear h1 h2 HC
  go_wp2_with fail
  go_ret
  exact ⟨g, c, rfl, HT.out.1, HT.out.2⟩
set_option maxRecDepth 100000 in
theorem appendInt_pub (w : World) : Calls Tryz.prog 202 #[.slice none 0 0, .int .i64 1, .int .i64 10] w fun e w' => OneB e w w' := by
  have HC := hidE (appendInt_one w)
  go_enter Tryz.func202, Tryz.ntmps202
  go_wp2_with fail
  refine HC.out.mono ?_
  rintro e w' ⟨g, c, rfl, h1, h2⟩
  have HT := hidE (And.intro h1 h2)
  clear h1 h2 HC
  go_wp2_with fail
  go_ret
  exact ⟨g, c, rfl, HT.out.1, HT.out.2⟩
set_option maxRecDepth 100000 in
set_option maxHeartbeats 4000000 in
theorem tell_one (b : Bool) (s : ByteArray) (ka la : Option Addr) (kl kc ll lc : Nat) (w : World) : Calls Tryz.prog 152 #[.slice none 0 0, .agg #[.int .i64 2, .bool b, .int .i64 1, .string s, .slice ka kl kc, .slice la ll lc]] w fun e w' => OneB e w w' := by
  obtain ⟨W1, hW1⟩ : ∃ W, w.alloc (.cells #[.int .i64 2, .bool b, .int .i64 1, .string s, .slice ka kl kc, .slice la ll lc] 88) = W := ⟨_, rfl⟩
  have hr : Rec W1 w.heap.size #[.int .i64 2, .bool b, .int .i64 1, .string s, .slice ka kl kc, .slice la ll lc] 88 := by rw [← hW1]; exact rec_new _ _ _
  have HB : Hid (Below w.heap.size w W1) := by rw [← hW1]; exact (Below.refl _ _).alloc (Nat.le_refl _) _
  have c0 := hr.cell 0 rfl
  have c2 := hr.cell 2 rfl
  have HC := hidE (appendInt_pub W1)
  clear hr
  go_enter Tryz.func152, Tryz.ntmps152
  go_upto_region 1 with fail
  try rw [hW1]
  clear hW1
  go_wp2_with fail
  refine HC.out.mono ?_
  rintro e w' ⟨g, c, rfl, h1, h2⟩
  have HT := hidE (And.intro h1 h2)
  clear h1 h2 HC
  go_wp2_with fail
  go_ret
  exact ⟨g, c, rfl, HT.out.1, HB.out.trans (HT.out.2.mono HB.out.size)⟩
set_option maxRecDepth 100000 in
set_option maxHeartbeats 4000000 in
theorem text_one (v : Value) (w : World) (hv : Lies w.heap.size w v (.mk 2 false 1 ⟨#[]⟩ [] [])) (hT : Tabs w) : Calls Tryz.prog 127 #[v] w fun e w' => e = .returned (.tuple #[.string ⟨#[49]⟩, .int .i64 0]) ∧ Below w.heap.size w w' := by
  have HV := hidE hv
  simp only [Lies] at hv
  obtain ⟨ka, kc, la, lc, rfl, -⟩ := hv
  simp only [List.length_nil] at HV ⊢
  obtain ⟨W1, hW1⟩ : ∃ W, w.alloc (.cells #[.int .i64 2, .bool false, .int .i64 1, .string ⟨#[]⟩, .slice ka 0 kc, .slice la 0 lc] 88) = W := ⟨_, rfl⟩
  have hr : Rec W1 w.heap.size #[.int .i64 2, .bool false, .int .i64 1, .string ⟨#[]⟩, .slice ka 0 kc, .slice la 0 lc] 88 := by rw [← hW1]; exact rec_new _ _ _
  have hb : Below w.heap.size w W1 := by rw [← hW1]; exact (Below.refl _ _).alloc (Nat.le_refl _) _
  have HB := hidE hb
  have c0 := hr.cell 0 rfl
  have c1 := hr.cell 1 rfl
  have c2 := hr.cell 2 rfl
  have c3 := hr.cell 3 rfl
  have c4 := hr.cell 4 rfl
  have c5 := hr.cell 5 rfl
  have HR := hidE hr
  have HC := hidE (check_any _ _ W1 ((HV.out.below hb).mono hb.size) (hT.below hb) (by decide) (by decide))
  rw [show checkN (.mk 2 false 1 ⟨#[]⟩ [] []) = 0 by kernel_rfl] at HC
  clear hr hb
  go_enter Tryz.func127, Tryz.ntmps127
  go_upto_region 1 with fail
  try rw [hW1]
  clear hW1
  go_wp2_with fail
  refine HC.out.mono ?_
  rintro e w2 ⟨rfl, hb2⟩
  have hr2 := HR.out.below hb2 HR.out.lt
  have HB2 : Hid (Below w.heap.size w w2) := HB.out.trans (hb2.mono HB.out.size)
  have d0 := hr2.cell 0 rfl
  have d1 := hr2.cell 1 rfl
  have d2 := hr2.cell 2 rfl
  have d3 := hr2.cell 3 rfl
  have d4 := hr2.cell 4 rfl
  have d5 := hr2.cell 5 rfl
  have HTL := hidE (tell_one false ⟨#[]⟩ ka la 0 kc 0 lc w2)
  clear c0 c1 c2 c3 c4 c5 hr2 hb2
  go_wp2_with fail
  refine HTL.out.mono ?_
  rintro e w3 ⟨g, c, rfl, h1, h2⟩
  have hcv : (convert 116 9 (.slice (some ⟨g, 0, none⟩) 1 c)).run Tryz.prog w3 = .ok (.string ⟨#[49]⟩) w3 := by
    refine run_convert_bytes_back (P := Tryz.prog) w3 116 9 5 ⟨g, 0, none⟩ c [49] Tryz.underlying116 Tryz.underlying5 Tryz.underlying9 fun j hj => ?_
    simp only [List.length_cons, List.length_nil] at hj
    have : j = 0 := by omega
    subst this
    exact h1
  have HF := hidE (HB2.out.trans (h2.mono HB2.out.size))
  clear h1 h2 HTL d0 d1 d2 d3 d4 d5
  go_wp2_with fail
  go_ret2
  exact ⟨rfl, HF.out⟩
end Go.Proofs.YthfilnflgahcjaaGreatDoor
