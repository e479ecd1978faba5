/- ValueBounds, walked. -/
import Derived.Test.YtbpmhgcjefpigaaGreatDoorJoin11
import Derived.Test.YtbpmhgcjefpigaaGreatDoorJoin12
import Derived.Test.YtbpmhgcjefpigaaGreatDoorVsize
import Derived.Test.YtbpmhgcjefpigaaGreatDoorCopied
import Derived.Test.YtbpmhgcjefpigaaGreatDoorWalked
namespace Go.Proofs.YtbpmhgcjefpigaaGreatDoor
open Go.RowKit Go.Shelf Go.Lib Go.WideShapes
set_option linter.unusedVariables false
set_option linter.unusedSimpArgs false

theorem Tryz.info5' : (Tryz.prog.info? 5).map (fun i => (i.zero, i.size, i.bytes)) = some (some (.int .u8 0), 1, 1) := by kernel_rfl

/-- The box of the deep value, and the value in it. -/
def DeepAt (w wr : World) (j : Nat) : Prop := ∃ (k : Int) (la : Option Addr) (n : Nat),
  (wr.cell? ⟨w.heap.size, 0, none⟩ = some (.int .i64 k) ∧ wr.cell? ⟨w.heap.size, 1, none⟩ = some (.bool false) ∧ wr.cell? ⟨w.heap.size, 2, none⟩ = some (.int .i64 0) ∧ wr.cell? ⟨w.heap.size, 3, none⟩ = some (.string ⟨#[]⟩) ∧ wr.cell? ⟨w.heap.size, 4, none⟩ = some (.slice none 0 0) ∧ wr.cell? ⟨w.heap.size, 5, none⟩ = some (.slice la n n)) ∧
  (∀ o, o < 6 → wr.frozen? ⟨w.heap.size, o, none⟩ = false) ∧ LiesR (w.heap.size + 1) wr.heap.size wr (.agg #[.int .i64 k, .bool false, .int .i64 0, .string ⟨#[]⟩, .slice none 0 0, .slice la n n]) (deepT j) ∧ Below w.heap.size w wr ∧ w.heap.size < wr.heap.size

theorem deep_first (w : World) : DeepAt w (w.alloc (.cells #[.int .i64 0, .bool false, .int .i64 0, .string ⟨#[]⟩, .slice none 0 0, .slice none 0 0] 26)) 0 := by
  have hq := World.alloc_heap_new w (.cells #[.int .i64 0, .bool false, .int .i64 0, .string ⟨#[]⟩, .slice none 0 0, .slice none 0 0] 26)
  refine ⟨0, none, 0, six_cells hq, fun o ho => ?_, ?_, (Below.refl _ _).alloc (Nat.le_refl _) _, by simp⟩
  · unfold World.frozen?
    simp only [hq]
    simp
  · simp only [deepT, nullT, LiesR]
    refine ⟨none, 0, none, 0, rfl, ⟨by decide, by simp, by unfold maxLen; omega, by simp, by unfold maxLen; omega⟩, .inl rfl, .inl trivial⟩
theorem deep_step {w wr : World} {j : Nat} {k : Int} {la : Option Addr} {n : Nat} (h1 : ∀ o, o < 6 → (wr.cell? ⟨w.heap.size, o, none⟩).isSome = true) (hf : ∀ o, o < 6 → wr.frozen? ⟨w.heap.size, o, none⟩ = false)
    (hl : LiesR (w.heap.size + 1) wr.heap.size wr (.agg #[.int .i64 k, .bool false, .int .i64 0, .string ⟨#[]⟩, .slice none 0 0, .slice la n n]) (deepT j)) (hb : Below w.heap.size w wr) (hlt : w.heap.size < wr.heap.size) :
    DeepAt w ((six wr w.heap.size 0 (.int .i64 4) (.bool false) (.int .i64 0) (.string ⟨#[]⟩) (.slice none 0 0) (.slice (some ⟨wr.heap.size, 0, none⟩) 1 1)).alloc (.cells #[.int .i64 k, .bool false, .int .i64 0, .string ⟨#[]⟩, .slice none 0 0, .slice la n n] 26)) (j + 1) := by
  obtain ⟨V, hV⟩ : ∃ V, six wr w.heap.size 0 (.int .i64 4) (.bool false) (.int .i64 0) (.string ⟨#[]⟩) (.slice none 0 0) (.slice (some ⟨wr.heap.size, 0, none⟩) 1 1) = V := ⟨_, rfl⟩
  have hVs : V.heap.size = wr.heap.size := by rw [← hV, six_size]
  obtain ⟨c0, c1, c2, c3, c4, c5⟩ := six_in (w := wr) (b := w.heap.size) (o := 0) (v0 := .int .i64 4) (v1 := .bool false) (v2 := .int .i64 0) (v3 := .string ⟨#[]⟩) (v4 := .slice none 0 0) (v5 := .slice (some ⟨wr.heap.size, 0, none⟩) 1 1) (fun q hq => by rw [Nat.zero_add]; exact h1 q hq)
  simp only [Nat.zero_add] at c0 c1 c2 c3 c4 c5
  have hkeep : Keeps (w.heap.size + 1) wr.heap.size wr V := fun b o hb1 _ => hV ▸ six_out (fun e => by omega)
  have hfz : ∀ a, V.frozen? a = wr.frozen? a := fun a => hV ▸ six_frozen a
  have hbV : Below w.heap.size w V := hV ▸ six_below hb (Nat.le_refl _) _ _ _ _ _ _
  rw [hV] at c0 c1 c2 c3 c4 c5
  rw [hV]
  clear hV
  obtain ⟨W, hW⟩ : ∃ W, V.alloc (.cells #[.int .i64 k, .bool false, .int .i64 0, .string ⟨#[]⟩, .slice none 0 0, .slice la n n] 26) = W := ⟨_, rfl⟩
  have hbW : Below V.heap.size V W := hW ▸ (Below.refl _ _).alloc (Nat.le_refl _) _
  have hq : W.heap[wr.heap.size]? = some (.cells #[.int .i64 k, .bool false, .int .i64 0, .string ⟨#[]⟩, .slice none 0 0, .slice la n n] 26 (0, 0)) := by rw [← hVs, ← hW]; exact World.alloc_heap_new _ _
  have hWs : W.heap.size = wr.heap.size + 1 := by rw [← hW, ← hVs]; simp
  rw [hW]
  have hc : ∀ o v, V.cell? ⟨w.heap.size, o, none⟩ = some v → W.cell? ⟨w.heap.size, o, none⟩ = some v := fun o v h => (hbW.cell (p := ⟨w.heap.size, o, none⟩) (by show w.heap.size < _; omega)).trans h
  refine ⟨4, some ⟨wr.heap.size, 0, none⟩, 1, ⟨hc 0 _ c0, hc 1 _ c1, hc 2 _ c2, hc 3 _ c3, hc 4 _ c4, hc 5 _ c5⟩, fun o ho => ?_, ?_, hbV.trans (hbW.mono (by omega)), by omega⟩
  · rw [hbW.frozen (p := ⟨w.heap.size, o, none⟩) (by show w.heap.size < _; omega), hfz]; exact hf o ho
  · simp only [deepT, LiesR]
    refine ⟨none, 0, some ⟨wr.heap.size, 0, none⟩, 1, rfl, ⟨by decide, by simp, by unfold maxLen; omega, by simp, by unfold maxLen; omega⟩, .inl rfl, .inr ⟨wr.heap.size, 0, rfl, by omega, by omega, ?_⟩⟩
    simp only [KidsR]
    obtain ⟨d0, d1, d2, d3, d4, d5⟩ := six_cells hq
    exact ⟨⟨_, _, _, _, _, _, ⟨d0, d1, d2, d3, d4, d5⟩, ((hl.keep hkeep).keep (keeps_below hbW (by omega))).mono (Nat.le_refl _) (by omega)⟩, trivial⟩

set_option maxRecDepth 100000 in
set_option maxHeartbeats 8000000 in
theorem bounds_law (w : World) (hT : Tabs w)
    (hP : TabBelow Tryz.prog w.heap.size w "internal/strconv.uint64pow10" .u64 pow10Tab) : Calls Tryz.prog 10 #[] w fun e w' => e = .returned (.bool true) ∧ Below w.heap.size w w' := by
  have HWK : Hid (∀ w', Below w.heap.size w w' → Calls Tryz.prog 16 #[] w' fun e w2 => e = .returned (.bool true) ∧ Below w'.heap.size w' w2) := fun w' hb => works_any w' (hT.below hb) (fun w2 h => hP w2 (hb.trans (h.mono hb.size)))
  have HT := hidE hT
  clear hT hP
  obtain ⟨W1, hW1⟩ : ∃ W1, w.alloc (.cells #[.int .i64 0, .bool false, .int .i64 0, .string ⟨#[]⟩, .slice none 0 0, .slice none 0 0] 26) = W1 := ⟨_, rfl⟩
  have HW1 := hidE hW1
  have HD1 : Hid (DeepAt w W1 0) := hW1 ▸ deep_first w
  clear hW1
  go_enter Tryz.func10, Tryz.ntmps10
  go_wp2_with fail
  rw [HW1.out]
  clear HW1
  go_loopw [2] (fun i wr => ∃ j : Nat, 1 ≤ j ∧ j ≤ 64 ∧ i = .int .i64 j ∧ DeepAt w wr (j - 1)) (fun i _ => 64 - (intOf i).toNat)
  case atStart => exact ⟨1, by omega, by omega, rfl, HD1.out⟩
  case round =>
    obtain ⟨j, hj1, hj2, rfl, hda⟩ := hrel
    obtain ⟨k, la, n, ⟨c0, c1, c2, c3, c4, c5⟩, hf, hl, hb, hlt⟩ := hda
    have HF := hidE hf
    have HL := hidE hl
    have HB := hidE hb
    by_cases h64 : j < 64
    · have h64' : (j : Int) < 64 := by omega
      have f0 := hf 0 (by omega)
      have f1 := hf 1 (by omega)
      have f2 := hf 2 (by omega)
      have f3 := hf 3 (by omega)
      have f4 := hf 4 (by omega)
      have f5 := hf 5 (by omega)
      have HI : Hid (∀ o, o < 6 → (wr.cell? ⟨w.heap.size, o, none⟩).isSome = true) := fun o ho => by
        match o, ho with
        | 0, _ => rw [c0]; rfl
        | 1, _ => rw [c1]; rfl
        | 2, _ => rw [c2]; rfl
        | 3, _ => rw [c3]; rfl
        | 4, _ => rw [c4]; rfl
        | 5, _ => rw [c5]; rfl
      clear hf hl hb
      go_wp2_with fail
      rw [six_eq]
      refine ⟨⟨j + 1, by omega, by omega, by go_num, ?_⟩, by simp [intOf]; omega⟩
      have := deep_step (j := j - 1) HI.out HF.out HL.out HB.out hlt
      rwa [show j - 1 + 1 = j + 1 - 1 from by omega] at this
    · obtain rfl : j = 64 := by omega
      obtain ⟨i0, hi, hz0, hz1, hz2⟩ := info_parts Tryz.info26
      obtain ⟨i5, hi5, hy0, hy1, hy2⟩ := info_parts Tryz.info5'
      obtain ⟨n1, hn1⟩ : ∃ n : Nat, n = 65536 := ⟨_, rfl⟩
      obtain ⟨n2, hn2⟩ : ∃ n : Nat, n = 65537 := ⟨_, rfl⟩
      obtain ⟨n3, hn3⟩ : ∃ n : Nat, n = 524288 := ⟨_, rfl⟩
      have hmk : ∀ (n : Nat) (W : World), n ≤ 1000000 → (Instr.makeSlice 24 (.int .i64 (n : Int)) (.int .i64 (n : Int))).run Tryz.prog W = .ok (.slice (some ⟨W.heap.size, 0, none⟩) n n) (W.alloc (.cells (madeCells #[.int .i64 0, .bool false, .int .i64 0, .string ⟨#[]⟩, .slice none 0 0, .slice none 0 0] (n * 6)) 26)) := fun n W hn => by
        have := run_makeSlice (P := Tryz.prog) W 24 26 i0 _ Tryz.underlying24 hi hz0 .i64 .i64 (n : Int) (n : Int) (by omega) (by omega) (by rw [hz1]; omega) (by rw [hz2]; omega) (by omega)
        simpa [hz1, Value.cells] using this
      have hmk3 : ∀ (n : Nat) (W : World), n ≤ 1000000 → (Instr.makeSlice 67 (.int .i64 (n : Int)) (.int .i64 (n : Int))).run Tryz.prog W = .ok (.slice (some ⟨W.heap.size, 0, none⟩) n n) (W.alloc (.cells (madeCells #[.int .u8 0] n) 5)) := fun n W hn => by
        have := run_makeSlice (P := Tryz.prog) W 67 5 i5 _ Tryz.underlying67 hi5 hy0 .i64 .i64 (n : Int) (n : Int) (by omega) (by omega) (by rw [hy1]; omega) (by rw [hy2]; omega) (by omega)
        simpa [hy1, Value.cells] using this
      obtain ⟨C1, hC1⟩ : ∃ C, madeCells #[.int .i64 0, .bool false, .int .i64 0, .string ⟨#[]⟩, .slice none 0 0, .slice none 0 0] (n1 * 6) = C := ⟨_, rfl⟩
      obtain ⟨C2, hC2⟩ : ∃ C, madeCells #[.int .i64 0, .bool false, .int .i64 0, .string ⟨#[]⟩, .slice none 0 0, .slice none 0 0] (n2 * 6) = C := ⟨_, rfl⟩
      obtain ⟨C3, hC3⟩ : ∃ C, madeCells #[.int .u8 0] n3 = C := ⟨_, rfl⟩
      have hm1 : ∀ W : World, (Instr.makeSlice 24 (.int .i64 65536) (.int .i64 65536)).run Tryz.prog W = .ok (.slice (some ⟨W.heap.size, 0, none⟩) n1 n1) (W.alloc (.cells C1 26)) := fun W => by
        have := hmk n1 W (by omega); rw [hC1] at this; rw [show (65536 : Int) = ((n1 : Nat) : Int) from by omega]; exact this
      have hm2 : ∀ W : World, (Instr.makeSlice 24 (.int .i64 65537) (.int .i64 65537)).run Tryz.prog W = .ok (.slice (some ⟨W.heap.size, 0, none⟩) n2 n2) (W.alloc (.cells C2 26)) := fun W => by
        have := hmk n2 W (by omega); rw [hC2] at this; rw [show (65537 : Int) = ((n2 : Nat) : Int) from by omega]; exact this
      have hm3 : ∀ W : World, (Instr.makeSlice 67 (.int .i64 524288) (.int .i64 524288)).run Tryz.prog W = .ok (.slice (some ⟨W.heap.size, 0, none⟩) n3 n3) (W.alloc (.cells C3 5)) := fun W => by
        have := hmk3 n3 W (by omega); rw [hC3] at this; rw [show (524288 : Int) = ((n3 : Nat) : Int) from by omega]; exact this
      have HN := hidE (And.intro hn1 (And.intro hn2 hn3))
      have HC := hidE (And.intro hC1 (And.intro hC2 hC3))
      clear hmk hmk3 hn1 hn2 hn3 hC1 hC2 hC3 hi hz0 hz1 hz2 hi5 hy0 hy1 hy2 hf hl hb
      obtain ⟨WB, hWB⟩ : ∃ WB, ((((((((wr.alloc (.cells #[.string ⟨#[107]⟩] 9)).alloc (.cells #[.int .i64 k, .bool false, .int .i64 0, .string ⟨#[]⟩, .slice none 0 0, .slice la n n] 26)).alloc (.cells #[.int .i64 5, .bool false, .int .i64 0, .string ⟨#[]⟩, .slice (some ⟨wr.heap.size, 0, none⟩) 1 1, .slice (some ⟨wr.heap.size + 1, 0, none⟩) 1 1] 26)).alloc (.cells C1 26)).alloc (.cells #[.int .i64 4, .bool false, .int .i64 0, .string ⟨#[]⟩, .slice none 0 0, .slice (some ⟨wr.heap.size + 1 + 1 + 1, 0, none⟩) n1 n1] 26)).alloc (.cells C2 26)).alloc (.cells #[.int .i64 4, .bool false, .int .i64 0, .string ⟨#[]⟩, .slice none 0 0, .slice (some ⟨wr.heap.size + 1 + 1 + 1 + 1 + 1, 0, none⟩) n2 n2] 26)).alloc (.cells C3 5)) = WB := ⟨_, rfl⟩
      have HWB := hidE hWB
      have hsB : WB.heap.size = wr.heap.size + 8 := by rw [← hWB]; simp
      have hB0 : WB.heap[wr.heap.size]? = some (.cells #[.string ⟨#[107]⟩] 9 (0, 0)) := by
        rw [← hWB]; simp only [heap_alloc_at, World.size_alloc]; repeat (first | rw [if_pos trivial] | rw [if_pos (by omega)] | rw [if_neg (by omega)])
      have hB1 : WB.heap[wr.heap.size + 1]? = some (.cells #[.int .i64 k, .bool false, .int .i64 0, .string ⟨#[]⟩, .slice none 0 0, .slice la n n] 26 (0, 0)) := by
        rw [← hWB]; simp only [heap_alloc_at, World.size_alloc]; repeat (first | rw [if_pos trivial] | rw [if_pos (by omega)] | rw [if_neg (by omega)])
      have hB2 : WB.heap[wr.heap.size + 1 + 1]? = some (.cells #[.int .i64 5, .bool false, .int .i64 0, .string ⟨#[]⟩, .slice (some ⟨wr.heap.size, 0, none⟩) 1 1, .slice (some ⟨wr.heap.size + 1, 0, none⟩) 1 1] 26 (0, 0)) := by
        rw [← hWB]; simp only [heap_alloc_at, World.size_alloc]; repeat (first | rw [if_pos trivial] | rw [if_pos (by omega)] | rw [if_neg (by omega)])
      have hB3 : WB.heap[wr.heap.size + 1 + 1 + 1]? = some (.cells C1 26 (0, 0)) := by
        rw [← hWB]; simp only [heap_alloc_at, World.size_alloc]; repeat (first | rw [if_pos trivial] | rw [if_pos (by omega)] | rw [if_neg (by omega)])
      have hB4 : WB.heap[wr.heap.size + 1 + 1 + 1 + 1]? = some (.cells #[.int .i64 4, .bool false, .int .i64 0, .string ⟨#[]⟩, .slice none 0 0, .slice (some ⟨wr.heap.size + 1 + 1 + 1, 0, none⟩) n1 n1] 26 (0, 0)) := by
        rw [← hWB]; simp only [heap_alloc_at, World.size_alloc]; repeat (first | rw [if_pos trivial] | rw [if_pos (by omega)] | rw [if_neg (by omega)])
      have hB5 : WB.heap[wr.heap.size + 1 + 1 + 1 + 1 + 1]? = some (.cells C2 26 (0, 0)) := by
        rw [← hWB]; simp only [heap_alloc_at, World.size_alloc]; repeat (first | rw [if_pos trivial] | rw [if_pos (by omega)] | rw [if_neg (by omega)])
      have hB6 : WB.heap[wr.heap.size + 1 + 1 + 1 + 1 + 1 + 1]? = some (.cells #[.int .i64 4, .bool false, .int .i64 0, .string ⟨#[]⟩, .slice none 0 0, .slice (some ⟨wr.heap.size + 1 + 1 + 1 + 1 + 1, 0, none⟩) n2 n2] 26 (0, 0)) := by
        rw [← hWB]; simp only [heap_alloc_at, World.size_alloc]; repeat (first | rw [if_pos trivial] | rw [if_pos (by omega)] | rw [if_neg (by omega)])
      have hB7 : WB.heap[wr.heap.size + 1 + 1 + 1 + 1 + 1 + 1 + 1]? = some (.cells C3 5 (0, 0)) := by
        rw [← hWB]; simp only [heap_alloc_at, World.size_alloc]; repeat (first | rw [if_pos trivial] | rw [if_pos (by omega)] | rw [if_neg (by omega)])
      have hbB : Below wr.heap.size wr WB := by
        rw [← hWB]; exact ((((((((Below.refl _ wr).alloc (Nat.le_refl _) _).alloc (by simp) _).alloc (by simp; omega) _).alloc (by simp; omega) _).alloc (by simp; omega) _).alloc (by simp; omega) _).alloc (by simp; omega) _).alloc (by simp; omega) _
      have hcv : (convert 67 9 (.slice (some ⟨wr.heap.size + 1 + 1 + 1 + 1 + 1 + 1 + 1, 0, none⟩) n3 n3)).run Tryz.prog WB = .ok (.string (zeros n3)) WB := zero_text WB _ n3 (by rw [HC.out.2.2]; exact hB7)
      obtain ⟨S, hS⟩ : ∃ S, zeros n3 = S := ⟨_, rfl⟩
      rw [hS] at hcv
      have hSs : S.size = n3 := by rw [← hS]; exact zeros_size n3
      have hSm : S.size ≤ 1000000 := by have := HN.out.2.2; omega
      have HS := hidE hS
      clear hS hWB
      go_upto_region 10 with fail
      rw [HWB.out]
      obtain ⟨WF, hWF⟩ : ∃ WF, ((((((WB.alloc (.cells #[.string S] 9)).alloc (.cells #[.int .i64 3, .bool false, .int .i64 0, .string S, .slice none 0 0, .slice none 0 0] 26)).alloc (.cells #[.int .i64 5, .bool false, .int .i64 0, .string ⟨#[]⟩, .slice (some ⟨wr.heap.size + 8, 0, none⟩) 1 1, .slice (some ⟨wr.heap.size + 8 + 1, 0, none⟩) 1 1] 26)).alloc (.cells #[.string S] 9)).alloc (.cells #[.int .i64 3, .bool false, .int .i64 0, .string (S ++ ⟨#[97]⟩), .slice none 0 0, .slice none 0 0] 26)).alloc (.cells #[.int .i64 5, .bool false, .int .i64 0, .string ⟨#[]⟩, .slice (some ⟨wr.heap.size + 8 + 1 + 1 + 1, 0, none⟩) 1 1, .slice (some ⟨wr.heap.size + 8 + 1 + 1 + 1 + 1, 0, none⟩) 1 1] 26)) = WF := ⟨_, rfl⟩
      have hsF : WF.heap.size = wr.heap.size + 14 := by rw [← hWF]; simp; omega
      have hbF : Below WB.heap.size WB WF := by
        rw [← hWF]; exact ((((((Below.refl _ WB).alloc (Nat.le_refl _) _).alloc (by simp) _).alloc (by simp; omega) _).alloc (by simp; omega) _).alloc (by simp; omega) _).alloc (by simp; omega) _
      have hF0 : WF.heap[wr.heap.size + 8]? = some (.cells #[.string S] 9 (0, 0)) := by
        rw [← hWF]; simp only [heap_alloc_at, World.size_alloc, hsB]; repeat (first | rw [if_pos trivial] | rw [if_pos (by omega)] | rw [if_neg (by omega)])
      have hF1 : WF.heap[wr.heap.size + 8 + 1]? = some (.cells #[.int .i64 3, .bool false, .int .i64 0, .string S, .slice none 0 0, .slice none 0 0] 26 (0, 0)) := by
        rw [← hWF]; simp only [heap_alloc_at, World.size_alloc, hsB]; repeat (first | rw [if_pos trivial] | rw [if_pos (by omega)] | rw [if_neg (by omega)])
      have hF2 : WF.heap[wr.heap.size + 8 + 1 + 1]? = some (.cells #[.int .i64 5, .bool false, .int .i64 0, .string ⟨#[]⟩, .slice (some ⟨wr.heap.size + 8, 0, none⟩) 1 1, .slice (some ⟨wr.heap.size + 8 + 1, 0, none⟩) 1 1] 26 (0, 0)) := by
        rw [← hWF]; simp only [heap_alloc_at, World.size_alloc, hsB]; repeat (first | rw [if_pos trivial] | rw [if_pos (by omega)] | rw [if_neg (by omega)])
      have hF3 : WF.heap[wr.heap.size + 8 + 1 + 1 + 1]? = some (.cells #[.string S] 9 (0, 0)) := by
        rw [← hWF]; simp only [heap_alloc_at, World.size_alloc, hsB]; repeat (first | rw [if_pos trivial] | rw [if_pos (by omega)] | rw [if_neg (by omega)])
      have hF4 : WF.heap[wr.heap.size + 8 + 1 + 1 + 1 + 1]? = some (.cells #[.int .i64 3, .bool false, .int .i64 0, .string (S ++ ⟨#[97]⟩), .slice none 0 0, .slice none 0 0] 26 (0, 0)) := by
        rw [← hWF]; simp only [heap_alloc_at, World.size_alloc, hsB]; repeat (first | rw [if_pos trivial] | rw [if_pos (by omega)] | rw [if_neg (by omega)])
      have hF5 : WF.heap[wr.heap.size + 8 + 1 + 1 + 1 + 1 + 1]? = some (.cells #[.int .i64 5, .bool false, .int .i64 0, .string ⟨#[]⟩, .slice (some ⟨wr.heap.size + 8 + 1 + 1 + 1, 0, none⟩) 1 1, .slice (some ⟨wr.heap.size + 8 + 1 + 1 + 1 + 1, 0, none⟩) 1 1] 26 (0, 0)) := by
        rw [← hWF]; simp only [heap_alloc_at, World.size_alloc, hsB]; repeat (first | rw [if_pos trivial] | rw [if_pos (by omega)] | rw [if_neg (by omega)])
      have hbwF : Below wr.heap.size wr WF := hbB.trans (hbF.mono hbB.size)
      have HBX : Hid (∀ W', Below WF.heap.size WF W' → (W'.cell? ⟨w.heap.size, 0, none⟩ = some (.int .i64 k) ∧ W'.cell? ⟨w.heap.size, 1, none⟩ = some (.bool false) ∧ W'.cell? ⟨w.heap.size, 2, none⟩ = some (.int .i64 0) ∧ W'.cell? ⟨w.heap.size, 3, none⟩ = some (.string ⟨#[]⟩) ∧ W'.cell? ⟨w.heap.size, 4, none⟩ = some (.slice none 0 0) ∧ W'.cell? ⟨w.heap.size, 5, none⟩ = some (.slice la n n)) ∧ (W'.cell? ⟨wr.heap.size + 1 + 1, 0, none⟩ = some (.int .i64 5) ∧ W'.cell? ⟨wr.heap.size + 1 + 1, 1, none⟩ = some (.bool false) ∧ W'.cell? ⟨wr.heap.size + 1 + 1, 2, none⟩ = some (.int .i64 0) ∧ W'.cell? ⟨wr.heap.size + 1 + 1, 3, none⟩ = some (.string ⟨#[]⟩) ∧ W'.cell? ⟨wr.heap.size + 1 + 1, 4, none⟩ = some (.slice (some ⟨wr.heap.size, 0, none⟩) 1 1) ∧ W'.cell? ⟨wr.heap.size + 1 + 1, 5, none⟩ = some (.slice (some ⟨wr.heap.size + 1, 0, none⟩) 1 1)) ∧ (W'.cell? ⟨wr.heap.size + 1 + 1 + 1 + 1, 0, none⟩ = some (.int .i64 4) ∧ W'.cell? ⟨wr.heap.size + 1 + 1 + 1 + 1, 1, none⟩ = some (.bool false) ∧ W'.cell? ⟨wr.heap.size + 1 + 1 + 1 + 1, 2, none⟩ = some (.int .i64 0) ∧ W'.cell? ⟨wr.heap.size + 1 + 1 + 1 + 1, 3, none⟩ = some (.string ⟨#[]⟩) ∧ W'.cell? ⟨wr.heap.size + 1 + 1 + 1 + 1, 4, none⟩ = some (.slice none 0 0) ∧ W'.cell? ⟨wr.heap.size + 1 + 1 + 1 + 1, 5, none⟩ = some (.slice (some ⟨wr.heap.size + 1 + 1 + 1, 0, none⟩) n1 n1)) ∧ (W'.cell? ⟨wr.heap.size + 1 + 1 + 1 + 1 + 1 + 1, 0, none⟩ = some (.int .i64 4) ∧ W'.cell? ⟨wr.heap.size + 1 + 1 + 1 + 1 + 1 + 1, 1, none⟩ = some (.bool false) ∧ W'.cell? ⟨wr.heap.size + 1 + 1 + 1 + 1 + 1 + 1, 2, none⟩ = some (.int .i64 0) ∧ W'.cell? ⟨wr.heap.size + 1 + 1 + 1 + 1 + 1 + 1, 3, none⟩ = some (.string ⟨#[]⟩) ∧ W'.cell? ⟨wr.heap.size + 1 + 1 + 1 + 1 + 1 + 1, 4, none⟩ = some (.slice none 0 0) ∧ W'.cell? ⟨wr.heap.size + 1 + 1 + 1 + 1 + 1 + 1, 5, none⟩ = some (.slice (some ⟨wr.heap.size + 1 + 1 + 1 + 1 + 1, 0, none⟩) n2 n2)) ∧ (W'.cell? ⟨wr.heap.size + 8 + 1 + 1, 0, none⟩ = some (.int .i64 5) ∧ W'.cell? ⟨wr.heap.size + 8 + 1 + 1, 1, none⟩ = some (.bool false) ∧ W'.cell? ⟨wr.heap.size + 8 + 1 + 1, 2, none⟩ = some (.int .i64 0) ∧ W'.cell? ⟨wr.heap.size + 8 + 1 + 1, 3, none⟩ = some (.string ⟨#[]⟩) ∧ W'.cell? ⟨wr.heap.size + 8 + 1 + 1, 4, none⟩ = some (.slice (some ⟨wr.heap.size + 8, 0, none⟩) 1 1) ∧ W'.cell? ⟨wr.heap.size + 8 + 1 + 1, 5, none⟩ = some (.slice (some ⟨wr.heap.size + 8 + 1, 0, none⟩) 1 1)) ∧ (W'.cell? ⟨wr.heap.size + 8 + 1 + 1 + 1 + 1 + 1, 0, none⟩ = some (.int .i64 5) ∧ W'.cell? ⟨wr.heap.size + 8 + 1 + 1 + 1 + 1 + 1, 1, none⟩ = some (.bool false) ∧ W'.cell? ⟨wr.heap.size + 8 + 1 + 1 + 1 + 1 + 1, 2, none⟩ = some (.int .i64 0) ∧ W'.cell? ⟨wr.heap.size + 8 + 1 + 1 + 1 + 1 + 1, 3, none⟩ = some (.string ⟨#[]⟩) ∧ W'.cell? ⟨wr.heap.size + 8 + 1 + 1 + 1 + 1 + 1, 4, none⟩ = some (.slice (some ⟨wr.heap.size + 8 + 1 + 1 + 1, 0, none⟩) 1 1) ∧ W'.cell? ⟨wr.heap.size + 8 + 1 + 1 + 1 + 1 + 1, 5, none⟩ = some (.slice (some ⟨wr.heap.size + 8 + 1 + 1 + 1 + 1, 0, none⟩) 1 1))) := fun W' hb => by
        have hw : Below wr.heap.size wr W' := hbwF.trans (hb.mono hbwF.size)
        have hB : ∀ i o, i < wr.heap.size + 8 → WB.heap[i]? = some o → W'.heap[i]? = some o := fun i o hi h => ((hb.block i (by omega)).trans (hbF.block i (by omega))).trans h
        have hF : ∀ i o, i < wr.heap.size + 14 → WF.heap[i]? = some o → W'.heap[i]? = some o := fun i o hi h => (hb.block i (by omega)).trans h
        have hd : ∀ i v, wr.cell? ⟨w.heap.size, i, none⟩ = some v → W'.cell? ⟨w.heap.size, i, none⟩ = some v := fun i v h => (hw.cell (p := ⟨w.heap.size, i, none⟩) hlt).trans h
        exact ⟨⟨hd 0 _ c0, hd 1 _ c1, hd 2 _ c2, hd 3 _ c3, hd 4 _ c4, hd 5 _ c5⟩, six_cells (hB _ _ (by omega) hB2), six_cells (hB _ _ (by omega) hB4), six_cells (hB _ _ (by omega) hB6), six_cells (hF _ _ (by omega) hF2), six_cells (hF _ _ (by omega) hF5)⟩
      have HV : Hid (∀ W', Below WF.heap.size WF W' → Below w.heap.size w W' ∧ Tabs W' ∧ Lies W'.heap.size W' (.agg #[.int .i64 k, .bool false, .int .i64 0, .string ⟨#[]⟩, .slice none 0 0, .slice la n n]) (deepT 63) ∧ Lies W'.heap.size W' (.agg #[.int .i64 5, .bool false, .int .i64 0, .string ⟨#[]⟩, .slice (some ⟨wr.heap.size, 0, none⟩) 1 1, .slice (some ⟨wr.heap.size + 1, 0, none⟩) 1 1]) overT ∧ Lies W'.heap.size W' (.agg #[.int .i64 4, .bool false, .int .i64 0, .string ⟨#[]⟩, .slice none 0 0, .slice (some ⟨wr.heap.size + 1 + 1 + 1, 0, none⟩) n1 n1]) (longT n1) ∧ Lies W'.heap.size W' (.agg #[.int .i64 4, .bool false, .int .i64 0, .string ⟨#[]⟩, .slice none 0 0, .slice (some ⟨wr.heap.size + 1 + 1 + 1 + 1 + 1, 0, none⟩) n2 n2]) (longT n2) ∧ Lies W'.heap.size W' (.agg #[.int .i64 5, .bool false, .int .i64 0, .string ⟨#[]⟩, .slice (some ⟨wr.heap.size + 8, 0, none⟩) 1 1, .slice (some ⟨wr.heap.size + 8 + 1, 0, none⟩) 1 1]) (textT S S) ∧ Lies W'.heap.size W' (.agg #[.int .i64 5, .bool false, .int .i64 0, .string ⟨#[]⟩, .slice (some ⟨wr.heap.size + 8 + 1 + 1 + 1, 0, none⟩) 1 1, .slice (some ⟨wr.heap.size + 8 + 1 + 1 + 1 + 1, 0, none⟩) 1 1]) (textT S (S ++ ⟨#[97]⟩))) := fun W' hb => by
        have hw : Below wr.heap.size wr W' := hbwF.trans (hb.mono hbwF.size)
        have hww : Below w.heap.size w W' := HB.out.trans (hw.mono HB.out.size)
        have hsz : WF.heap.size ≤ W'.heap.size := hb.size
        have hB : ∀ i o, i < wr.heap.size + 8 → WB.heap[i]? = some o → W'.heap[i]? = some o := fun i o hi h => ((hb.block i (by omega)).trans (hbF.block i (by omega))).trans h
        have hF : ∀ i o, i < wr.heap.size + 14 → WF.heap[i]? = some o → W'.heap[i]? = some o := fun i o hi h => (hb.block i (by omega)).trans h
        have hd : Lies W'.heap.size W' (.agg #[.int .i64 k, .bool false, .int .i64 0, .string ⟨#[]⟩, .slice none 0 0, .slice la n n]) (deepT 63) := ((HL.out.lie).below hw).mono (by omega)
        have e1 := HN.out.1
        have e2 := HN.out.2.1
        have e3 := HN.out.2.2
        have hz := (zeros_more n3).1
        rw [HS.out] at hz
        have hb1 := hB _ _ (by omega) hB3
        have hb2 := hB _ _ (by omega) hB5
        rw [← HC.out.1] at hb1
        rw [← HC.out.2.1] at hb2
        exact ⟨hww, HT.out.below hww, hd, lies_over (hB _ _ (by omega) hB0) (hB _ _ (by omega) hB1) hd, lies_long hb1 (by omega), lies_long hb2 (by omega), lies_text (hF _ _ (by omega) hF0) (hF _ _ (by omega) hF1) (by omega) (by omega), lies_text (hF _ _ (by omega) hF3) (hF _ _ (by omega) hF4) (by omega) (by omega)⟩
      have HWF := hidE hWF
      have HB0 : Hid (Below WF.heap.size WF WF) := Below.refl _ _
      have HK : Hid (checkN (longT n1) = 0 ∧ checkN (longT n2) = 3 ∧ checkN (textT S S) = 0 ∧ checkN (textT S (S ++ ⟨#[97]⟩)) = 3 ∧ (Modest (longT n1) ∧ Modest (longT n2) ∧ Modest (textT S S) ∧ Modest (textT S (S ++ ⟨#[97]⟩)) ∧ Modest overT ∧ Modest (deepT 63) ∧ Modest nullT)) := by
        have e1 := HN.out.1
        have e2 := HN.out.2.1
        have e3 := HN.out.2.2
        have hv := zeros_valid n3
        obtain ⟨hz, hv2⟩ := zeros_more n3
        rw [HS.out] at hv hz hv2
        have m1 := (long_facts n1).2.2.2.2
        have m2 := (long_facts n2).2.2.2.2
        have m3 := (text_facts hv hv).2.2.2.2
        have m4 := (text_facts hv hv2).2.2.2.2
        have m5 := over_facts.2.2.2
        have m6 := (deep_facts 63).2.2.2.2.2
        have m7 := null_facts.2.2.2.2.2
        exact ⟨check_long (by omega), check_more (by omega), check_text hv hv (by omega), check_great hv hv2 (by omega), modest_to (by omega), modest_to (by omega), modest_to (by omega), modest_to (by omega), modest_to (by omega), modest_to (by omega), modest_to (by omega)⟩
      have HSZ : Hid (sizeN (deepT 63) = 64 ∧ sizeD (deepT 63) = 64) := by
        obtain ⟨_, g2, _, _, g5, _⟩ := deep_facts 63
        obtain ⟨h1, h2⟩ := sizes_fine check_deep
        exact ⟨by rw [h1, g5]; rfl, by rw [h2, g2]; rfl⟩
      clear hm1 hm2 hm3 hbF hbB hbwF hF0 hF1 hF2 hF3 hF4 hF5 hB0 hB1 hB2 hB3 hB4 hB5 hB6 hB7 c0 c1 c2 c3 c4 c5 hWF
      go_upto_region 13 with fail
      rw [HWF.out]
      clear HWF HWB hcv
      generalize S ++ (⟨#[97]⟩ : ByteArray) = G at *
      obtain ⟨x0, x1, x2, x3, x4, x5⟩ := (HBX.out WF HB0.out).1
      go_wp2_with fail
      refine (Size_any _ (deepT 63) WF (HV.out WF HB0.out).2.2.1 (HV.out WF HB0.out).2.1 HK.out.2.2.2.2.2.2.2.2.2.1.1 HK.out.2.2.2.2.2.2.2.2.2.1.2 (by have := (pre_one (deepT 63)).1; have := (deep_facts 63).2.2.2.2.1; omega)).mono ?_
      rintro e v1 ⟨rfl, hbv⟩
      have HB1 : Hid (Below WF.heap.size WF v1) := below_on HB0.out hbv
      clear hbv x0 x1 x2 x3 x4 x5
      rw [HSZ.out.1, HSZ.out.2]
      obtain ⟨x0, x1, x2, x3, x4, x5⟩ := (HBX.out v1 HB1.out).2.1
      go_wp2_with fail
      refine (Text_not overT (by rw [check_over]; decide) HK.out.2.2.2.2.2.2.2.2.1 v1.heap.size _ v1 (Nat.le_refl _) (HV.out v1 HB1.out).2.2.2.1 (HV.out v1 HB1.out).2.1).mono ?_
      rintro e v2 ⟨rfl, hbv⟩
      have HB2 : Hid (Below WF.heap.size WF v2) := below_on HB1.out hbv
      clear hbv x0 x1 x2 x3 x4 x5
      rw [check_over]
      obtain ⟨x0, x1, x2, x3, x4, x5⟩ := (HBX.out v2 HB2.out).1
      go_wp2_with fail
      refine (check_any _ (deepT 63) v2 (HV.out v2 HB2.out).2.2.1 (HV.out v2 HB2.out).2.1 HK.out.2.2.2.2.2.2.2.2.2.1.1 HK.out.2.2.2.2.2.2.2.2.2.1.2).mono ?_
      rintro e v3 ⟨rfl, hbv⟩
      have HB3 : Hid (Below WF.heap.size WF v3) := below_on HB2.out hbv
      clear hbv x0 x1 x2 x3 x4 x5
      rw [check_deep]
      go_wp2_with fail
      refine (num_any _ v3).mono ?_
      rintro e v4 ⟨rfl, hbv⟩
      have HB4 : Hid (Below WF.heap.size WF v4) := below_on HB3.out hbv
      clear hbv
      obtain ⟨x0, x1, x2, x3, x4, x5⟩ := (HBX.out v4 HB4.out).2.1
      go_wp2_with fail
      refine (check_any _ overT v4 (HV.out v4 HB4.out).2.2.2.1 (HV.out v4 HB4.out).2.1 HK.out.2.2.2.2.2.2.2.2.1.1 HK.out.2.2.2.2.2.2.2.2.1.2).mono ?_
      rintro e v5 ⟨rfl, hbv⟩
      have HB5 : Hid (Below WF.heap.size WF v5) := below_on HB4.out hbv
      clear hbv x0 x1 x2 x3 x4 x5
      rw [check_over]
      go_wp2_with fail
      refine (num_any _ v5).mono ?_
      rintro e v6 ⟨rfl, hbv⟩
      have HB6 : Hid (Below WF.heap.size WF v6) := below_on HB5.out hbv
      clear hbv
      obtain ⟨x0, x1, x2, x3, x4, x5⟩ := (HBX.out v6 HB6.out).2.2.1
      go_wp2_with fail
      refine (check_any _ (longT n1) v6 (HV.out v6 HB6.out).2.2.2.2.1 (HV.out v6 HB6.out).2.1 HK.out.2.2.2.2.1.1 HK.out.2.2.2.2.1.2).mono ?_
      rintro e v7 ⟨rfl, hbv⟩
      have HB7 : Hid (Below WF.heap.size WF v7) := below_on HB6.out hbv
      clear hbv x0 x1 x2 x3 x4 x5
      rw [HK.out.1]
      go_wp2_with fail
      refine (num_any _ v7).mono ?_
      rintro e v8 ⟨rfl, hbv⟩
      have HB8 : Hid (Below WF.heap.size WF v8) := below_on HB7.out hbv
      clear hbv
      obtain ⟨x0, x1, x2, x3, x4, x5⟩ := (HBX.out v8 HB8.out).2.2.2.1
      go_wp2_with fail
      refine (check_any _ (longT n2) v8 (HV.out v8 HB8.out).2.2.2.2.2.1 (HV.out v8 HB8.out).2.1 HK.out.2.2.2.2.2.1.1 HK.out.2.2.2.2.2.1.2).mono ?_
      rintro e v9 ⟨rfl, hbv⟩
      have HB9 : Hid (Below WF.heap.size WF v9) := below_on HB8.out hbv
      clear hbv x0 x1 x2 x3 x4 x5
      rw [HK.out.2.1]
      go_wp2_with fail
      refine (num_any _ v9).mono ?_
      rintro e v10 ⟨rfl, hbv⟩
      have HB10 : Hid (Below WF.heap.size WF v10) := below_on HB9.out hbv
      clear hbv
      obtain ⟨x0, x1, x2, x3, x4, x5⟩ := (HBX.out v10 HB10.out).2.2.2.2.1
      go_wp2_with fail
      refine (check_any _ (textT S S) v10 (HV.out v10 HB10.out).2.2.2.2.2.2.1 (HV.out v10 HB10.out).2.1 HK.out.2.2.2.2.2.2.1.1 HK.out.2.2.2.2.2.2.1.2).mono ?_
      rintro e v11 ⟨rfl, hbv⟩
      have HB11 : Hid (Below WF.heap.size WF v11) := below_on HB10.out hbv
      clear hbv x0 x1 x2 x3 x4 x5
      rw [HK.out.2.2.1]
      go_wp2_with fail
      refine (num_any _ v11).mono ?_
      rintro e v12 ⟨rfl, hbv⟩
      have HB12 : Hid (Below WF.heap.size WF v12) := below_on HB11.out hbv
      clear hbv
      obtain ⟨x0, x1, x2, x3, x4, x5⟩ := (HBX.out v12 HB12.out).2.2.2.2.2
      go_wp2_with fail
      refine (check_any _ (textT S G) v12 (HV.out v12 HB12.out).2.2.2.2.2.2.2 (HV.out v12 HB12.out).2.1 HK.out.2.2.2.2.2.2.2.1.1 HK.out.2.2.2.2.2.2.2.1.2).mono ?_
      rintro e v13 ⟨rfl, hbv⟩
      have HB13 : Hid (Below WF.heap.size WF v13) := below_on HB12.out hbv
      clear hbv x0 x1 x2 x3 x4 x5
      rw [HK.out.2.2.2.1]
      go_wp2_with fail
      refine (num_any _ v13).mono ?_
      rintro e v14 ⟨rfl, hbv⟩
      have HB14 : Hid (Below WF.heap.size WF v14) := below_on HB13.out hbv
      clear hbv
      go_wp2_with fail
      refine (num_any _ v14).mono ?_
      rintro e v15 ⟨rfl, hbv⟩
      have HB15 : Hid (Below WF.heap.size WF v15) := below_on HB14.out hbv
      clear hbv
      obtain ⟨x0, x1, x2, x3, x4, x5⟩ := (HBX.out v15 HB15.out).2.1
      go_wp2_with fail
      refine (Compare_any overT nullT v15.heap.size _ _ v15 (Nat.le_refl _) (HV.out v15 HB15.out).2.2.2.1 (null_lies v15.heap.size v15).lie (HV.out v15 HB15.out).2.1 HK.out.2.2.2.2.2.2.2.2.1 HK.out.2.2.2.2.2.2.2.2.2.2).mono ?_
      rintro e v16 ⟨rfl, hbv⟩
      have HB16 : Hid (Below WF.heap.size WF v16) := below_on HB15.out hbv
      clear hbv x0 x1 x2 x3 x4 x5
      rw [show compN overT nullT = 0 from if_neg (fun h => by rw [check_over] at h; exact absurd h.1 (by decide))]
      obtain ⟨x0, x1, x2, x3, x4, x5⟩ := (HBX.out v16 HB16.out).2.1
      go_wp2_with fail
      refine (Same_any overT overT v16.heap.size _ _ v16 (Nat.le_refl _) (HV.out v16 HB16.out).2.2.2.1 (HV.out v16 HB16.out).2.2.2.1 (HV.out v16 HB16.out).2.1 HK.out.2.2.2.2.2.2.2.2.1 HK.out.2.2.2.2.2.2.2.2.1).mono ?_
      rintro e v17 ⟨rfl, hbv⟩
      have HB17 : Hid (Below WF.heap.size WF v17) := below_on HB16.out hbv
      clear hbv x0 x1 x2 x3 x4 x5
      rw [show sameB overT overT = false by unfold sameB; rw [decide_eq_false (fun h => by rw [check_over] at h; exact absurd h.1 (by decide)), Bool.false_and]]
      obtain ⟨x0, x1, x2, x3, x4, x5⟩ := (HBX.out v17 HB17.out).2.1
      obtain ⟨WO, hWO⟩ : ∃ WO, v17.alloc (.cells #[.int .i64 5, .bool false, .int .i64 0, .string ⟨#[]⟩, .slice (some ⟨wr.heap.size, 0, none⟩) 1 1, .slice (some ⟨wr.heap.size + 1, 0, none⟩) 1 1] 26) = WO := ⟨_, rfl⟩
      have hbO : Below v17.heap.size v17 WO := hWO ▸ (Below.refl _ _).alloc (Nat.le_refl _) _
      have hqO : WO.heap[v17.heap.size]? = some (.cells #[.int .i64 5, .bool false, .int .i64 0, .string ⟨#[]⟩, .slice (some ⟨wr.heap.size, 0, none⟩) 1 1, .slice (some ⟨wr.heap.size + 1, 0, none⟩) 1 1] 26 (0, 0)) := hWO ▸ World.alloc_heap_new _ _
      have HBO : Hid (Below WF.heap.size WF WO) := below_on HB17.out hbO
      have HON := hidE (Once_not overT (by rw [check_over]; decide) HK.out.2.2.2.2.2.2.2.2.1 WO.heap.size (some ⟨v17.heap.size, 0, none⟩) WO (Nat.le_refl _) (.inr ⟨_, _, rfl, (Array.getElem?_eq_some_iff.1 hqO).1, kids_single hqO (HV.out WO HBO.out).2.2.2.1⟩) (HV.out WO HBO.out).2.1)
      have HWO := hidE hWO
      clear hWO hbO hqO
      go_wp2_with fail
      rw [HWO.out]
      refine HON.out.mono ?_
      rintro e v18 ⟨rfl, hbv⟩
      have HB18 : Hid (Below WF.heap.size WF v18) := below_on HBO.out hbv
      clear hbv x0 x1 x2 x3 x4 x5 HON HWO
      obtain ⟨x0, x1, x2, x3, x4, x5⟩ := (HBX.out v18 HB18.out).2.2.2.1
      go_wp2_with fail
      refine (Storable_any (longT n2) v18.heap.size _ v18 (Nat.le_refl _) (HV.out v18 HB18.out).2.2.2.2.2.1 (HV.out v18 HB18.out).2.1 HK.out.2.2.2.2.2.1).mono ?_
      rintro e v19 ⟨rfl, hbv⟩
      have HB19 : Hid (Below WF.heap.size WF v19) := below_on HB18.out hbv
      clear hbv x0 x1 x2 x3 x4 x5
      rw [show (decide (checkN (longT n2) = 0) && storB (longT n2)) = false by rw [decide_eq_false (fun h => by rw [HK.out.2.1] at h; exact absurd h (by decide)), Bool.false_and]]
      go_wp2_with fail
      refine (HWK.out v19 (HV.out v19 HB19.out).1).mono ?_
      rintro e v99 ⟨rfl, hb99⟩
      have HFI : Hid (Below w.heap.size w v99) := below_on (HV.out v19 HB19.out).1 hb99
      clear hb99
      go_wp2_with fail
      go_ret
      exact ⟨rfl, HFI.out⟩
end Go.Proofs.YtbpmhgcjefpigaaGreatDoor
