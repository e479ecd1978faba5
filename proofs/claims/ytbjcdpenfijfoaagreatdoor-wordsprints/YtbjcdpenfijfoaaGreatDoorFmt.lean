/- Numbers and texts, told. -/
import Derived.Test.YtbjcdpenfijfoaaGreatDoorQuot
import Derived.Lib.AppendIntMem
namespace Go.Proofs.YtbjcdpenfijfoaaGreatDoor
open Go.RowKit Go.Shelf Go.Lib Go.Sort
set_option linter.unusedVariables false
set_option linter.unusedSimpArgs false
theorem Quote_any (s : ByteArray) (hs : s.size ≤ 100000000) (w : World) (hE : Env w) (hv : validD s.data.toList = true) : Calls Tryz.prog 60 #[.string s] w fun e w' => e = .returned (.string ⟨(quoteB s).toArray⟩) ∧ Below w.heap.size w w' := by
  have HV := hidE (valid_any s (by omega) w hE)
  rw [hv] at HV
  clear hv hE
  go_enter Tryz.func60, Tryz.ntmps60
  go_wp2_with fail
  refine HV.out.mono ?_
  rintro e w1 ⟨rfl, hb1⟩
  have HB1 := hidE hb1
  clear hb1 HV
  have HC := hidE (quote_any s (by omega) w1.heap.size 0 (.slice none 0 0) [] w1 (World.ownsRow_nil _ _ _ _) (Nat.le_refl _) (by omega))
  go_wp2_with fail
  refine HC.out.mono ?_
  rintro e w3 ⟨v', rfl, ht⟩
  have hown := ht.own
  rw [Nat.zero_add, List.nil_append] at hown
  have hcv := own_conv hown
  have HF : Hid (Below w.heap.size w w3) := HB1.out.trans ((ht.below (World.ownsRow_nil _ _ _ _) (Nat.le_refl _)).mono HB1.out.size)
  clear ht hown HC
  obtain ⟨bs, hbs⟩ : ∃ bs, quoteB s = bs := ⟨_, rfl⟩
  have HBS := hidE hbs
  rw [hbs] at hcv
  clear hbs
  go_wp2_with fail
  go_ret
  exact ⟨by rw [HBS.out]; rfl, HF.out⟩
theorem tab_alloc {w : World} {name : String} {k : IntKind} {zs : List Int} (h : TabIs Tryz.prog w name k zs) (o : Obj) : TabIs Tryz.prog (w.alloc o) name k zs := tabIs_alloc h o
set_option maxRecDepth 100000 in
set_option maxHeartbeats 4000000 in
theorem fmt_small (u : Nat) (hu : u < 100) (w : World) : Calls Tryz.prog 81 #[.int .u64 u, .int .i64 10] w fun e w' => e = .returned (.string ⟨(decDigits u).toArray⟩) ∧ Below w.heap.size w w' := by
  have HS := hidE (fun W => Tryz.internal_strconv_small u hu W)
  have hu' : (u : Int) < 100 := by omega
  obtain ⟨ds, hds⟩ : ∃ d, decDigits u = d := ⟨_, rfl⟩
  rw [hds] at HS ⊢
  clear hds
  go_enter Tryz.func81, Tryz.ntmps81
  go_wp2_with fail
  refine (HS.out w).mono ?_
  rintro e _ ⟨rfl, rfl⟩
  go_wp2_with fail
  go_ret
  exact ⟨rfl, Below.refl _ _⟩
set_option maxRecDepth 100000 in
set_option maxHeartbeats 8000000 in
theorem fmt_big (u : Nat) (hu : 100 ≤ u) (hu64 : u < 18446744073709551616) (w : World) (htab : TabIs Tryz.prog w "internal/strconv.uint64pow10" .u64 pow10Tab) :
    Calls Tryz.prog 81 #[.int .u64 u, .int .i64 10] w fun e w' => e = .returned (.string ⟨(decDigits u).toArray⟩) ∧ Below w.heap.size w w' := by
  have hu1 : 1 ≤ u := by omega
  have hu' : ¬ (u : Int) < 100 := by omega
  have hnd20 : nDigits u ≤ 20 := by have := numDigits_eq u hu1 hu64; split at this <;> omega
  obtain ⟨W1, hW1⟩ : ∃ W1, w.alloc (.cells zeros24 109) = W1 := ⟨_, rfl⟩
  have hb1 : Below w.heap.size w W1 := hW1 ▸ (Below.refl _ _).alloc (Nat.le_refl _) _
  have HND : Hid (Calls Tryz.prog 93 #[.int .u64 u] W1 fun e w' => e = .returned (.int .i64 (nDigits u)) ∧ w' = W1) := Tryz.internal_strconv_numDigits u hu1 hu64 W1 (hW1 ▸ tabIs_alloc htab _)
  have hH0 : Holds (fun (b : UInt8) => Value.int .u8 (b.toNat : Int)) W1 w.heap.size 0 (Array.replicate (nDigits u) (0 : UInt8)) := hW1 ▸ holds_zero0 w 109 (nDigits u) (by omega)
  have HFM : Hid (Calls Tryz.prog 94 #[.slice (some ⟨w.heap.size, 0, none⟩) (nDigits u) 24, .int .u64 u] W1 fun e w' => e = .returned (.tuple #[]) ∧ ∃ (k v' : Nat) (dk : Array UInt8), w' = (putRow (fun (b : UInt8) => Value.int .u8 (b.toNat : Int)) W1 w.heap.size 0 dk).drewN k ∧ FmtInv (nDigits u) u 0 v' dk) := by
    have := Tryz.internal_strconv_formatBase10 w.heap.size 0 24 u (Array.replicate (nDigits u) 0) W1 hH0 (by rw [Array.size_replicate]; exact lt_pow_nDigits u) hu64 (by rw [Array.size_replicate]; omega)
    rw [Array.size_replicate] at this
    exact this
  have hal : Tryz.prog.arrayLen 109 = 24 := by kernel_rfl
  have hsl : ∀ W : World, (Instr.sliceAt 109 (.pointer (some ⟨w.heap.size, 0, none⟩)) none (some (.int .i64 (nDigits u : Int))) none).run Tryz.prog W = .ok (.slice (some ⟨w.heap.size, 0, none⟩) (nDigits u) 24) W := fun W => by
    rw [run_sliceAt_array_h W 109 ⟨w.heap.size, 0, none⟩ (by kernel_rfl) .i64 (nDigits u : Int) (by omega) (by rw [hal]; omega)]
    rw [hal]
    go_simp
  have HR : Hid (∀ k dk v', FmtInv (nDigits u) u 0 v' dk → Below w.heap.size w ((putRow (fun (b : UInt8) => Value.int .u8 (b.toNat : Int)) W1 w.heap.size 0 dk).drewN k) ∧
      ∀ j c, (byteCells (decDigits u))[j]? = some c → ((putRow (fun (b : UInt8) => Value.int .u8 (b.toNat : Int)) W1 w.heap.size 0 dk).drewN k).cell? ((⟨w.heap.size, 0, none⟩ : Addr).add j) = some c) := fun k dk v' hF => by
    refine ⟨?_, fun j c hj => ?_⟩
    · obtain ⟨os, eo⟩ := fin_at w (.cells zeros24 109) dk k 0
      rw [← hW1, eo]
      exact below_grow w.heap.size w (Nat.le_refl _) k os
    · have hjl : j < (decDigits u).length := by
        have h5 := (List.getElem?_eq_some_iff.1 hj).1
        rwa [byteCells_length] at h5
      have e5 : (byteCells (decDigits u))[j]? = some (Value.int .u8 ((decDigits u)[j].toNat : Int)) := by simp [byteCells, hjl]
      rw [e5] at hj
      cases hj
      rw [row_is_numeral hF j hjl, add_plain, World.cell?_drewN]
      exact cell?_putRow (fun (b : UInt8) => Value.int .u8 (b.toNat : Int)) _ w.heap.size 0 _ dk hH0 (by rw [hF.size, Array.size_replicate]) j (by rw [hF.size]; rw [decDigits_length] at hjl; exact hjl)
  have hdl := decDigits_length u
  have HW1 := hidE hW1
  clear hW1 hb1 hH0 htab hal
  obtain ⟨nd, hnd⟩ : ∃ m, nDigits u = m := ⟨_, rfl⟩
  obtain ⟨ds, hds⟩ : ∃ d, decDigits u = d := ⟨_, rfl⟩
  rw [hnd, hds] at hdl
  rw [hnd] at hsl hnd20 HFM HND
  rw [hnd, hds] at HR
  rw [hds]
  clear hnd hds
  go_enter Tryz.func81, Tryz.ntmps81
  go_wp2_with fail
  show Calls Tryz.prog 93 _ (w.alloc (.cells zeros24 109)) _
  rw [HW1.out]
  refine HND.out.mono ?_
  rintro e w1 ⟨rfl, hw1⟩
  rw [hw1]
  clear HND HW1 hw1
  go_wp2_with fail
  refine HFM.out.mono ?_
  rintro e w2 ⟨rfl, k, v', dk, rfl, hF⟩
  obtain ⟨hb2, hc2⟩ := HR.out k dk v' hF
  generalize (putRow (fun (b : UInt8) => Value.int .u8 (b.toNat : Int)) W1 w.heap.size 0 dk).drewN k = W2 at hb2 hc2 ⊢
  have HB2 := hidE hb2
  have hcv : (convert 49 9 (.slice (some ⟨w.heap.size, 0, none⟩) nd 24)).run Tryz.prog W2 = .ok (.string ⟨ds.toArray⟩) W2 := by
    rw [← hdl]
    refine run_convert_bytes_back (P := Tryz.prog) W2 49 9 5 ⟨w.heap.size, 0, none⟩ 24 ds Tryz.underlying49 Tryz.underlying5 Tryz.underlying9 fun j hj => ?_
    refine hc2 j _ ?_
    simp [byteCells, hj]
  clear hb2 HFM HR hF hc2
  go_wp2_with fail
  go_ret
  exact ⟨rfl, HB2.out⟩
theorem fmt_any (u : Nat) (hu64 : u < 18446744073709551616) (w : World) (hE : Env w) : Calls Tryz.prog 61 #[.int .u64 u, .int .i64 10] w fun e w' => e = .returned (.string ⟨(decDigits u).toArray⟩) ∧ Below w.heap.size w w' := by
  have HF : Hid (Calls Tryz.prog 81 #[.int .u64 u, .int .i64 10] w fun e w' => e = .returned (.string ⟨(decDigits u).toArray⟩) ∧ Below w.heap.size w w') := by
    by_cases h : u < 100
    · exact fmt_small u h w
    · exact fmt_big u (by omega) hu64 w hE.pow
  clear hE
  obtain ⟨ds, hds⟩ : ∃ d, decDigits u = d := ⟨_, rfl⟩
  rw [hds] at HF ⊢
  clear hds
  go_enter Tryz.func61, Tryz.ntmps61
  go_wp2_with fail
  refine HF.out.mono ?_
  rintro e w1 ⟨rfl, hb⟩
  have HB := hidE hb
  clear hb
  go_wp2_with fail
  go_ret
  exact ⟨rfl, HB.out⟩
end Go.Proofs.YtbjcdpenfijfoaaGreatDoor
