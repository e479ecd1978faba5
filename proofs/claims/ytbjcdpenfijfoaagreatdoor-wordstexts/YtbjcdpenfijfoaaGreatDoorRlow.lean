/- The document's own: small letters, and whether a word is a name. -/
import Derived.Test.YtbjcdpenfijfoaaGreatDoorPspell
import Derived.Test.YtbjcdpenfijfoaaGreatDoorPstep
namespace Go.Proofs.YtbjcdpenfijfoaaGreatDoor
open Go.RowKit Go.Shelf Go.Lexed
set_option linter.unusedVariables false
set_option linter.unusedSimpArgs false
attribute [local go_sem] Oper.semAt_some
theorem low_snoc (l : List UInt8) (c : UInt8) : lowL (l ++ [c]) = lowL l ++ [UInt8.ofNat (lowN c.toNat)] := by simp [lowL]
theorem conv_one (w : World) (n : Nat) (hn : n < 256) : (convert 49 9 (.slice (some ⟨w.heap.size, 0, none⟩) 1 1)).run Tryz.prog (w.alloc (.cells #[.int .u8 (n : Int)] 5)) = .ok (.string (bsOf [UInt8.ofNat n])) (w.alloc (.cells #[.int .u8 (n : Int)] 5)) := by
  refine run_convert_bytes_back (P := Tryz.prog) _ 49 9 5 ⟨w.heap.size, 0, none⟩ 1 [UInt8.ofNat n] Tryz.underlying49 Tryz.underlying5 Tryz.underlying9 fun j hj => ?_
  have h0 : j = 0 := by simpa using hj
  subst h0
  have hadd : (⟨w.heap.size, 0, none⟩ : Addr).add 0 = ⟨w.heap.size, 0, none⟩ := by unfold Addr.add; split <;> simp_all
  rw [hadd]
  refine cell_new _ _ _ _ _ ?_
  simp [Nat.mod_eq_of_lt hn]
theorem app_one (L : List UInt8) (n : Nat) : bsOf L ++ bsOf [UInt8.ofNat n] = bsOf (L ++ [UInt8.ofNat n]) := by
  rw [← of_bs (bsOf L ++ bsOf [UInt8.ofNat n])]
  congr 1
set_option maxRecDepth 100000 in
set_option maxHeartbeats 4000000 in
theorem rlower_any (s : ByteArray) (hs : s.size ≤ 10000000000) (w : World) : Calls Tryz.prog 46 #[.string s] w fun e w' => e = .returned (.string (bsOf (lowL s.data.toList))) ∧ Below w.heap.size w w' := by
  go_enter Tryz.func46, Tryz.ntmps46
  go_wp2_with fail
  go_loopw [3, 4] (fun t i wr => ∃ j : Nat, j ≤ s.size ∧ i = .int .i64 j ∧ t = .string (bsOf (lowL (s.data.toList.take j))) ∧ Below w.heap.size w wr) (fun _ i _ => s.size - (intOf i).toNat)
  case atStart => exact ⟨0, Nat.zero_le _, rfl, rfl, Below.refl _ _⟩
  case round =>
    obtain ⟨j, hj, rfl, rfl, hb⟩ := hrel
    have HB := hidE hb
    clear hb
    by_cases hlt : j < s.size
    · have hlt' : (j : Int) < s.size := by omega
      have hat : s.data.toList[j]? = some s[j] := by rw [List.getElem?_eq_getElem (by simpa using hlt)]; rfl
      obtain ⟨n, hn⟩ : ∃ n, s[j].toNat = n := ⟨_, rfl⟩
      have hn2 : n < 256 := by rw [← hn]; exact s[j].toNat_lt
      have hn' : (s[j].toNat : Int) = n := by rw [hn]
      obtain ⟨L, hL⟩ : ∃ L, lowL (s.data.toList.take j) = L := ⟨_, rfl⟩
      have HNX : Hid (lowL (s.data.toList.take (j + 1)) = L ++ [UInt8.ofNat (lowN n)]) := by
        show _ = _
        rw [List.take_add_one, hat]
        show lowL (_ ++ [s[j]]) = _
        rw [low_snoc, hL, hn]
      have hLl : (bsOf L).size ≤ s.size := by rw [bsOf_size, ← hL]; simp [lowL]; exact Nat.min_le_right _ _
      rw [hL]
      clear hat hL
      go_upto_region 6 with fail
      clear hn hn'
      by_cases h65 : 65 ≤ n
      · have a65 : (65 : Int) ≤ n := by omega
        by_cases h90 : n ≤ 90
        · have a90 : (n : Int) ≤ 90 := by omega
          obtain ⟨m, hm⟩ : ∃ m, n + 32 = m := ⟨_, rfl⟩
          have hm' : (n : Int) + 32 = m := by omega
          have hm2 : m < 256 := by omega
          have hcv := conv_one wr m (by omega)
          have hap := app_one L m
          have HEQ : Hid (UInt8.ofNat (lowN n) = UInt8.ofNat m) := by show _ = _; congr 1; unfold lowN; rw [if_pos ⟨h65, h90⟩]; exact hm
          have ho1 : (bsOf [UInt8.ofNat m]).size = 1 := bsOf_size _
          clear hm
          go_wp2_with fail
          go_roundw
          case rel =>
            refine ⟨j + 1, by omega, by go_num, ?_, below_on HB.out ((Below.refl _ _).alloc (Nat.le_refl _) _)⟩
            rw [HNX.out, HEQ.out]
          case measure => simp [intOf]; omega
        · have a90 : ¬ (n : Int) ≤ 90 := by omega
          have hcv := conv_one wr n (by omega)
          have hap := app_one L n
          have HEQ : Hid (UInt8.ofNat (lowN n) = UInt8.ofNat n) := by show _ = _; congr 1; unfold lowN; rw [if_neg (by omega)]
          have ho1 : (bsOf [UInt8.ofNat n]).size = 1 := bsOf_size _
          go_wp2_with fail
          go_roundw
          case rel =>
            refine ⟨j + 1, by omega, by go_num, ?_, below_on HB.out ((Below.refl _ _).alloc (Nat.le_refl _) _)⟩
            rw [HNX.out, HEQ.out]
          case measure => simp [intOf]; omega
      · have a65 : ¬ (65 : Int) ≤ n := by omega
        have hcv := conv_one wr n (by omega)
        have hap := app_one L n
        have HEQ : Hid (UInt8.ofNat (lowN n) = UInt8.ofNat n) := by show _ = _; congr 1; unfold lowN; rw [if_neg (by omega)]
        have ho1 : (bsOf [UInt8.ofNat n]).size = 1 := bsOf_size _
        go_wp2_with fail
        go_roundw
        case rel =>
          refine ⟨j + 1, by omega, by go_num, ?_, below_on HB.out ((Below.refl _ _).alloc (Nat.le_refl _) _)⟩
          rw [HNX.out, HEQ.out]
        case measure => simp [intOf]; omega
    · have hlt' : ¬ (j : Int) < s.size := by omega
      have HF : Hid (lowL (s.data.toList.take j) = lowL s.data.toList) := by
        show _ = _
        rw [List.take_of_length_le (by show s.size ≤ j; omega)]
      go_wp2_with fail
      go_ret
      exact ⟨by rw [HF.out]; rfl, HB.out⟩
set_option maxRecDepth 100000 in
set_option maxHeartbeats 4000000 in
theorem ris_any (k p n : Int) (t key : ByteArray) (ht : t.size ≤ 10000000000) (hk : key.size ≤ 10000000000) (w : World) :
    Calls Tryz.prog 30 #[.agg #[.int .i64 k, .int .i64 p, .string t, .int .u64 n], .string key] w fun e w' => e = .returned (.bool (decide (k = 1) && decide (lowL t.data.toList = lowL key.data.toList))) ∧ Below w.heap.size w w' := by
  have HA := hidE (fun w => rlower_any t ht w)
  have HK := hidE (fun w => rlower_any key hk w)
  have HD : Hid ((lowL t.data.toList = lowL key.data.toList → bsOf (lowL t.data.toList) = bsOf (lowL key.data.toList)) ∧ (¬ lowL t.data.toList = lowL key.data.toList → ((bsOf (lowL t.data.toList)).toList == (bsOf (lowL key.data.toList)).toList) = false)) := by
    refine ⟨fun h => by rw [h], fun h => ?_⟩
    rw [beq_eq_false_iff_ne, ByteArray.toList_eq, ByteArray.toList_eq, bsOf_list, bsOf_list]
    exact h
  generalize lowL t.data.toList = A at HA HD ⊢
  generalize lowL key.data.toList = K at HK HD ⊢
  go_enter Tryz.func30, Tryz.ntmps30
  go_upto_region 1 with fail
  generalize hW1 : World.alloc _ _ = W1
  have HB1 : Hid (Below w.heap.size w W1) := by rw [← hW1]; exact (Below.refl _ _).alloc (Nat.le_refl _) _
  have HW1 : Hid (Wo W1 w.heap.size k p n t) := by rw [← hW1]; exact World.alloc_heap_new _ _
  clear hW1
  have c0 := HW1.out.c0
  have c2 := HW1.out.c2
  by_cases h1 : k = 1
  · subst h1
    go_wp2_with fail
    refine (HA.out _).mono ?_
    rintro e w2 ⟨rfl, hb2⟩
    have HB2 := hidE (below_on HB1.out hb2)
    clear hb2
    go_wp2_with fail
    refine (HK.out _).mono ?_
    rintro e w3 ⟨rfl, hb3⟩
    have HB3 := hidE (below_on HB2.out hb3)
    clear hb3
    by_cases he : A = K
    · subst he
      go_wp2_with fail
      go_ret
      exact ⟨by simp, HB3.out⟩
    · have hne := HD.out.2 he
      go_wp2_with fail
      go_ret
      exact ⟨by simp [he], HB3.out⟩
  · have h1' : (k == 1) = false := ne_bool h1
    go_wp2_with fail
    go_ret
    exact ⟨by simp [h1], HB1.out⟩
end Go.Proofs.YtbjcdpenfijfoaaGreatDoor
