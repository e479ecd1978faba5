/- The document's own: small letters, and whether a word is a name. The document's runes: four digits to the base 16. -/
import Derived.Test.YtbjcdpenfijfoaaGreatDoorPspell
import Derived.Test.YtbjcdpenfijfoaaGreatDoorPstep
import Derived.Test.YtbjcdpenfijfoaaGreatDoorJoin9
namespace Go.Proofs.YtbjcdpenfijfoaaGreatDoor
open Go.RowKit Go.Shelf Go.Lexed
set_option linter.unusedVariables false
set_option linter.unusedSimpArgs false
attribute [local go_sem] Oper.semAt_some
theorem low_snoc (l : List UInt8) (c : UInt8) : lowL (l ++ [c]) = lowL l ++ [UInt8.ofNat (lowN c.toNat)] := by simp [lowL]
theorem conv_one (w : World) (n : Nat) (hn : n < 256) : (convert 49 9 (.slice (some ⟨w.heap.size, 0, none⟩) 1 1)).run Tryz.prog (w.alloc (.cells #[.int .u8 (n : Int)] 5)) = .ok (.string (bsOf [UInt8.ofNat n])) (w.alloc (.cells #[.int .u8 (n : Int)] 5)) := by
  refine run_convert_bytes_back (P := Tryz.prog) _ 49 9 5 ⟨w.heap.size, 0, none⟩ 1 [UInt8.ofNat n] Tryz.underlying49 Tryz.underlying5 Tryz.underlying9 fun j hj => ?_
  have h0 : j = 0 := by simpa using hj
  subst h0
  have hadd : (⟨w.heap.size, 0, none⟩ : Addr).add 0 = ⟨w.heap.size, 0, none⟩ := by unfold Addr.add; split <;> simp_all
  rw [hadd]
  refine cell_new _ _ _ _ _ ?_
  simp [Nat.mod_eq_of_lt hn]
theorem app_one (L : List UInt8) (n : Nat) : bsOf L ++ bsOf [UInt8.ofNat n] = bsOf (L ++ [UInt8.ofNat n]) := by
  rw [← of_bs (bsOf L ++ bsOf [UInt8.ofNat n])]
  congr 1
set_option maxRecDepth 100000 in
set_option maxHeartbeats 4000000 in
theorem rlower_any (s : ByteArray) (hs : s.size ≤ 10000000000) (w : World) : Calls Tryz.prog 46 #[.string s] w fun e w' => e = .returned (.string (bsOf (lowL s.data.toList))) ∧ Below w.heap.size w w' := by
  go_enter Tryz.func46, Tryz.ntmps46
  go_wp2_with fail
  go_loopw [3, 4] (fun t i wr => ∃ j : Nat, j ≤ s.size ∧ i = .int .i64 j ∧ t = .string (bsOf (lowL (s.data.toList.take j))) ∧ Below w.heap.size w wr) (fun _ i _ => s.size - (intOf i).toNat)
  case atStart => exact ⟨0, Nat.zero_le _, rfl, rfl, Below.refl _ _⟩
  case round =>
    obtain ⟨j, hj, rfl, rfl, hb⟩ := hrel
    have HB := hidE hb
    clear hb
    by_cases hlt : j < s.size
    · have hlt' : (j : Int) < s.size := by omega
      have hat : s.data.toList[j]? = some s[j] := by rw [List.getElem?_eq_getElem (by simpa using hlt)]; rfl
      obtain ⟨n, hn⟩ : ∃ n, s[j].toNat = n := ⟨_, rfl⟩
      have hn2 : n < 256 := by rw [← hn]; exact s[j].toNat_lt
      have hn' : (s[j].toNat : Int) = n := by rw [hn]
      obtain ⟨L, hL⟩ : ∃ L, lowL (s.data.toList.take j) = L := ⟨_, rfl⟩
      have HNX : Hid (lowL (s.data.toList.take (j + 1)) = L ++ [UInt8.ofNat (lowN n)]) := by
        show _ = _
        rw [List.take_add_one, hat]
        show lowL (_ ++ [s[j]]) = _
        rw [low_snoc, hL, hn]
      have hLl : (bsOf L).size ≤ s.size := by rw [bsOf_size, ← hL]; simp [lowL]; exact Nat.min_le_right _ _
      rw [hL]
      clear hat hL
      go_upto_region 6 with fail
      clear hn hn'
      by_cases h65 : 65 ≤ n
      · have a65 : (65 : Int) ≤ n := by omega
        by_cases h90 : n ≤ 90
        · have a90 : (n : Int) ≤ 90 := by omega
          obtain ⟨m, hm⟩ : ∃ m, n + 32 = m := ⟨_, rfl⟩
          have hm' : (n : Int) + 32 = m := by omega
          have hm2 : m < 256 := by omega
          have hcv := conv_one wr m (by omega)
          have hap := app_one L m
          have HEQ : Hid (UInt8.ofNat (lowN n) = UInt8.ofNat m) := by show _ = _; congr 1; unfold lowN; rw [if_pos ⟨h65, h90⟩]; exact hm
          have ho1 : (bsOf [UInt8.ofNat m]).size = 1 := bsOf_size _
          clear hm
          go_wp2_with fail
          go_roundw
          case rel =>
            refine ⟨j + 1, by omega, by go_num, ?_, below_on HB.out ((Below.refl _ _).alloc (Nat.le_refl _) _)⟩
            rw [HNX.out, HEQ.out]
          case measure => simp [intOf]; omega
        · have a90 : ¬ (n : Int) ≤ 90 := by omega
          have hcv := conv_one wr n (by omega)
          have hap := app_one L n
          have HEQ : Hid (UInt8.ofNat (lowN n) = UInt8.ofNat n) := by show _ = _; congr 1; unfold lowN; rw [if_neg (by omega)]
          have ho1 : (bsOf [UInt8.ofNat n]).size = 1 := bsOf_size _
          go_wp2_with fail
          go_roundw
          case rel =>
            refine ⟨j + 1, by omega, by go_num, ?_, below_on HB.out ((Below.refl _ _).alloc (Nat.le_refl _) _)⟩
            rw [HNX.out, HEQ.out]
          case measure => simp [intOf]; omega
      · have a65 : ¬ (65 : Int) ≤ n := by omega
        have hcv := conv_one wr n (by omega)
        have hap := app_one L n
        have HEQ : Hid (UInt8.ofNat (lowN n) = UInt8.ofNat n) := by show _ = _; congr 1; unfold lowN; rw [if_neg (by omega)]
        have ho1 : (bsOf [UInt8.ofNat n]).size = 1 := bsOf_size _
        go_wp2_with fail
        go_roundw
        case rel =>
          refine ⟨j + 1, by omega, by go_num, ?_, below_on HB.out ((Below.refl _ _).alloc (Nat.le_refl _) _)⟩
          rw [HNX.out, HEQ.out]
        case measure => simp [intOf]; omega
    · have hlt' : ¬ (j : Int) < s.size := by omega
      have HF : Hid (lowL (s.data.toList.take j) = lowL s.data.toList) := by
        show _ = _
        rw [List.take_of_length_le (by show s.size ≤ j; omega)]
      go_wp2_with fail
      go_ret
      exact ⟨by rw [HF.out]; rfl, HB.out⟩
set_option maxRecDepth 100000 in
set_option maxHeartbeats 4000000 in
theorem ris_any (k p n : Int) (t key : ByteArray) (ht : t.size ≤ 10000000000) (hk : key.size ≤ 10000000000) (w : World) :
    Calls Tryz.prog 30 #[.agg #[.int .i64 k, .int .i64 p, .string t, .int .u64 n], .string key] w fun e w' => e = .returned (.bool (decide (k = 1) && decide (lowL t.data.toList = lowL key.data.toList))) ∧ Below w.heap.size w w' := by
  have HA := hidE (fun w => rlower_any t ht w)
  have HK := hidE (fun w => rlower_any key hk w)
  have HD : Hid ((lowL t.data.toList = lowL key.data.toList → bsOf (lowL t.data.toList) = bsOf (lowL key.data.toList)) ∧ (¬ lowL t.data.toList = lowL key.data.toList → ((bsOf (lowL t.data.toList)).toList == (bsOf (lowL key.data.toList)).toList) = false)) := by
    refine ⟨fun h => by rw [h], fun h => ?_⟩
    rw [beq_eq_false_iff_ne, ByteArray.toList_eq, ByteArray.toList_eq, bsOf_list, bsOf_list]
    exact h
  generalize lowL t.data.toList = A at HA HD ⊢
  generalize lowL key.data.toList = K at HK HD ⊢
  go_enter Tryz.func30, Tryz.ntmps30
  go_upto_region 1 with fail
  generalize hW1 : World.alloc _ _ = W1
  have HB1 : Hid (Below w.heap.size w W1) := by rw [← hW1]; exact (Below.refl _ _).alloc (Nat.le_refl _) _
  have HW1 : Hid (Wo W1 w.heap.size k p n t) := by rw [← hW1]; exact World.alloc_heap_new _ _
  clear hW1
  have c0 := HW1.out.c0
  have c2 := HW1.out.c2
  by_cases h1 : k = 1
  · subst h1
    go_wp2_with fail
    refine (HA.out _).mono ?_
    rintro e w2 ⟨rfl, hb2⟩
    have HB2 := hidE (below_on HB1.out hb2)
    clear hb2
    go_wp2_with fail
    refine (HK.out _).mono ?_
    rintro e w3 ⟨rfl, hb3⟩
    have HB3 := hidE (below_on HB2.out hb3)
    clear hb3
    by_cases he : A = K
    · subst he
      go_wp2_with fail
      go_ret
      exact ⟨by simp, HB3.out⟩
    · have hne := HD.out.2 he
      go_wp2_with fail
      go_ret
      exact ⟨by simp [he], HB3.out⟩
  · have h1' : (k == 1) = false := ne_bool h1
    go_wp2_with fail
    go_ret
    exact ⟨by simp [h1], HB1.out⟩
end Go.Proofs.YtbjcdpenfijfoaaGreatDoor

namespace Go.Proofs.YtbjcdpenfijfoaaGreatDoor
open Go.RowKit Go.Shelf Go.Lexed
open Go.Lib (byteCells byteCells_length)
set_option linter.unusedVariables false
set_option linter.unusedSimpArgs false
attribute [local go_sem] Oper.semAt_some
def r4At (s : ByteArray) (i : Nat) : Option (List UInt8) := match suf s i with
  | a :: b :: c :: d :: _ => rune4 a b c d
  | _ => none
def runeB (n : Nat) : Option (List UInt8) :=
  if 0xd800 ≤ n ∧ n ≤ 0xdfff then none
  else if n < 0x80 then some [UInt8.ofNat n]
  else if n < 0x800 then some [UInt8.ofNat (0xc0 + n / 64), UInt8.ofNat (0x80 + n % 64)]
  else some [UInt8.ofNat (0xe0 + n / 4096), UInt8.ofNat (0x80 + n / 64 % 64), UInt8.ofNat (0x80 + n % 64)]
theorem r4_is (s : ByteArray) (i : Nat) : r4At s i = (hexT (suf s i) 4 0).bind runeB := by
  unfold r4At
  match suf s i with
  | a :: b :: c :: d :: r =>
    rw [hexT_four]
    simp only [rune4]
    cases hexN a <;> simp
    cases hexN b <;> simp
    cases hexN c <;> simp
    cases hexN d <;> simp [runeB]
  | [] => simp [hexT]
  | [_] => simp [hexT]
  | [_, _] => simp [hexT]
  | [_, _, _] => simp [hexT]
set_option maxRecDepth 20000 in
theorem hexI_is (c : UInt8) : hexI c.toNat = (match hexN c with | some d => (d : Int) | none => -1) := by
  refine all_bytes (p := fun c => hexI c.toNat = (match hexN c with | some d => (d : Int) | none => -1)) ?_ c
  decide
theorem conv_cells (w : World) (bs : List UInt8) (n : Nat) (hn : bs.length = n) (cs : Array Value) (hcs : cs = (byteCells bs).toArray) : (convert 49 9 (.slice (some ⟨w.heap.size, 0, none⟩) n n)).run Tryz.prog (w.alloc (.cells cs 5)) = .ok (.string (bsOf bs)) (w.alloc (.cells cs 5)) := by
  subst hn hcs
  refine run_convert_bytes_back (P := Tryz.prog) _ 49 9 5 ⟨w.heap.size, 0, none⟩ _ bs Tryz.underlying49 Tryz.underlying5 Tryz.underlying9 fun j hj => ?_
  have hadd : (⟨w.heap.size, 0, none⟩ : Addr).add j = ⟨w.heap.size, j, none⟩ := by unfold Addr.add; split <;> simp_all
  rw [hadd]
  refine cell_new _ _ _ _ _ ?_
  simp [byteCells, hj]
theorem byte_nat {n : Nat} (h : n < 256) : (UInt8.ofNat n).toNat = n := by rw [UInt8.toNat_ofNat']; omega
set_option maxRecDepth 100000 in
set_option maxHeartbeats 4000000 in
theorem rrune_any (s : ByteArray) (i : Nat) (hi : i ≤ s.size) (hs : s.size ≤ 1000000000) (w : World) : Calls Tryz.prog 79 #[.string s, .int .i64 (i : Int)] w fun e w' => e = .returned (.tuple #[.string (bsOf ((r4At s i).getD [])), .bool (r4At s i).isSome]) ∧ Below w.heap.size w w' := by
  have HR := hidE (r4_is s i)
  generalize r4At s i = R at HR ⊢
  have HX := hidE (fun n hn w => rhex_any n hn w)
  go_enter Tryz.func79, Tryz.ntmps79
  by_cases h4 : s.size - i < 4
  · have h4' : (s.size : Int) - i < 4 := by omega
    have HN : Hid (R = none) := by
      show _ = _
      have hl : (suf s i).length = s.size - i := by simp [suf]
      rw [HR.out, hexT, if_neg (by rw [hl]; omega)]; rfl
    go_wp2_with fail
    go_ret2
    exact ⟨by rw [HN.out]; rfl, Below.refl _ _⟩
  · have h4' : ¬ (s.size : Int) - i < 4 := by omega
    go_wp2_with fail
    go_loopw [6, 7] (fun x v wr => ∃ q n : Nat, q ≤ 4 ∧ x = .int .i64 (n : Int) ∧ v = .int .i64 (q : Int) ∧ n < 16 ^ q ∧ wr = w ∧ hexT (suf s i) 4 0 = hexT (suf s (i + q)) (4 - q) n) (fun _ v _ => 4 - (intOf v).toNat)
    case atStart => exact ⟨0, 0, by omega, rfl, rfl, by decide, rfl, rfl⟩
    case round =>
      obtain ⟨q, n, hq, rfl, rfl, hnq, rfl, hT⟩ := hrel
      have HT := hidE hT
      have hn4 : n < 65536 := Nat.lt_of_lt_of_le hnq (Nat.le_trans (Nat.pow_le_pow_right (by decide) hq) (by decide))
      have HNQ := hidE hnq
      clear hT hnq
      by_cases hlt : q < 4
      · have hlt' : (q : Int) < 4 := by omega
        obtain ⟨p, hp⟩ : ∃ p, i + q = p := ⟨_, rfl⟩
        have hp' : (i : Int) + (q : Int) = (p : Int) := by omega
        have hps : p < s.size := by omega
        have hps' : (p : Int) < s.size := by omega
        obtain ⟨m, hm⟩ : ∃ m, s[p].toNat = m := ⟨_, rfl⟩
        have hm2 : m < 256 := by rw [← hm]; exact s[p].toNat_lt
        have hm' : (s[p].toNat : Int) = m := by rw [hm]
        have HM := hidE hm
        have HXm := hidE (HX.out m hm2 wr)
        have HP := hidE hp
        have HE : Hid (hexT (suf s i) 4 0 = (hexN s[p]).bind fun d => hexT (suf s (p + 1)) (4 - (q + 1)) (16 * n + d)) := by
          show _ = _
          rw [HT.out, hp, suf_cons hps, show 4 - q = (4 - (q + 1)) + 1 by omega, hexT_cons]
        have hxi := hexI_is s[p]
        rw [hm] at hxi
        clear hm hp
        cases hx : hexN s[p] with
        | none =>
          rw [hx] at hxi HE
          simp only at hxi
          rw [hxi] at HXm
          have HN : Hid (R = none) := by show _ = _; rw [HR.out, HE.out]; rfl
          clear hxi hx
          go_wp2_with fail
          refine HXm.out.mono ?_
          rintro e w1 ⟨rfl, rfl⟩
          go_wp2_with fail
          go_ret2
          exact ⟨by rw [HN.out]; rfl, Below.refl _ _⟩
        | some d =>
          have hd := hex_lt _ _ hx
          rw [hx] at hxi HE
          simp only at hxi
          rw [hxi] at HXm
          have hd0 : ¬ (d : Int) < 0 := by omega
          have HN : Hid (hexT (suf s i) 4 0 = hexT (suf s (i + (q + 1))) (4 - (q + 1)) (16 * n + d) ∧ 16 * n + d < 16 ^ (q + 1)) := by
            refine ⟨?_, ?_⟩
            · rw [HE.out, show i + (q + 1) = p + 1 by have := HP.out; omega]; rfl
            · have := HNQ.out
              rw [Nat.pow_succ]; omega
          clear hxi hx
          go_wp2_with fail
          refine HXm.out.mono ?_
          rintro e w1 ⟨rfl, rfl⟩
          go_wp2_with fail
          go_roundw
          case rel => exact ⟨q + 1, 16 * n + d, by omega, by go_num, by go_num, HN.out.2, trivial, HN.out.1⟩
          case measure => simp [intOf]; omega
      · have hlt' : ¬ (q : Int) < 4 := by omega
        have HN : Hid (R = runeB n) := by
          show _ = _
          rw [HR.out, HT.out, show 4 - q = 0 by omega, hexT_done]; rfl
        clear HT HNQ
        by_cases hA : 55296 ≤ n ∧ n ≤ 57343
        · have a1 : (55296 : Int) ≤ n := by omega
          have a2 : (n : Int) ≤ 57343 := by omega
          have HV : Hid (R = none) := by show _ = _; rw [HN.out, runeB, if_pos hA]
          go_wp2_with fail
          go_ret2
          exact ⟨by rw [HV.out]; rfl, Below.refl _ _⟩
        · by_cases h1 : n < 128
          · have a1 : ¬ (55296 : Int) ≤ n := by omega
            have a2 : (n : Int) < 128 := by omega
            have HV : Hid (R = some [UInt8.ofNat n]) := by show _ = _; rw [HN.out, runeB, if_neg hA, if_pos h1]
            have hcv := conv_one wr n (by omega)
            have hw8 : IntKind.u8.wrap (n : Int) = n := by rw [IntKind.wrap_u8]; omega
            go_wp2_with fail
            go_ret2
            exact ⟨by rw [HV.out]; rfl, (Below.refl _ _).alloc (Nat.le_refl _) _⟩
          · by_cases h2 : n < 2048
            · have a1 : ¬ (55296 : Int) ≤ n := by omega
              have a2 : ¬ (n : Int) < 128 := by omega
              have a3 : (n : Int) < 2048 := by omega
              obtain ⟨x, hx⟩ : ∃ x, 0xc0 + n / 64 = x := ⟨_, rfl⟩
              obtain ⟨y, hy⟩ : ∃ y, 0x80 + n % 64 = y := ⟨_, rfl⟩
              have hx' : (192 : Int) + (n : Int) / 64 = x := by omega
              have hy' : (128 : Int) + (n : Int) % 64 = y := by omega
              have hx8 : x < 256 := by omega
              have hy8 : y < 256 := by omega
              have HV : Hid (R = some [UInt8.ofNat x, UInt8.ofNat y]) := by show _ = _; rw [HN.out, runeB, if_neg hA, if_neg h1, if_pos h2, hx, hy]
              have hcv := conv_cells wr [UInt8.ofNat x, UInt8.ofNat y] 2 rfl #[.int .u8 (x : Int), .int .u8 (y : Int)] (by simp [byteCells, byte_nat hx8, byte_nat hy8])
              have hw8 : IntKind.u8.wrap (x : Int) = x := by rw [IntKind.wrap_u8]; omega
              have hw9 : IntKind.u8.wrap (y : Int) = y := by rw [IntKind.wrap_u8]; omega
              clear hx hy hA h1 h2
              go_wp2_with fail
              go_ret2
              exact ⟨by rw [HV.out]; rfl, (Below.refl _ _).alloc (Nat.le_refl _) _⟩
            · have a2 : ¬ (n : Int) < 128 := by omega
              have a3 : ¬ (n : Int) < 2048 := by omega
              obtain ⟨x, hx⟩ : ∃ x, 0xe0 + n / 4096 = x := ⟨_, rfl⟩
              obtain ⟨y, hy⟩ : ∃ y, 0x80 + n / 64 % 64 = y := ⟨_, rfl⟩
              obtain ⟨z, hz⟩ : ∃ z, 0x80 + n % 64 = z := ⟨_, rfl⟩
              have hx' : (224 : Int) + (n : Int) / 4096 = x := by omega
              have hy' : (128 : Int) + (n : Int) / 64 % 64 = y := by omega
              have hz' : (128 : Int) + (n : Int) % 64 = z := by omega
              have hx8 : x < 256 := by omega
              have hy8 : y < 256 := by omega
              have hz8 : z < 256 := by omega
              have HV : Hid (R = some [UInt8.ofNat x, UInt8.ofNat y, UInt8.ofNat z]) := by show _ = _; rw [HN.out, runeB, if_neg hA, if_neg h1, if_neg h2, hx, hy, hz]
              have hcv := conv_cells wr [UInt8.ofNat x, UInt8.ofNat y, UInt8.ofNat z] 3 rfl #[.int .u8 (x : Int), .int .u8 (y : Int), .int .u8 (z : Int)] (by simp [byteCells, byte_nat hx8, byte_nat hy8, byte_nat hz8])
              have hw8 : IntKind.u8.wrap (x : Int) = x := by rw [IntKind.wrap_u8]; omega
              have hw9 : IntKind.u8.wrap (y : Int) = y := by rw [IntKind.wrap_u8]; omega
              have hw10 : IntKind.u8.wrap (z : Int) = z := by rw [IntKind.wrap_u8]; omega
              by_cases h5 : 55296 ≤ n
              · have a1 : (55296 : Int) ≤ n := by omega
                have a4 : ¬ (n : Int) ≤ 57343 := by omega
                clear hx hy hz hA h1 h2
                go_wp2_with fail
                go_ret2
                exact ⟨by rw [HV.out]; rfl, (Below.refl _ _).alloc (Nat.le_refl _) _⟩
              · have a1 : ¬ (55296 : Int) ≤ n := by omega
                clear hx hy hz hA h1 h2
                go_wp2_with fail
                go_ret2
                exact ⟨by rw [HV.out]; rfl, (Below.refl _ _).alloc (Nat.le_refl _) _⟩
end Go.Proofs.YtbjcdpenfijfoaaGreatDoor

