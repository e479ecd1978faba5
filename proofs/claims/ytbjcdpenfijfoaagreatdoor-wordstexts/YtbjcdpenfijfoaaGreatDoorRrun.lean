/- The document's runes: four digits to the base 16. -/
import Derived.Test.YtbjcdpenfijfoaaGreatDoorJoin8
import Derived.Test.YtbjcdpenfijfoaaGreatDoorRlow
namespace Go.Proofs.YtbjcdpenfijfoaaGreatDoor
open Go.RowKit Go.Shelf Go.Lexed
open Go.Lib (byteCells byteCells_length)
set_option linter.unusedVariables false
set_option linter.unusedSimpArgs false
attribute [local go_sem] Oper.semAt_some
def r4At (s : ByteArray) (i : Nat) : Option (List UInt8) := match suf s i with
  | a :: b :: c :: d :: _ => rune4 a b c d
  | _ => none
def runeB (n : Nat) : Option (List UInt8) :=
  if 0xd800 ≤ n ∧ n ≤ 0xdfff then none
  else if n < 0x80 then some [UInt8.ofNat n]
  else if n < 0x800 then some [UInt8.ofNat (0xc0 + n / 64), UInt8.ofNat (0x80 + n % 64)]
  else some [UInt8.ofNat (0xe0 + n / 4096), UInt8.ofNat (0x80 + n / 64 % 64), UInt8.ofNat (0x80 + n % 64)]
theorem r4_is (s : ByteArray) (i : Nat) : r4At s i = (hexT (suf s i) 4 0).bind runeB := by
  unfold r4At
  match suf s i with
  | a :: b :: c :: d :: r =>
    rw [hexT_four]
    simp only [rune4]
    cases hexN a <;> simp
    cases hexN b <;> simp
    cases hexN c <;> simp
    cases hexN d <;> simp [runeB]
  | [] => simp [hexT]
  | [_] => simp [hexT]
  | [_, _] => simp [hexT]
  | [_, _, _] => simp [hexT]
set_option maxRecDepth 20000 in
theorem hexI_is (c : UInt8) : hexI c.toNat = (match hexN c with | some d => (d : Int) | none => -1) := by
  refine all_bytes (p := fun c => hexI c.toNat = (match hexN c with | some d => (d : Int) | none => -1)) ?_ c
  decide
theorem conv_cells (w : World) (bs : List UInt8) (n : Nat) (hn : bs.length = n) (cs : Array Value) (hcs : cs = (byteCells bs).toArray) : (convert 49 9 (.slice (some ⟨w.heap.size, 0, none⟩) n n)).run Tryz.prog (w.alloc (.cells cs 5)) = .ok (.string (bsOf bs)) (w.alloc (.cells cs 5)) := by
  subst hn hcs
  refine run_convert_bytes_back (P := Tryz.prog) _ 49 9 5 ⟨w.heap.size, 0, none⟩ _ bs Tryz.underlying49 Tryz.underlying5 Tryz.underlying9 fun j hj => ?_
  have hadd : (⟨w.heap.size, 0, none⟩ : Addr).add j = ⟨w.heap.size, j, none⟩ := by unfold Addr.add; split <;> simp_all
  rw [hadd]
  refine cell_new _ _ _ _ _ ?_
  simp [byteCells, hj]
theorem byte_nat {n : Nat} (h : n < 256) : (UInt8.ofNat n).toNat = n := by rw [UInt8.toNat_ofNat']; omega
set_option maxRecDepth 100000 in
set_option maxHeartbeats 4000000 in
theorem rrune_any (s : ByteArray) (i : Nat) (hi : i ≤ s.size) (hs : s.size ≤ 1000000000) (w : World) : Calls Tryz.prog 79 #[.string s, .int .i64 (i : Int)] w fun e w' => e = .returned (.tuple #[.string (bsOf ((r4At s i).getD [])), .bool (r4At s i).isSome]) ∧ Below w.heap.size w w' := by
  have HR := hidE (r4_is s i)
  generalize r4At s i = R at HR ⊢
  have HX := hidE (fun n hn w => rhex_any n hn w)
  go_enter Tryz.func79, Tryz.ntmps79
  by_cases h4 : s.size - i < 4
  · have h4' : (s.size : Int) - i < 4 := by omega
    have HN : Hid (R = none) := by
      show _ = _
      have hl : (suf s i).length = s.size - i := by simp [suf]
      rw [HR.out, hexT, if_neg (by rw [hl]; omega)]; rfl
    go_wp2_with fail
    go_ret2
    exact ⟨by rw [HN.out]; rfl, Below.refl _ _⟩
  · have h4' : ¬ (s.size : Int) - i < 4 := by omega
    go_wp2_with fail
    go_loopw [6, 7] (fun x v wr => ∃ q n : Nat, q ≤ 4 ∧ x = .int .i64 (n : Int) ∧ v = .int .i64 (q : Int) ∧ n < 16 ^ q ∧ wr = w ∧ hexT (suf s i) 4 0 = hexT (suf s (i + q)) (4 - q) n) (fun _ v _ => 4 - (intOf v).toNat)
    case atStart => exact ⟨0, 0, by omega, rfl, rfl, by decide, rfl, rfl⟩
    case round =>
      obtain ⟨q, n, hq, rfl, rfl, hnq, rfl, hT⟩ := hrel
      have HT := hidE hT
      have hn4 : n < 65536 := Nat.lt_of_lt_of_le hnq (Nat.le_trans (Nat.pow_le_pow_right (by decide) hq) (by decide))
      have HNQ := hidE hnq
      clear hT hnq
      by_cases hlt : q < 4
      · have hlt' : (q : Int) < 4 := by omega
        obtain ⟨p, hp⟩ : ∃ p, i + q = p := ⟨_, rfl⟩
        have hp' : (i : Int) + (q : Int) = (p : Int) := by omega
        have hps : p < s.size := by omega
        have hps' : (p : Int) < s.size := by omega
        obtain ⟨m, hm⟩ : ∃ m, s[p].toNat = m := ⟨_, rfl⟩
        have hm2 : m < 256 := by rw [← hm]; exact s[p].toNat_lt
        have hm' : (s[p].toNat : Int) = m := by rw [hm]
        have HM := hidE hm
        have HXm := hidE (HX.out m hm2 wr)
        have HP := hidE hp
        have HE : Hid (hexT (suf s i) 4 0 = (hexN s[p]).bind fun d => hexT (suf s (p + 1)) (4 - (q + 1)) (16 * n + d)) := by
          show _ = _
          rw [HT.out, hp, suf_cons hps, show 4 - q = (4 - (q + 1)) + 1 by omega, hexT_cons]
        have hxi := hexI_is s[p]
        rw [hm] at hxi
        clear hm hp
        cases hx : hexN s[p] with
        | none =>
          rw [hx] at hxi HE
          simp only at hxi
          rw [hxi] at HXm
          have HN : Hid (R = none) := by show _ = _; rw [HR.out, HE.out]; rfl
          clear hxi hx
          go_wp2_with fail
          refine HXm.out.mono ?_
          rintro e w1 ⟨rfl, rfl⟩
          go_wp2_with fail
          go_ret2
          exact ⟨by rw [HN.out]; rfl, Below.refl _ _⟩
        | some d =>
          have hd := hex_lt _ _ hx
          rw [hx] at hxi HE
          simp only at hxi
          rw [hxi] at HXm
          have hd0 : ¬ (d : Int) < 0 := by omega
          have HN : Hid (hexT (suf s i) 4 0 = hexT (suf s (i + (q + 1))) (4 - (q + 1)) (16 * n + d) ∧ 16 * n + d < 16 ^ (q + 1)) := by
            refine ⟨?_, ?_⟩
            · rw [HE.out, show i + (q + 1) = p + 1 by have := HP.out; omega]; rfl
            · have := HNQ.out
              rw [Nat.pow_succ]; omega
          clear hxi hx
          go_wp2_with fail
          refine HXm.out.mono ?_
          rintro e w1 ⟨rfl, rfl⟩
          go_wp2_with fail
          go_roundw
          case rel => exact ⟨q + 1, 16 * n + d, by omega, by go_num, by go_num, HN.out.2, trivial, HN.out.1⟩
          case measure => simp [intOf]; omega
      · have hlt' : ¬ (q : Int) < 4 := by omega
        have HN : Hid (R = runeB n) := by
          show _ = _
          rw [HR.out, HT.out, show 4 - q = 0 by omega, hexT_done]; rfl
        clear HT HNQ
        by_cases hA : 55296 ≤ n ∧ n ≤ 57343
        · have a1 : (55296 : Int) ≤ n := by omega
          have a2 : (n : Int) ≤ 57343 := by omega
          have HV : Hid (R = none) := by show _ = _; rw [HN.out, runeB, if_pos hA]
          go_wp2_with fail
          go_ret2
          exact ⟨by rw [HV.out]; rfl, Below.refl _ _⟩
        · by_cases h1 : n < 128
          · have a1 : ¬ (55296 : Int) ≤ n := by omega
            have a2 : (n : Int) < 128 := by omega
            have HV : Hid (R = some [UInt8.ofNat n]) := by show _ = _; rw [HN.out, runeB, if_neg hA, if_pos h1]
            have hcv := conv_one wr n (by omega)
            have hw8 : IntKind.u8.wrap (n : Int) = n := by rw [IntKind.wrap_u8]; omega
            go_wp2_with fail
            go_ret2
            exact ⟨by rw [HV.out]; rfl, (Below.refl _ _).alloc (Nat.le_refl _) _⟩
          · by_cases h2 : n < 2048
            · have a1 : ¬ (55296 : Int) ≤ n := by omega
              have a2 : ¬ (n : Int) < 128 := by omega
              have a3 : (n : Int) < 2048 := by omega
              obtain ⟨x, hx⟩ : ∃ x, 0xc0 + n / 64 = x := ⟨_, rfl⟩
              obtain ⟨y, hy⟩ : ∃ y, 0x80 + n % 64 = y := ⟨_, rfl⟩
              have hx' : (192 : Int) + (n : Int) / 64 = x := by omega
              have hy' : (128 : Int) + (n : Int) % 64 = y := by omega
              have hx8 : x < 256 := by omega
              have hy8 : y < 256 := by omega
              have HV : Hid (R = some [UInt8.ofNat x, UInt8.ofNat y]) := by show _ = _; rw [HN.out, runeB, if_neg hA, if_neg h1, if_pos h2, hx, hy]
              have hcv := conv_cells wr [UInt8.ofNat x, UInt8.ofNat y] 2 rfl #[.int .u8 (x : Int), .int .u8 (y : Int)] (by simp [byteCells, byte_nat hx8, byte_nat hy8])
              have hw8 : IntKind.u8.wrap (x : Int) = x := by rw [IntKind.wrap_u8]; omega
              have hw9 : IntKind.u8.wrap (y : Int) = y := by rw [IntKind.wrap_u8]; omega
              clear hx hy hA h1 h2
              go_wp2_with fail
              go_ret2
              exact ⟨by rw [HV.out]; rfl, (Below.refl _ _).alloc (Nat.le_refl _) _⟩
            · have a2 : ¬ (n : Int) < 128 := by omega
              have a3 : ¬ (n : Int) < 2048 := by omega
              obtain ⟨x, hx⟩ : ∃ x, 0xe0 + n / 4096 = x := ⟨_, rfl⟩
              obtain ⟨y, hy⟩ : ∃ y, 0x80 + n / 64 % 64 = y := ⟨_, rfl⟩
              obtain ⟨z, hz⟩ : ∃ z, 0x80 + n % 64 = z := ⟨_, rfl⟩
              have hx' : (224 : Int) + (n : Int) / 4096 = x := by omega
              have hy' : (128 : Int) + (n : Int) / 64 % 64 = y := by omega
              have hz' : (128 : Int) + (n : Int) % 64 = z := by omega
              have hx8 : x < 256 := by omega
              have hy8 : y < 256 := by omega
              have hz8 : z < 256 := by omega
              have HV : Hid (R = some [UInt8.ofNat x, UInt8.ofNat y, UInt8.ofNat z]) := by show _ = _; rw [HN.out, runeB, if_neg hA, if_neg h1, if_neg h2, hx, hy, hz]
              have hcv := conv_cells wr [UInt8.ofNat x, UInt8.ofNat y, UInt8.ofNat z] 3 rfl #[.int .u8 (x : Int), .int .u8 (y : Int), .int .u8 (z : Int)] (by simp [byteCells, byte_nat hx8, byte_nat hy8, byte_nat hz8])
              have hw8 : IntKind.u8.wrap (x : Int) = x := by rw [IntKind.wrap_u8]; omega
              have hw9 : IntKind.u8.wrap (y : Int) = y := by rw [IntKind.wrap_u8]; omega
              have hw10 : IntKind.u8.wrap (z : Int) = z := by rw [IntKind.wrap_u8]; omega
              by_cases h5 : 55296 ≤ n
              · have a1 : (55296 : Int) ≤ n := by omega
                have a4 : ¬ (n : Int) ≤ 57343 := by omega
                clear hx hy hz hA h1 h2
                go_wp2_with fail
                go_ret2
                exact ⟨by rw [HV.out]; rfl, (Below.refl _ _).alloc (Nat.le_refl _) _⟩
              · have a1 : ¬ (55296 : Int) ≤ n := by omega
                clear hx hy hz hA h1 h2
                go_wp2_with fail
                go_ret2
                exact ⟨by rw [HV.out]; rfl, (Below.refl _ _).alloc (Nat.le_refl _) _⟩
end Go.Proofs.YtbjcdpenfijfoaaGreatDoor
