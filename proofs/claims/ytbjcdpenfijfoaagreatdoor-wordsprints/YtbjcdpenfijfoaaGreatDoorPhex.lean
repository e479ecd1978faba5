/- The reader reads four digits to the base 16. -/
import Derived.Test.YtbjcdpenfijfoaaGreatDoorPquot
namespace Go.Proofs.YtbjcdpenfijfoaaGreatDoor
open Go.RowKit Go.Shelf Go.Lexed
set_option linter.unusedVariables false
set_option linter.unusedSimpArgs false
set_option maxRecDepth 20000 in
theorem index_hex (c : UInt8) : Lib.indexByte [48, 49, 50, 51, 52, 53, 54, 55, 56, 57, 97, 98, 99, 100, 101, 102] ((lowN c.toNat : Nat) : Int).toNat.toUInt8 = (match hexN c with | some d => (d : Int) | none => -1) := by
  refine all_bytes (p := fun c => Lib.indexByte [48, 49, 50, 51, 52, 53, 54, 55, 56, 57, 97, 98, 99, 100, 101, 102] ((lowN c.toNat : Nat) : Int).toNat.toUInt8 = (match hexN c with | some d => (d : Int) | none => -1)) ?_ c
  decide
set_option maxRecDepth 20000 in
theorem hex_lt (c : UInt8) : ∀ d, hexN c = some d → d < 16 := by
  refine all_bytes (p := fun c => ∀ d, hexN c = some d → d < 16) ?_ c
  intro n
  revert n
  decide
/-- The number of some digits, behind another. -/
def hexF : List UInt8 → Nat → Option Nat
  | [], n => some n
  | c :: l, n => (hexN c).bind fun d => hexF l (16 * n + d)
def hexT (l : List UInt8) (i n : Nat) : Option Nat := if i ≤ l.length then hexF (l.take i) n else none
theorem hexT_done (l : List UInt8) (n : Nat) : hexT l 0 n = some n := by simp [hexT, hexF]
theorem hexT_none (i n : Nat) : hexT [] (i + 1) n = none := by simp [hexT]
theorem hexT_cons (c : UInt8) (l : List UInt8) (i n : Nat) : hexT (c :: l) (i + 1) n = (hexN c).bind fun d => hexT l i (16 * n + d) := by
  unfold hexT
  by_cases h : i ≤ l.length
  · have h' : i + 1 ≤ (c :: l).length := by simpa using h
    rw [if_pos h']
    simp only [List.take_succ_cons, hexF, if_pos h]
  · have h' : ¬ i + 1 ≤ (c :: l).length := by simpa using h
    rw [if_neg h']
    simp only [if_neg h]
    cases hexN c <;> rfl
theorem i32_join (h l : Int) (h1 : 0 ≤ h) (h2 : h < 4096) (l1 : 0 ≤ l) (l2 : l < 16) : bits .or .i32 (h * 16) l = h * 16 + l := by
  have e1 : (BitVec.ofInt 32 (h * 16)).toNat = h.toNat <<< 4 := by
    rw [BitVec.toNat_ofInt, Nat.shiftLeft_eq]; omega
  have e2 : (BitVec.ofInt 32 l).toNat = l.toNat := by
    rw [BitVec.toNat_ofInt]; omega
  have key : (BitVec.ofInt 32 (h * 16) ||| BitVec.ofInt 32 l).toNat = h.toNat * 16 + l.toNat := by
    rw [BitVec.toNat_or, e1, e2, ← Nat.shiftLeft_add_eq_or_of_lt (by omega), Nat.shiftLeft_eq]
  show IntKind.i32.wrap ((BitVec.ofInt 32 (h * 16) ||| BitVec.ofInt 32 l).toNat : Nat) = _
  rw [key, IntKind.wrap_i32]
  omega
/-- What reading four digits answers. -/
def Hexed (a : Nat) (s : ByteArray) (k b : Nat) (w : World) (e : Ending) (w' : World) : Prop :=
  ∃ j : Nat, k ≤ j ∧ j ≤ s.size ∧ Rd w' a s j b ∧ Fr a w.heap.size w w' ∧ ((∃ n : Nat, e = .returned (.int .i32 (n : Int)) ∧ j = k + 4 ∧ j < s.size ∧ n < 65536 ∧ hexT (suf s (k + 1)) 4 0 = some n ∧ Lib.validRune n = true) ∨ (e = gaveUp ∧ ∀ n : Nat, hexT (suf s (k + 1)) 4 0 = some n → Lib.validRune n = false))
set_option maxRecDepth 100000 in
set_option maxHeartbeats 4000000 in
theorem hex_any (a : Nat) (s : ByteArray) (k b : Nat) (w : World) (h : Rd w a s k b) (hk : k < s.size) (hs : s.size ≤ 10000000000) :
    Calls Tryz.prog 105 #[.pointer (some ⟨a, 0, none⟩)] w fun e w' => Hexed a s k b w e w' := by
  have H := hidE h
  clear h
  generalize hR : hexT (suf s (k + 1)) 4 0 = R
  have HRR := hidE hR
  clear hR
  have HT := hidE need_true
  have HNF := hidE need_false
  go_enter Tryz.func105, Tryz.ntmps105
  go_wp2_with fail
  go_loopw [3, 5] (fun v i wr => ∃ (q n p : Nat), q ≤ 4 ∧ i = .int .i64 q ∧ v = .int .i32 (n : Int) ∧ n < 16 ^ q ∧ p = k + q ∧ p < s.size ∧ Rd wr a s p b ∧ Fr a w.heap.size w wr ∧ R = hexT (suf s (p + 1)) (4 - q) n) (fun _ i _ => 4 - (intOf i).toNat)
  case atStart => exact ⟨0, 0, k, by omega, rfl, rfl, by simp, rfl, hk, H.out, Fr.refl _ _ _, HRR.out.symm⟩
  case round =>
    obtain ⟨q, n, p, hq, rfl, rfl, hn, hp, hps, hr, hf, hX⟩ := hrel
    have HR := hidE hr
    have HF := hidE hf
    have HX := hidE hX
    have HN := hidE hn
    have HP := hidE hp
    have c1 := hr.c1
    have z1 := hr.z1
    clear hr hf hX hn hp
    by_cases hlt : q < 4
    · have hlt' : (q : Int) < 4 := by omega
      have hn3 : n < 4096 := Nat.lt_of_lt_of_le HN.out (Nat.pow_le_pow_right (by decide) (by omega : q ≤ 3))
      have HR1 : Hid (∀ z : Int, z = (p : Int) + 1 → Rd (wr.setCell ⟨a, 1, none⟩ (.int .i64 z)) a s (p + 1) b) := fun z hz => HR.out.at (p + 1) _ (by rw [hz]; go_num)
      have HF1 : Hid (∀ z : Int, Fr a w.heap.size w (wr.setCell ⟨a, 1, none⟩ (.int .i64 z))) := fun z => HF.out.put _ _
      obtain ⟨r, hrp⟩ : ∃ r, p + 1 = r := ⟨_, rfl⟩
      obtain ⟨i, hi⟩ : ∃ i, 4 - q = i + 1 := ⟨3 - q, by omega⟩
      have HX2 : Hid (R = hexT (suf s r) (i + 1) n) := by show _ = _; rw [HX.out, hi, hrp]
      have HI : Hid (4 - (q + 1) = i) := by show _ = _; omega
      have HRP := hidE hrp
      rw [hrp] at HR1
      have hr2 : r ≤ s.size := by omega
      clear hi hrp HX
      go_wp2_with fail
      by_cases hrs : r < s.size
      · obtain ⟨c, hc⟩ : ∃ c, s[r] = c := ⟨_, rfl⟩
        have HN1 := hidE (next_any a s r b _ (HR1.out _ rfl) hrs hs)
        rw [hc] at HN1
        have HS : Hid (suf s r = c :: suf s (r + 1)) := by show _ = _; rw [suf_cons hrs, hc]
        have HIX := hidE (index_hex c)
        have HL := hidE (fun w => lower_any c.toNat c.toNat_lt w)
        have HIB : Hid (∀ w, Calls Tryz.prog 43 #[.string ⟨#[48, 49, 50, 51, 52, 53, 54, 55, 56, 57, 97, 98, 99, 100, 101, 102]⟩, .int .u8 ((lowN c.toNat : Nat) : Int)] w fun e w' => e = .returned (.int .i64 (match hexN c with | some d => (d : Int) | none => -1)) ∧ w' = w) := fun w => by
          have := Tryz.strings_IndexByte ⟨#[48, 49, 50, 51, 52, 53, 54, 55, 56, 57, 97, 98, 99, 100, 101, 102]⟩ ((lowN c.toNat : Nat) : Int) w
          rw [show (⟨#[48, 49, 50, 51, 52, 53, 54, 55, 56, 57, 97, 98, 99, 100, 101, 102]⟩ : ByteArray).data.toList = [48, 49, 50, 51, 52, 53, 54, 55, 56, 57, 97, 98, 99, 100, 101, 102] from rfl, HIX.out] at this
          exact this
        have HX3 : Hid (R = (hexN c).bind fun d => hexT (suf s (r + 1)) i (16 * n + d)) := by show _ = _; rw [HX2.out, HS.out, hexT_cons]
        have HLT := hidE (hex_lt c)
        generalize hexN c = oc at HIB HX3 HLT
        generalize lowN c.toNat = lc at HL HIB
        clear HIX hc HS HX2
        refine HN1.out.mono ?_
        rintro e w1 ⟨rfl, m, rfl⟩
        generalize hW : World.drewN _ _ = W
        have HR2 : Hid (Rd W a s r b) := by rw [← hW]; exact (HR1.out _ rfl).drewN _
        have HF2 : Hid (Fr a w.heap.size w W) := by rw [← hW]; exact (HF1.out _).drewN _
        clear hW HR1 HF1 HR HF c1 z1 HN1
        go_wp2_with fail
        refine (HL.out _).mono ?_
        rintro e w1 ⟨rfl, rfl⟩
        go_wp2_with fail
        refine (HIB.out _).mono ?_
        rintro e w1 ⟨rfl, rfl⟩
        cases oc with
        | none =>
          have HE : Hid (R = none) := HX3.out
          go_wp2_with fail
          refine (HNF.out _).mono ?_
          rintro e w1 ⟨rfl, rfl⟩
          refine ⟨rfl, r, by have := HP.out; have := HRP.out; omega, hr2, HR2.out, HF2.out, .inr ⟨rfl, fun m hm => ?_⟩⟩
          rw [HRR.out, HE.out] at hm; cases hm
        | some d =>
          have hd : d < 16 := HLT.out d rfl
          have HE : Hid (R = hexT (suf s (r + 1)) i (16 * n + d)) := HX3.out
          have hd0 : (0 : Int) ≤ d := by omega
          have hj := i32_join (n : Int) (d : Int) (by omega) (by omega) (by omega) (by omega)
          have HJ := hidE hj
          clear HX3 HLT hj
          go_wp2_with fail
          refine (HT.out _).mono ?_
          rintro e w1 ⟨rfl, rfl⟩
          have hj := HJ.out
          go_wp2_with fail
          refine ⟨⟨q + 1, 16 * n + d, r, by omega, by go_num, ?_, ?_, ?_, hrs, HR2.out, HF2.out, ?_⟩, ?_⟩
          · congr 1
            push_cast
            omega
          · have := HN.out
            rw [Nat.pow_succ]
            omega
          · have := HRP.out
            have := HP.out
            omega
          · rw [HE.out, HI.out]
          · simp [intOf]; omega
      · have HN1 := hidE (next_end a s r b _ (HR1.out _ rfl) hrs hs)
        have HE : Hid (R = none) := by show _ = _; rw [HX2.out, suf_end (by omega), hexT_none]
        refine HN1.out.mono ?_
        rintro e w1 ⟨rfl, m, rfl⟩
        refine ⟨rfl, r, by have := HP.out; have := HRP.out; omega, hr2, (HR1.out _ rfl).drewN _, (HF1.out _).drewN _, .inr ⟨rfl, fun m hm => ?_⟩⟩
        rw [HRR.out, HE.out] at hm; cases hm
    · have hq4 : q = 4 := by omega
      subst hq4
      have HE : Hid (R = some n) := by show _ = _; rw [HX.out]; exact hexT_done _ _
      have hn4 : n < 65536 := HN.out
      have HV := hidE (fun w => Tryz.utf8_ValidRune (n : Int) w)
      have HVN : Hid (∀ m : Nat, R = some m → Lib.validRune m = Lib.validRune n) := fun m hm => by
        rw [HE.out] at hm; simp only [Option.some.injEq] at hm; rw [hm]
      generalize hvr : Lib.validRune (n : Int) = vr at HV HVN
      have HVR := hidE hvr
      clear hvr
      go_wp2_with fail
      refine (HV.out _).mono ?_
      rintro e w1 ⟨rfl, rfl⟩
      cases vr with
      | true =>
        go_wp2_with fail
        refine (HT.out _).mono ?_
        rintro e w1 ⟨rfl, rfl⟩
        go_wp2_with fail
        go_ret
        exact ⟨p, by have := HP.out; omega, by omega, HR.out, HF.out, .inl ⟨n, rfl, HP.out, hps, hn4, by rw [HRR.out, HE.out], HVR.out⟩⟩
      | false =>
        go_wp2_with fail
        refine (HNF.out _).mono ?_
        rintro e w1 ⟨rfl, rfl⟩
        exact ⟨rfl, p, by have := HP.out; omega, by omega, HR.out, HF.out, .inr ⟨rfl, fun m hm => HVN.out m (by rw [← HRR.out]; exact hm)⟩⟩
end Go.Proofs.YtbjcdpenfijfoaaGreatDoor
