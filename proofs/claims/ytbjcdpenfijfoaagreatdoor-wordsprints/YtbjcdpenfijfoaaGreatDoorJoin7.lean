/- What the library's own variables hold, and that it stays. Names, keywords, as the program asks for them. -/
import Derived.Test.YtbjcdpenfijfoaaGreatDoorPass
import Derived.Test.YtbjcdpenfijfoaaGreatDoorShelf
namespace Go.Proofs.YtbjcdpenfijfoaaGreatDoor
open Go.RowKit Go.Shelf Go.Lexed
set_option linter.unusedVariables false
set_option linter.unusedSimpArgs false
theorem gPow : Tryz.prog.globalNamed "internal/strconv.uint64pow10" = some 3 := by kernel_rfl
/-- An error's variable holds an error, or none. -/
def ErrAt (w : World) (g : Nat) : Prop := ∃ ev : Value, w.cell? ⟨g, 0, none⟩ = some ev ∧ (ev = .nilIface ∨ ∃ te pe, ev = .iface te pe)
structure Env (w : World) : Prop where
  room : 8 ≤ w.heap.size
  tabs : Lib.Utf8Tabs (Tryz.laysValid_ren.g 3) (Tryz.laysValid_ren.g 4) w
  ml : ∃ m, w.cell? ⟨2, 0, none⟩ = some (.int .i64 m)
  pow : Lib.TabIs Tryz.prog w "internal/strconv.uint64pow10" .u64 Lib.pow10Tab
  syn : ErrAt w 4
  rng : ErrAt w 5
theorem Env.keep {w w' : World} (h : Env w) (hk : ∀ k, k < 8 → w'.heap[k]? = w.heap[k]?) (hs : 8 ≤ w'.heap.size) : Env w' := by
  have hc : ∀ p : Addr, p.block < 8 → w'.cell? p = w.cell? p := fun p hp => World.cell?_of_block (hk _ hp)
  refine ⟨hs, ⟨fun c hb => ?_, fun i hi => ⟨?_, ?_⟩⟩, ?_, ?_, ?_, ?_⟩
  · rw [hc _ (by show 0 < 8; decide)]; exact h.tabs.1 c hb
  · rw [hc _ (by show 1 < 8; decide)]; exact (h.tabs.2 i hi).1
  · rw [hc _ (by show 1 < 8; decide)]; exact (h.tabs.2 i hi).2
  · rw [hc _ (by show 2 < 8; decide)]; exact h.ml
  · have := h.pow
    unfold Lib.TabIs World.var? at this ⊢
    rw [gPow] at this ⊢
    simp only [Option.bind_some, hk 3 (by decide)] at this ⊢
    exact this
  · unfold ErrAt; rw [hc _ (by show 4 < 8; decide)]; exact h.syn
  · unfold ErrAt; rw [hc _ (by show 5 < 8; decide)]; exact h.rng
theorem Env.below {w w' : World} {B : Nat} (h : Env w) (hb : Below B w w') (hB : 8 ≤ B) : Env w' := h.keep (fun k hk => hb.block k (by omega)) (Nat.le_trans h.room hb.size)
theorem Env.drewN {w : World} (h : Env w) (n : Nat) : Env (w.drewN n) := h.keep (fun _ _ => rfl) h.room
theorem Env.fr {w w' : World} {a B : Nat} (h : Env w) (hf : Fr a B w w') (ha : 8 ≤ a) (hB : 8 ≤ B) : Env w' := h.keep (fun k hk => hf.block k (by omega) (by omega)) (Nat.le_trans h.room hf.size)
theorem valid_any (s : ByteArray) (hs : s.size ≤ 10000000000) (w : World) (hE : Env w) : Calls Tryz.prog 42 #[.string s] w fun e w' => e = .returned (.bool (Lib.validD s.data.toList)) ∧ Below w.heap.size w w' :=
  Any.utf8_ValidString Tryz.laysValid s w (by omega) hE.tabs
end Go.Proofs.YtbjcdpenfijfoaaGreatDoor

namespace Go.Proofs.YtbjcdpenfijfoaaGreatDoor
open Go.RowKit Go.Shelf Go.Lexed
set_option linter.unusedVariables false
set_option linter.unusedSimpArgs false
theorem index_ge (l : List UInt8) (c : UInt8) : -1 ≤ Lib.indexByte l c := by
  induction l with
  | nil => simp [Lib.indexByte]
  | cons b l ih =>
    rw [Lib.indexByte]
    split
    · omega
    · split <;> omega
theorem index_neg (l : List UInt8) (c : UInt8) : (Lib.indexByte l c < 0) ↔ l.contains c = false := by
  induction l with
  | nil => simp [Lib.indexByte]
  | cons b l ih =>
    rw [Lib.indexByte, List.contains_cons]
    by_cases h : b = c
    · subst h; simp
    · have h1 : (b == c) = false := beq_eq_false_iff_ne.2 h
      have h2 : (c == b) = false := beq_eq_false_iff_ne.2 (fun e => h e.symm)
      rw [h1, h2]
      simp only [Bool.false_eq_true, if_false, Bool.false_or]
      have := index_ge l c
      rw [← ih]
      split
      · rename_i e; simp only [beq_iff_eq] at e; omega
      · rename_i e; simp only [beq_iff_eq] at e; omega
set_option maxHeartbeats 1000000 in
theorem name_any (s : ByteArray) (hs : s.size ≤ 10000000000) (w : World) (hE : Env w) : Calls Tryz.prog 23 #[.string s] w fun e w' => e = .returned (.bool (nameOk Lib.validD s.data.toList)) ∧ Below w.heap.size w w' := by
  have HV : Hid (nameOk Lib.validD s.data.toList = (decide (s.size ≥ 1) && decide (s.size ≤ 64) && Lib.validD s.data.toList && !s.data.toList.contains 0)) := by
    show _ = _
    unfold nameOk
    simp
  have HX := hidE (index_neg s.data.toList 0)
  have HU := hidE (valid_any s hs w hE)
  have HI := hidE (fun w => Tryz.strings_IndexByte s 0 w)
  generalize nameOk Lib.validD s.data.toList = v at HV ⊢
  generalize Lib.validD s.data.toList = u at HV HU
  have HI2 : Hid (∀ w, Calls Tryz.prog 43 #[.string s, .int .u8 0] w fun e w' => e = .returned (.int .i64 (Lib.indexByte s.data.toList 0)) ∧ w' = w) := HI.out
  generalize Lib.indexByte s.data.toList 0 = i at HX HI2
  generalize s.data.toList.contains 0 = z at HV HX
  clear HI
  go_enter Tryz.func23, Tryz.ntmps23
  by_cases h0 : s.size = 0
  · have e0 : s.toList.isEmpty = true := by
      rw [ByteArray.toList_eq, List.isEmpty_iff]
      exact List.eq_nil_of_length_eq_zero (by simpa using h0)
    have HE : Hid (v = false) := by show _ = _; rw [HV.out, h0]; simp
    clear h0
    go_wp2_with fail
    go_ret
    rw [HE.out]
    exact ⟨rfl, Below.refl _ _⟩
  · have e0 : s.toList.isEmpty = false := by
      rw [ByteArray.toList_eq, Bool.eq_false_iff, ne_eq, List.isEmpty_iff]
      intro e
      have := congrArg List.length e
      exact h0 (by simpa using this)
    by_cases h1 : s.size ≤ 64
    · have h1' : (s.size : Int) ≤ 64 := by omega
      go_wp2_with fail
      refine HU.out.mono ?_
      rintro e w1 ⟨rfl, hb⟩
      have HB := hidE hb
      clear hb
      cases u with
      | true =>
        have HE : Hid (v = !z) := by
          show _ = _
          rw [HV.out, decide_eq_true h1, decide_eq_true (by omega : s.size ≥ 1)]; simp
        go_wp2_with fail
        refine (HI2.out _).mono ?_
        rintro e w2 ⟨rfl, rfl⟩
        by_cases hi : i < 0
        · have hz : z = false := HX.out.1 hi
          go_wp2_with fail
          go_ret
          rw [HE.out, hz]
          exact ⟨rfl, HB.out⟩
        · have hz : z = true := by
            cases hz : z with
            | true => rfl
            | false => exact absurd (HX.out.2 hz) hi
          go_wp2_with fail
          go_ret
          rw [HE.out, hz]
          refine ⟨?_, HB.out⟩
          show Ending.returned (.bool (decide (i < 0))) = _
          rw [decide_eq_false (by omega)]
          rfl
      | false =>
        have HE : Hid (v = false) := by show _ = _; rw [HV.out]; simp
        go_wp2_with fail
        go_ret
        rw [HE.out]
        exact ⟨rfl, HB.out⟩
    · have h1' : ¬ (s.size : Int) ≤ 64 := by omega
      have HE : Hid (v = false) := by show _ = _; rw [HV.out, decide_eq_false h1]; simp
      go_wp2_with fail
      go_ret
      rw [HE.out]
      exact ⟨rfl, Below.refl _ _⟩
/-- Letters A to Z as a to z. -/
def lowL (l : List UInt8) : List UInt8 := l.map fun c => UInt8.ofNat (lowN c.toNat)
theorem low_lt (c : UInt8) : lowN c.toNat < 256 := by
  have := c.toNat_lt
  unfold lowN; split <;> omega
theorem low_eq {c d : UInt8} : UInt8.ofNat (lowN c.toNat) = UInt8.ofNat (lowN d.toNat) ↔ lowN c.toNat = lowN d.toNat := by
  constructor
  · intro h
    have := congrArg UInt8.toNat h
    rw [UInt8.toNat_ofNat', UInt8.toNat_ofNat'] at this
    have h1 := low_lt c
    have h2 := low_lt d
    omega
  · intro h; rw [h]
theorem low_step {s t : ByteArray} {q : Nat} (h1 : q < s.size) (h2 : q < t.size) (h : lowN s[q].toNat = lowN t[q].toNat) : (lowL (suf s q) = lowL (suf t q)) ↔ lowL (suf s (q + 1)) = lowL (suf t (q + 1)) := by
  rw [suf_cons h1, suf_cons h2]
  unfold lowL
  rw [List.map_cons, List.map_cons, List.cons.injEq, low_eq]
  exact ⟨fun x => x.2, fun x => ⟨h, x⟩⟩
theorem low_stop {s t : ByteArray} {q : Nat} (h1 : q < s.size) (h2 : q < t.size) (h : lowN s[q].toNat ≠ lowN t[q].toNat) : ¬ lowL (suf s q) = lowL (suf t q) := by
  rw [suf_cons h1, suf_cons h2]
  unfold lowL
  rw [List.map_cons, List.map_cons, List.cons.injEq, low_eq]
  exact fun x => h x.1
theorem drew_on {w w' : World} (h : ∃ m, w' = w.drewN m) (n : Nat) : ∃ m, w'.drewN n = w.drewN m := by
  obtain ⟨m, rfl⟩ := h; exact ⟨m + n, World.drewN_drewN _ _ _⟩
set_option maxHeartbeats 1000000 in
theorem alike_any (s t : ByteArray) (hs : s.size ≤ 10000000000) (ht : t.size ≤ 10000000000) (w : World) : Calls Tryz.prog 45 #[.string s, .string t] w fun e w' => e = .returned (.bool (decide (lowL s.data.toList = lowL t.data.toList))) ∧ ∃ m, w' = w.drewN m := by
  go_enter Tryz.func45, Tryz.ntmps45
  by_cases h0 : s.size = t.size
  · have e0 : ((s.size : Int) == t.size) = true := eq_bool (by omega)
    obtain ⟨v, hv⟩ : ∃ v, v = decide (lowL s.data.toList = lowL t.data.toList) := ⟨_, rfl⟩
    have HV : Hid (v = decide (lowL (suf s 0) = lowL (suf t 0))) := hv
    rw [← hv]
    clear hv
    go_wp2_with fail
    go_loopw [13] (fun x wr => ∃ q : Nat, q ≤ s.size ∧ x = .int .i64 q ∧ (∃ m, wr = w.drewN m) ∧ v = decide (lowL (suf s q) = lowL (suf t q))) (fun x _ => s.size - (intOf x).toNat)
    case atStart => exact ⟨0, Nat.zero_le _, rfl, ⟨0, rfl⟩, HV.out⟩
    case round =>
      obtain ⟨q, hq, rfl, hw, hv⟩ := hrel
      have HX := hidE hv
      have HW := hidE hw
      clear hv hw
      by_cases hlt : q < s.size
      · have hlt' : (q : Int) < s.size := by omega
        have h2 : q < t.size := by omega
        have hlt2 : (q : Int) < t.size := by omega
        have HS := hidE (low_step hlt h2)
        have HT := hidE (low_stop hlt h2)
        obtain ⟨c, hc⟩ : ∃ c, s[q].toNat = c := ⟨_, rfl⟩
        obtain ⟨d, hd⟩ : ∃ d, t[q].toNat = d := ⟨_, rfl⟩
        have hc' : (s[q].toNat : Int) = c := by rw [hc]
        have hd' : (t[q].toNat : Int) = d := by rw [hd]
        have hc2 : c < 256 := by rw [← hc]; exact s[q].toNat_lt
        have hd2 : d < 256 := by rw [← hd]; exact t[q].toNat_lt
        rw [hc, hd] at HS HT
        clear hc hd
        have HC := hidE (fun w => lower_any c hc2 w)
        have HD := hidE (fun w => lower_any d hd2 w)
        generalize lowN c = c' at *
        generalize lowN d = d' at *
        by_cases he : c' = d'
        · have he' : ((c' : Int) != d') = false := by rw [bne_eq_false_iff_eq]; omega
          have HN : Hid (v = decide (lowL (suf s (q + 1)) = lowL (suf t (q + 1)))) := by
            show _ = _
            rw [HX.out]; exact decide_eq_decide.2 (HS.out he)
          clear HX
          go_wp2_with fail
          go_quiet ((go_at_call 66; exact Calls.quiet_of_same (by first | with_reducible exact HC.out _ | with_reducible exact HD.out _)))
          go_wp2_with fail
          go_roundw
          case rel => exact ⟨q + 1, by omega, by go_num, drew_on HW.out _, HN.out⟩
          case measure => simp [intOf]; omega
        · have he' : ((c' : Int) != d') = true := by rw [bne_iff_ne]; omega
          have HN : Hid (v = false) := by show _ = _; rw [HX.out]; exact decide_eq_false (HT.out he)
          clear HX
          go_wp2_with fail
          go_quiet ((go_at_call 66; exact Calls.quiet_of_same (by first | with_reducible exact HC.out _ | with_reducible exact HD.out _)))
          go_wp2_with fail
          go_ret
          rw [HN.out]
          exact ⟨rfl, drew_on HW.out _⟩
      · have hlt' : ¬ (q : Int) < s.size := by omega
        have HN : Hid (v = true) := by
          show _ = _
          rw [HX.out, suf_end (s := s) (by omega), suf_end (s := t) (by omega)]; exact decide_eq_true rfl
        clear HX
        go_wp2_with fail
        go_ret
        rw [HN.out]
        exact ⟨rfl, HW.out⟩
  · have e0 : ((s.size : Int) == t.size) = false := ne_bool (by omega)
    have HE : Hid (decide (lowL s.data.toList = lowL t.data.toList) = false) := by
      refine decide_eq_false fun e => h0 ?_
      have := congrArg List.length e
      simpa [lowL] using this
    go_wp2_with fail
    go_ret
    rw [HE.out]
    exact ⟨rfl, 0, rfl⟩
end Go.Proofs.YtbjcdpenfijfoaaGreatDoor

