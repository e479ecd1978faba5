/- Whether a value may be, as far as it can be told without what is in its list: blank, rising, shaped. -/
import Derived.Test.YthfilnflgahcjaaGreatDoorJoin1
import Derived.Test.YthfilnflgahcjaaGreatDoorJoin15
import Derived.Test.YthfilnflgahcjaaGreatDoorShelf2
namespace Go.Proofs.YthfilnflgahcjaaGreatDoor
open Go.RowKit Go.Shelf
set_option linter.unusedVariables false
/-- The tables of utf8 lie in the world. -/
def Tabs (w : World) : Prop := Lib.Utf8Tabs (Tryz.laysValid_ren.g 3) (Tryz.laysValid_ren.g 4) w
theorem Tabs.below {w w' : World} (h : Tabs w) (hb : Below w.heap.size w w') : Tabs w' :=
  ⟨fun c hc => cell_below hb (Nat.le_refl _) (h.1 c hc), fun i hi => ⟨cell_below hb (Nat.le_refl _) (h.2 i hi).1, cell_below hb (Nat.le_refl _) (h.2 i hi).2⟩⟩
theorem vvalid_any (s : ByteArray) (w : World) (hs : s.size ≤ maxLen) (hT : Tabs w) :
    Calls Tryz.prog 116 #[.string s] w fun e w' => e = .returned (.bool (Lib.validD s.data.toList)) ∧ Below w.heap.size w w' :=
  Any.utf8_ValidString Tryz.laysValid s w (by unfold maxLen at hs; omega) hT
def blankB (b : Bool) (n : Int) (s : ByteArray) (kl ll : Nat) : Bool := !b && (n == 0 && (s.toList.isEmpty && (kl == 0 && ll == 0)))
set_option maxHeartbeats 400000 in
theorem blank_any (k : Int) (b : Bool) (n : Int) (s : ByteArray) (ka : Option Addr) (kl kc : Nat) (la : Option Addr) (ll lc : Nat) (w : World) :
    Calls Tryz.prog 237 #[.agg #[.int .i64 k, .bool b, .int .i64 n, .string s, .slice ka kl kc, .slice la ll lc]] w fun e w' => e = .returned (.bool (blankB b n s kl ll)) ∧ Below w.heap.size w w' := by
  have hB : Below w.heap.size w (w.alloc (.cells #[.int .i64 k, .bool b, .int .i64 n, .string s, .slice ka kl kc, .slice la ll lc] 88)) := (Below.refl _ _).alloc (Nat.le_refl _) _
  unfold blankB
  cases b with
  | true =>
    go_enter Tryz.func237, Tryz.ntmps237
    go_wp2
    go_ret
    exact ⟨rfl, hB⟩
  | false =>
    cases h1 : (n == 0) with
    | false =>
      go_enter Tryz.func237, Tryz.ntmps237
      go_wp2
      go_ret
      exact ⟨rfl, hB⟩
    | true =>
      cases h2 : s.toList.isEmpty with
      | false =>
        go_enter Tryz.func237, Tryz.ntmps237
        go_wp2
        go_ret
        exact ⟨rfl, hB⟩
      | true =>
        by_cases h3 : kl = 0
        · subst h3
          by_cases h4 : ll = 0
          · subst h4
            go_enter Tryz.func237, Tryz.ntmps237
            go_wp2
            go_ret
            exact ⟨rfl, hB⟩
          · have h4' : ((ll : Int) == 0) = false := beq_eq_false_iff_ne.2 (by omega)
            have h4'' : (ll == 0) = false := beq_eq_false_iff_ne.2 h4
            go_enter Tryz.func237, Tryz.ntmps237
            go_wp2
            go_ret
            exact ⟨by simp [h4], hB⟩
        · have h3' : ((kl : Int) == 0) = false := beq_eq_false_iff_ne.2 (by omega)
          have h3'' : (kl == 0) = false := beq_eq_false_iff_ne.2 h3
          go_enter Tryz.func237, Tryz.ntmps237
          go_wp2
          go_ret
          exact ⟨by simp [h3], hB⟩
def risesAt (ks : List ByteArray) (i : Nat) : Bool :=
  Lib.validD (ks.getD i ⟨#[]⟩).data.toList && !(decide (0 < i) && decide (0 ≤ Lib.compareBytes (ks.getD (i - 1) ⟨#[]⟩).data.toList (ks.getD i ⟨#[]⟩).data.toList))
def risingB (ks : List ByteArray) : Bool := (List.range ks.length).all (risesAt ks)
theorem rising_false {ks : List ByteArray} {i : Nat} (h : i < ks.length) (hf : risesAt ks i = false) : risingB ks = false := by
  unfold risingB
  rw [Bool.eq_false_iff]
  intro ha
  rw [List.all_eq_true] at ha
  have := ha i (List.mem_range.2 h)
  rw [hf] at this; cases this
theorem rising_true {ks : List ByteArray} (h : ∀ i, i < ks.length → risesAt ks i = true) : risingB ks = true := by
  unfold risingB
  rw [List.all_eq_true]
  intro i hi
  exact h i (List.mem_range.1 hi)
set_option maxHeartbeats 1000000 in
theorem rising_any (B : Nat) (ka : Option Addr) (kc : Nat) (ks : List ByteArray) (w : World) (hk : KeysLie B w ka ks) (h1 : ks.length ≤ kc) (h2 : kc ≤ maxLen) (hT : Tabs w) :
    Calls Tryz.prog 236 #[.slice ka ks.length kc] w fun e w' => e = .returned (.bool (risingB ks)) ∧ Below w.heap.size w w' := by
  unfold maxLen at h2
  go_enter Tryz.func236, Tryz.ntmps236
  go_wp2_with fail
  go_loopw [7] (fun i wr => ∃ j : Nat, j ≤ ks.length ∧ i = .int .i64 j ∧ Below w.heap.size w wr ∧ ∀ x, x < j → risesAt ks x = true) (fun i _ => ks.length - (intOf i).toNat)
  case atStart => exact ⟨0, Nat.zero_le _, rfl, Below.refl _ _, fun x hx => by omega⟩
  case round =>
    obtain ⟨j, hj, rfl, hb, hup⟩ := hrel
    have HU : Hid (∀ x, x < j → risesAt ks x = true) := hup
    clear hup
    by_cases hlt : j < ks.length
    · obtain ⟨bk, off, rfl, hbk, hkey⟩ := hk.resolve_left (by intro e; subst e; simp at hlt)
      have hc := cell_below hb (Nat.le_refl _) (hkey j hlt).1
      have hsz := (hkey j hlt).2
      have hTr := hT.below hb
      have HAt : Hid (risesAt ks j = (Lib.validD (ks.getD j ⟨#[]⟩).data.toList && !(decide (0 < j) && decide (0 ≤ Lib.compareBytes (ks.getD (j - 1) ⟨#[]⟩).data.toList (ks.getD j ⟨#[]⟩).data.toList)))) := rfl
      have HC : Hid (0 < j → w.cell? ⟨bk, off + (j - 1), none⟩ = some (.string (ks.getD (j - 1) ⟨#[]⟩))) := fun h0 => (hkey (j - 1) (by omega)).1
      generalize ks.getD j ⟨#[]⟩ = kx at *
      generalize ks.getD (j - 1) ⟨#[]⟩ = kp at *
      have cV := vvalid_any kx wr hsz hTr
      clear hkey hsz hTr
      generalize hV : Lib.validD kx.data.toList = V at *
      have HV : Hid (Lib.validD kx.data.toList = V) := hV
      clear hV
      cases V with
      | false =>
        go_wp2_with fail
        refine cV.mono ?_
        rintro e w1 ⟨rfl, hb1⟩
        clear cV
        go_wp2_with fail
        go_ret
        refine ⟨?_, hb.trans (hb1.mono hb.size)⟩
        rw [rising_false hlt (HAt.out.trans (by simp))]; rfl
      | true =>
        by_cases h0 : j = 0
        · have h0' : ¬ (0 : Int) < (j : Int) := by omega
          have H0 : Hid (j = 0) := h0
          clear h0
          go_wp2_with fail
          refine cV.mono ?_
          rintro e w1 ⟨rfl, hb1⟩
          have HB1 : Hid (Below w.heap.size w w1) := hb.trans (hb1.mono hb.size)
          clear cV hb1
          go_wp2_with fail
          go_roundw
          case rel =>
            refine ⟨j + 1, by omega, by go_num, HB1.out, fun x hx => ?_⟩
            obtain rfl : x = j := by have := H0.out; omega
            exact HAt.out.trans (by simp [H0.out])
          case measure => simp [intOf]; omega
        · have h0' : (0 : Int) < (j : Int) := by omega
          have hcp := HC.out (by omega)
          go_wp2_with fail
          refine cV.mono ?_
          rintro e w1 ⟨rfl, hb1⟩
          have HB1 : Hid (Below w.heap.size w w1) := hb.trans (hb1.mono hb.size)
          have hcp1 : w1.cell? ⟨bk, off + (j - 1), none⟩ = some (.string kp) := cell_below HB1.out (Nat.le_refl _) hcp
          clear cV hb1
          go_wp2_with fail
          refine (Tryz.strings_Compare _ _ _).mono ?_
          rintro e w2 ⟨rfl, rfl⟩
          generalize hcmp : Lib.compareBytes kp.data.toList kx.data.toList = cm at *
          have HCm : Hid (Lib.compareBytes kp.data.toList kx.data.toList = cm) := hcmp
          clear hcmp
          by_cases h1 : 0 ≤ cm
          · go_wp2_with fail
            go_ret
            refine ⟨?_, HB1.out⟩
            rw [rising_false hlt (HAt.out.trans (by simp [h1]; omega))]; rfl
          · go_wp2_with fail
            go_roundw
            case rel =>
              refine ⟨j + 1, by omega, by go_num, HB1.out, fun x hx => ?_⟩
              by_cases hxj : x = j
              · subst hxj
                exact HAt.out.trans (by simp; omega)
              · exact HU.out x (by omega)
            case measure => simp [intOf]; omega
    · go_wp2_with fail
      go_ret
      refine ⟨?_, hb⟩
      rw [rising_true fun i hi => HU.out i (by omega)]; rfl
/-- What is asked of a value besides what is in its list. -/
def shapedB : Tree → Bool
  | .mk k b n s ks ts =>
    (if k = 0 then blankB b n s ks.length ts.length
     else if k = 1 then blankB false n s ks.length ts.length
     else if k = 2 then blankB b 0 s ks.length ts.length
     else if k = 6 ∨ k = 7 then blankB b (min n 0) s ks.length ts.length
     else if k = 3 then blankB b n ⟨#[]⟩ ks.length ts.length
     else if k = 5 then (ks.length == ts.length && risingB ks) && blankB b n s 0 0
     else if k = 4 then blankB b n s ks.length 0
     else false) && Lib.validD s.data.toList
theorem two_alloc {w w1 : World} {A A' : Array Value} {v : Value} (hb : Below ((w.alloc (.cells A 88)).alloc (.cells A' 88)).heap.size ((w.alloc (.cells A 88)).alloc (.cells A' 88)) w1) (h3 : A[3]? = some v) : Below w.heap.size w w1 ∧ w1.cell? ⟨w.heap.size, 3, none⟩ = some v := by
  simp only [World.size_alloc] at hb
  refine ⟨(((Below.refl _ w).alloc (Nat.le_refl _) _).alloc (by simp) _).trans (hb.mono (by omega)), (hb.cell (p := ⟨w.heap.size, 3, none⟩) (by show w.heap.size < _; omega)).trans ?_⟩
  have : ((w.alloc (.cells A 88)).alloc (.cells A' 88)).cell? ⟨w.heap.size, 3, none⟩ = (w.alloc (.cells A 88)).cell? ⟨w.heap.size, 3, none⟩ := World.cell?_of_block (Below.heap_alloc _ _ _ (by simp))
  rw [this]
  exact cell_new _ _ _ _ _ h3
set_option maxHeartbeats 1000000 in
theorem shaped_0 (k : Int) (b : Bool) (n : Int) (s : ByteArray) (ka : Option Addr) (kc : Nat) (la : Option Addr) (lc : Nat) (ks : List ByteArray) (ts : List Tree) (w : World) (hs1 : s.size ≤ maxLen) (hT : Tabs w) (hk0 : k = 0) :
    Calls Tryz.prog 198 #[.agg #[.int .i64 k, .bool b, .int .i64 n, .string s, .slice ka ks.length kc, .slice la ts.length lc]] w fun e w' => e = .returned (.bool (shapedB (.mk k b n s ks ts))) ∧ Below w.heap.size w w' := by
  have hsh : shapedB (.mk k b n s ks ts) = (blankB b n s ks.length ts.length && Lib.validD s.data.toList) := by subst hk0; rfl
  have e0 : (k == 0) = true := eq_bool hk0
  clear hk0
  go_enter Tryz.func198, Tryz.ntmps198
  go_wp2_with fail
  refine (blank_any _ _ _ _ _ _ _ _ _ _ _).mono ?_
  rintro e w1 ⟨rfl, hb1⟩
  obtain ⟨hB1, c3⟩ := two_alloc (v := .string s) hb1 rfl
  clear hb1
  have hT1 := hT.below hB1
  cases hbl : blankB b n s ks.length ts.length with
  | false =>
    have HS : Hid (shapedB (.mk k b n s ks ts) = false) := by unfold Hid; rw [hsh, hbl]; rfl
    clear hbl hsh
    go_wp2_with fail
    go_ret
    exact ⟨by rw [HS.out]; rfl, hB1⟩
  | true =>
    have HS : Hid (shapedB (.mk k b n s ks ts) = Lib.validD s.data.toList) := by unfold Hid; rw [hsh, hbl]; rfl
    clear hbl hsh
    go_wp2_with fail
    refine (vvalid_any _ _ hs1 hT1).mono ?_
    rintro e w2 ⟨rfl, hb2⟩
    go_wp2_with fail
    go_ret
    exact ⟨by rw [HS.out]; rfl, hB1.trans (hb2.mono hB1.size)⟩
set_option maxHeartbeats 1000000 in
theorem shaped_1 (k : Int) (b : Bool) (n : Int) (s : ByteArray) (ka : Option Addr) (kc : Nat) (la : Option Addr) (lc : Nat) (ks : List ByteArray) (ts : List Tree) (w : World) (hs1 : s.size ≤ maxLen) (hT : Tabs w) (hk0 : k = 1) :
    Calls Tryz.prog 198 #[.agg #[.int .i64 k, .bool b, .int .i64 n, .string s, .slice ka ks.length kc, .slice la ts.length lc]] w fun e w' => e = .returned (.bool (shapedB (.mk k b n s ks ts))) ∧ Below w.heap.size w w' := by
  have hsh : shapedB (.mk k b n s ks ts) = (blankB false n s ks.length ts.length && Lib.validD s.data.toList) := by subst hk0; rfl
  have e0 : (k == 0) = false := ne_bool (by omega)
  have e1 : (k == 1) = true := eq_bool hk0
  clear hk0
  go_enter Tryz.func198, Tryz.ntmps198
  go_wp2_with fail
  refine (blank_any _ _ _ _ _ _ _ _ _ _ _).mono ?_
  rintro e w1 ⟨rfl, hb1⟩
  obtain ⟨hB1, c3⟩ := two_alloc (v := .string s) hb1 rfl
  clear hb1
  have hT1 := hT.below hB1
  cases hbl : blankB false n s ks.length ts.length with
  | false =>
    have HS : Hid (shapedB (.mk k b n s ks ts) = false) := by unfold Hid; rw [hsh, hbl]; rfl
    clear hbl hsh
    go_wp2_with fail
    go_ret
    exact ⟨by rw [HS.out]; rfl, hB1⟩
  | true =>
    have HS : Hid (shapedB (.mk k b n s ks ts) = Lib.validD s.data.toList) := by unfold Hid; rw [hsh, hbl]; rfl
    clear hbl hsh
    go_wp2_with fail
    refine (vvalid_any _ _ hs1 hT1).mono ?_
    rintro e w2 ⟨rfl, hb2⟩
    go_wp2_with fail
    go_ret
    exact ⟨by rw [HS.out]; rfl, hB1.trans (hb2.mono hB1.size)⟩
set_option maxHeartbeats 1000000 in
theorem shaped_2 (k : Int) (b : Bool) (n : Int) (s : ByteArray) (ka : Option Addr) (kc : Nat) (la : Option Addr) (lc : Nat) (ks : List ByteArray) (ts : List Tree) (w : World) (hs1 : s.size ≤ maxLen) (hT : Tabs w) (hk0 : k = 2) :
    Calls Tryz.prog 198 #[.agg #[.int .i64 k, .bool b, .int .i64 n, .string s, .slice ka ks.length kc, .slice la ts.length lc]] w fun e w' => e = .returned (.bool (shapedB (.mk k b n s ks ts))) ∧ Below w.heap.size w w' := by
  have hsh : shapedB (.mk k b n s ks ts) = (blankB b 0 s ks.length ts.length && Lib.validD s.data.toList) := by subst hk0; rfl
  have e0 : (k == 0) = false := ne_bool (by omega)
  have e1 : (k == 1) = false := ne_bool (by omega)
  have e2 : (k == 2) = true := eq_bool hk0
  clear hk0
  go_enter Tryz.func198, Tryz.ntmps198
  go_wp2_with fail
  refine (blank_any _ _ _ _ _ _ _ _ _ _ _).mono ?_
  rintro e w1 ⟨rfl, hb1⟩
  obtain ⟨hB1, c3⟩ := two_alloc (v := .string s) hb1 rfl
  clear hb1
  have hT1 := hT.below hB1
  cases hbl : blankB b 0 s ks.length ts.length with
  | false =>
    have HS : Hid (shapedB (.mk k b n s ks ts) = false) := by unfold Hid; rw [hsh, hbl]; rfl
    clear hbl hsh
    go_wp2_with fail
    go_ret
    exact ⟨by rw [HS.out]; rfl, hB1⟩
  | true =>
    have HS : Hid (shapedB (.mk k b n s ks ts) = Lib.validD s.data.toList) := by unfold Hid; rw [hsh, hbl]; rfl
    clear hbl hsh
    go_wp2_with fail
    refine (vvalid_any _ _ hs1 hT1).mono ?_
    rintro e w2 ⟨rfl, hb2⟩
    go_wp2_with fail
    go_ret
    exact ⟨by rw [HS.out]; rfl, hB1.trans (hb2.mono hB1.size)⟩
set_option maxHeartbeats 1000000 in
theorem shaped_6 (k : Int) (b : Bool) (n : Int) (s : ByteArray) (ka : Option Addr) (kc : Nat) (la : Option Addr) (lc : Nat) (ks : List ByteArray) (ts : List Tree) (w : World) (hs1 : s.size ≤ maxLen) (hT : Tabs w) (hk0 : k = 6) :
    Calls Tryz.prog 198 #[.agg #[.int .i64 k, .bool b, .int .i64 n, .string s, .slice ka ks.length kc, .slice la ts.length lc]] w fun e w' => e = .returned (.bool (shapedB (.mk k b n s ks ts))) ∧ Below w.heap.size w w' := by
  have hsh : shapedB (.mk k b n s ks ts) = (blankB b (min n 0) s ks.length ts.length && Lib.validD s.data.toList) := by subst hk0; rfl
  have e0 : (k == 0) = false := ne_bool (by omega)
  have e1 : (k == 1) = false := ne_bool (by omega)
  have e2 : (k == 2) = false := ne_bool (by omega)
  have e6 : (k == 6) = true := eq_bool hk0
  have hmin : True := trivial
  clear hk0
  go_enter Tryz.func198, Tryz.ntmps198
  go_wp2_with fail
  refine (blank_any _ _ _ _ _ _ _ _ _ _ _).mono ?_
  rintro e w1 ⟨rfl, hb1⟩
  obtain ⟨hB1, c3⟩ := two_alloc (v := .string s) hb1 rfl
  clear hb1
  have hT1 := hT.below hB1
  cases hbl : blankB b (min n 0) s ks.length ts.length with
  | false =>
    have HS : Hid (shapedB (.mk k b n s ks ts) = false) := by unfold Hid; rw [hsh, hbl]; rfl
    clear hbl hsh
    go_wp2_with fail
    go_ret
    exact ⟨by rw [HS.out]; rfl, hB1⟩
  | true =>
    have HS : Hid (shapedB (.mk k b n s ks ts) = Lib.validD s.data.toList) := by unfold Hid; rw [hsh, hbl]; rfl
    clear hbl hsh
    go_wp2_with fail
    refine (vvalid_any _ _ hs1 hT1).mono ?_
    rintro e w2 ⟨rfl, hb2⟩
    go_wp2_with fail
    go_ret
    exact ⟨by rw [HS.out]; rfl, hB1.trans (hb2.mono hB1.size)⟩
set_option maxHeartbeats 1000000 in
theorem shaped_7 (k : Int) (b : Bool) (n : Int) (s : ByteArray) (ka : Option Addr) (kc : Nat) (la : Option Addr) (lc : Nat) (ks : List ByteArray) (ts : List Tree) (w : World) (hs1 : s.size ≤ maxLen) (hT : Tabs w) (hk0 : k = 7) :
    Calls Tryz.prog 198 #[.agg #[.int .i64 k, .bool b, .int .i64 n, .string s, .slice ka ks.length kc, .slice la ts.length lc]] w fun e w' => e = .returned (.bool (shapedB (.mk k b n s ks ts))) ∧ Below w.heap.size w w' := by
  have hsh : shapedB (.mk k b n s ks ts) = (blankB b (min n 0) s ks.length ts.length && Lib.validD s.data.toList) := by subst hk0; rfl
  have e0 : (k == 0) = false := ne_bool (by omega)
  have e1 : (k == 1) = false := ne_bool (by omega)
  have e2 : (k == 2) = false := ne_bool (by omega)
  have e6 : (k == 6) = false := ne_bool (by omega)
  have e7 : (k == 7) = true := eq_bool hk0
  have hmin : True := trivial
  clear hk0
  go_enter Tryz.func198, Tryz.ntmps198
  go_wp2_with fail
  refine (blank_any _ _ _ _ _ _ _ _ _ _ _).mono ?_
  rintro e w1 ⟨rfl, hb1⟩
  obtain ⟨hB1, c3⟩ := two_alloc (v := .string s) hb1 rfl
  clear hb1
  have hT1 := hT.below hB1
  cases hbl : blankB b (min n 0) s ks.length ts.length with
  | false =>
    have HS : Hid (shapedB (.mk k b n s ks ts) = false) := by unfold Hid; rw [hsh, hbl]; rfl
    clear hbl hsh
    go_wp2_with fail
    go_ret
    exact ⟨by rw [HS.out]; rfl, hB1⟩
  | true =>
    have HS : Hid (shapedB (.mk k b n s ks ts) = Lib.validD s.data.toList) := by unfold Hid; rw [hsh, hbl]; rfl
    clear hbl hsh
    go_wp2_with fail
    refine (vvalid_any _ _ hs1 hT1).mono ?_
    rintro e w2 ⟨rfl, hb2⟩
    go_wp2_with fail
    go_ret
    exact ⟨by rw [HS.out]; rfl, hB1.trans (hb2.mono hB1.size)⟩
set_option maxHeartbeats 1000000 in
theorem shaped_3 (k : Int) (b : Bool) (n : Int) (s : ByteArray) (ka : Option Addr) (kc : Nat) (la : Option Addr) (lc : Nat) (ks : List ByteArray) (ts : List Tree) (w : World) (hs1 : s.size ≤ maxLen) (hT : Tabs w) (hk0 : k = 3) :
    Calls Tryz.prog 198 #[.agg #[.int .i64 k, .bool b, .int .i64 n, .string s, .slice ka ks.length kc, .slice la ts.length lc]] w fun e w' => e = .returned (.bool (shapedB (.mk k b n s ks ts))) ∧ Below w.heap.size w w' := by
  have hsh : shapedB (.mk k b n s ks ts) = (blankB b n ⟨#[]⟩ ks.length ts.length && Lib.validD s.data.toList) := by subst hk0; rfl
  have e0 : (k == 0) = false := ne_bool (by omega)
  have e1 : (k == 1) = false := ne_bool (by omega)
  have e2 : (k == 2) = false := ne_bool (by omega)
  have e6 : (k == 6) = false := ne_bool (by omega)
  have e7 : (k == 7) = false := ne_bool (by omega)
  have e3 : (k == 3) = true := eq_bool hk0
  clear hk0
  go_enter Tryz.func198, Tryz.ntmps198
  go_wp2_with fail
  refine (blank_any _ _ _ _ _ _ _ _ _ _ _).mono ?_
  rintro e w1 ⟨rfl, hb1⟩
  obtain ⟨hB1, c3⟩ := two_alloc (v := .string s) hb1 rfl
  clear hb1
  have hT1 := hT.below hB1
  cases hbl : blankB b n ⟨#[]⟩ ks.length ts.length with
  | false =>
    have HS : Hid (shapedB (.mk k b n s ks ts) = false) := by unfold Hid; rw [hsh, hbl]; rfl
    clear hbl hsh
    go_wp2_with fail
    go_ret
    exact ⟨by rw [HS.out]; rfl, hB1⟩
  | true =>
    have HS : Hid (shapedB (.mk k b n s ks ts) = Lib.validD s.data.toList) := by unfold Hid; rw [hsh, hbl]; rfl
    clear hbl hsh
    go_wp2_with fail
    refine (vvalid_any _ _ hs1 hT1).mono ?_
    rintro e w2 ⟨rfl, hb2⟩
    go_wp2_with fail
    go_ret
    exact ⟨by rw [HS.out]; rfl, hB1.trans (hb2.mono hB1.size)⟩
set_option maxHeartbeats 1000000 in
theorem shaped_4 (k : Int) (b : Bool) (n : Int) (s : ByteArray) (ka : Option Addr) (kc : Nat) (la : Option Addr) (lc : Nat) (ks : List ByteArray) (ts : List Tree) (w : World) (hs1 : s.size ≤ maxLen) (hT : Tabs w) (hk0 : k = 4) :
    Calls Tryz.prog 198 #[.agg #[.int .i64 k, .bool b, .int .i64 n, .string s, .slice ka ks.length kc, .slice la ts.length lc]] w fun e w' => e = .returned (.bool (shapedB (.mk k b n s ks ts))) ∧ Below w.heap.size w w' := by
  have hsh : shapedB (.mk k b n s ks ts) = (blankB b n s ks.length 0 && Lib.validD s.data.toList) := by subst hk0; rfl
  have e0 : (k == 0) = false := ne_bool (by omega)
  have e1 : (k == 1) = false := ne_bool (by omega)
  have e2 : (k == 2) = false := ne_bool (by omega)
  have e6 : (k == 6) = false := ne_bool (by omega)
  have e7 : (k == 7) = false := ne_bool (by omega)
  have e3 : (k == 3) = false := ne_bool (by omega)
  have e5 : (k == 5) = false := ne_bool (by omega)
  have e4 : (k == 4) = true := eq_bool hk0
  clear hk0
  go_enter Tryz.func198, Tryz.ntmps198
  go_wp2_with fail
  refine (blank_any _ _ _ _ _ _ _ _ _ _ _).mono ?_
  rintro e w1 ⟨rfl, hb1⟩
  obtain ⟨hB1, c3⟩ := two_alloc (v := .string s) hb1 rfl
  clear hb1
  have hT1 := hT.below hB1
  cases hbl : blankB b n s ks.length 0 with
  | false =>
    have HS : Hid (shapedB (.mk k b n s ks ts) = false) := by unfold Hid; rw [hsh, hbl]; rfl
    clear hbl hsh
    go_wp2_with fail
    go_ret
    exact ⟨by rw [HS.out]; rfl, hB1⟩
  | true =>
    have HS : Hid (shapedB (.mk k b n s ks ts) = Lib.validD s.data.toList) := by unfold Hid; rw [hsh, hbl]; rfl
    clear hbl hsh
    go_wp2_with fail
    refine (vvalid_any _ _ hs1 hT1).mono ?_
    rintro e w2 ⟨rfl, hb2⟩
    go_wp2_with fail
    go_ret
    exact ⟨by rw [HS.out]; rfl, hB1.trans (hb2.mono hB1.size)⟩
end Go.Proofs.YthfilnflgahcjaaGreatDoor
