/- The document's UTF-8. -/
import Derived.Test.YtbjcdpenfijfoaaGreatDoorJoin2
import Derived.Lib.ValidLaws
namespace Go.Proofs.YtbjcdpenfijfoaaGreatDoor
open Go.RowKit Go.Shelf
set_option linter.unusedVariables false

/-- The byte at a place; nought behind the end. -/
def byteN (s : ByteArray) (i : Nat) : Nat := (s.data.toList.getD i 0).toNat
theorem byteN_eq {s : ByteArray} {i : Nat} (h : i < s.size) : s[i].toNat = byteN s i := by
  unfold byteN
  have h' : i < s.data.toList.length := by simpa using h
  rw [List.getD_eq_getElem?_getD, List.getElem?_eq_getElem h']
  rfl
def moreB (s : ByteArray) (i : Nat) : Bool := decide (i < s.size) && (decide (128 ≤ byteN s i) && decide (byteN s i ≤ 191))

set_option maxHeartbeats 400000 in
theorem more_any (s : ByteArray) (i : Nat) (w : World) (hs : s.size ≤ 140737488355328) (hi2 : i ≤ 140737488355400) :
    Calls Tryz.prog 83 #[.string s, .int .i64 i] w fun e w' => e = .returned (.bool (moreB s i)) ∧ w' = w := by
  unfold moreB
  by_cases hi : i < s.size
  · have hb := byteN_eq hi
    have hd : decide (i < s.size) = true := decide_eq_true hi
    rw [hd, Bool.true_and]
    by_cases h1 : 128 ≤ byteN s i
    · have h1' : (128 : Int) ≤ (s[i].toNat : Int) := by omega
      have hd1 : decide (128 ≤ byteN s i) = true := decide_eq_true h1
      rw [hd1, Bool.true_and]
      by_cases h2 : byteN s i ≤ 191
      · have h2' : (s[i].toNat : Int) ≤ 191 := by omega
        have hd2 : decide (byteN s i ≤ 191) = true := decide_eq_true h2
        rw [hd2]
        clear hb h1 h2 hd hd1 hd2
        go_enter Tryz.func83, Tryz.ntmps83
        go_wp2
        go_ret
        exact ⟨rfl, rfl⟩
      · have h2' : ¬ (s[i].toNat : Int) ≤ 191 := by omega
        have hd2 : decide (byteN s i ≤ 191) = false := decide_eq_false h2
        rw [hd2]
        clear hb h1 h2 hd hd1 hd2
        go_enter Tryz.func83, Tryz.ntmps83
        go_wp2
        go_ret
        exact ⟨rfl, rfl⟩
    · have h1' : ¬ (128 : Int) ≤ (s[i].toNat : Int) := by omega
      have hd1 : decide (128 ≤ byteN s i) = false := decide_eq_false h1
      rw [hd1, Bool.false_and]
      clear hb h1 hd hd1
      go_enter Tryz.func83, Tryz.ntmps83
      go_wp2
      go_ret
      exact ⟨rfl, rfl⟩
  · have hd : decide (i < s.size) = false := decide_eq_false hi
    rw [hd, Bool.false_and]
    clear hd
    go_enter Tryz.func83, Tryz.ntmps83
    go_wp2
    go_ret
    exact ⟨rfl, rfl⟩
/-- How many bytes the rune at a place has; nought: there is none. -/
def runeN (s : ByteArray) (i : Nat) : Nat :=
  if byteN s i < 128 then 1
  else if (194 ≤ byteN s i ∧ byteN s i ≤ 223) ∧ moreB s (i + 1) = true then 2
  else if (224 ≤ byteN s i ∧ byteN s i ≤ 239) ∧ moreB s (i + 1) = true ∧ moreB s (i + 2) = true then
    (if (byteN s i = 224 ∧ byteN s (i + 1) < 160) ∨ (byteN s i = 237 ∧ 159 < byteN s (i + 1)) then 0 else 3)
  else if (240 ≤ byteN s i ∧ byteN s i ≤ 244) ∧ moreB s (i + 1) = true ∧ moreB s (i + 2) = true ∧ moreB s (i + 3) = true then
    (if (byteN s i = 240 ∧ byteN s (i + 1) < 144) ∨ (byteN s i = 244 ∧ 143 < byteN s (i + 1)) then 0 else 4)
  else 0

theorem moreB_lt {s : ByteArray} {i : Nat} (h : moreB s i = true) : i < s.size := by
  unfold moreB at h
  simp at h
  exact h.1

set_option maxRecDepth 100000 in
set_option maxHeartbeats 4000000 in
theorem rune_any (s : ByteArray) (i : Nat) (w : World) (hs : s.size ≤ 140737488355328) (hi : i < s.size) :
    Calls Tryz.prog 65 #[.string s, .int .i64 i] w fun e w' => e = .returned (.int .i64 (runeN s i)) ∧ w' = w := by
  have hb := byteN_eq hi
  have HR0 : Hid (runeN s i = if byteN s i < 128 then 1
    else if (194 ≤ byteN s i ∧ byteN s i ≤ 223) ∧ moreB s (i + 1) = true then 2
    else if (224 ≤ byteN s i ∧ byteN s i ≤ 239) ∧ moreB s (i + 1) = true ∧ moreB s (i + 2) = true then
      (if (byteN s i = 224 ∧ byteN s (i + 1) < 160) ∨ (byteN s i = 237 ∧ 159 < byteN s (i + 1)) then 0 else 3)
    else if (240 ≤ byteN s i ∧ byteN s i ≤ 244) ∧ moreB s (i + 1) = true ∧ moreB s (i + 2) = true ∧ moreB s (i + 3) = true then
      (if (byteN s i = 240 ∧ byteN s (i + 1) < 144) ∨ (byteN s i = 244 ∧ 143 < byteN s (i + 1)) then 0 else 4)
    else 0) := rfl
  have HM1 : Hid (∀ W, Calls Tryz.prog 83 #[.string s, .int .i64 ((i : Int) + 1)] W fun e w' => e = .returned (.bool (moreB s (i + 1))) ∧ w' = W) := fun W => more_any s (i + 1) W hs (by omega)
  have HM2 : Hid (∀ W, Calls Tryz.prog 83 #[.string s, .int .i64 ((i : Int) + 2)] W fun e w' => e = .returned (.bool (moreB s (i + 2))) ∧ w' = W) := fun W => more_any s (i + 2) W hs (by omega)
  have HM3 : Hid (∀ W, Calls Tryz.prog 83 #[.string s, .int .i64 ((i : Int) + 3)] W fun e w' => e = .returned (.bool (moreB s (i + 3))) ∧ w' = W) := fun W => more_any s (i + 3) W hs (by omega)
  have HL1 : Hid (moreB s (i + 1) = true → i + 1 < s.size) := moreB_lt
  have HB1 : Hid (∀ h : i + 1 < s.size, s[i + 1].toNat = byteN s (i + 1)) := fun h => byteN_eq h
  generalize moreB s (i + 1) = m1 at *
  generalize moreB s (i + 2) = m2 at *
  generalize moreB s (i + 3) = m3 at *
  generalize byteN s (i + 1) = b1 at *
  generalize byteN s i = c at *
  generalize runeN s i = rn at *
  by_cases c1 : c < 128
  · have HR : Hid (rn = 1) := HR0.out.trans (by rw [if_pos c1])
    have x1 : (s[i].toNat : Int) < 128 := by omega
    clear HR0 hb
    go_enter Tryz.func65, Tryz.ntmps65
    go_wp2_with fail
    go_ret
    exact ⟨by rw [HR.out]; rfl, rfl⟩
  have x1 : ¬ (s[i].toNat : Int) < 128 := by omega
  by_cases c2 : c < 194
  · have HR : Hid (rn = 0) := HR0.out.trans (by rw [if_neg c1, if_neg (by omega), if_neg (by omega), if_neg (by omega)])
    have x2 : ¬ 194 ≤ (s[i].toNat : Int) := by omega
    have x3 : ¬ 224 ≤ (s[i].toNat : Int) := by omega
    have x4 : ¬ 240 ≤ (s[i].toNat : Int) := by omega
    clear HR0 hb
    go_enter Tryz.func65, Tryz.ntmps65
    go_wp2_with fail
    go_ret
    exact ⟨by rw [HR.out]; rfl, rfl⟩
  have x2 : 194 ≤ (s[i].toNat : Int) := by omega
  by_cases c3 : c ≤ 223
  · have x3 : (s[i].toNat : Int) ≤ 223 := by omega
    have x4 : ¬ 224 ≤ (s[i].toNat : Int) := by omega
    have x5 : ¬ 240 ≤ (s[i].toNat : Int) := by omega
    cases m1 with
    | true =>
      have HR : Hid (rn = 2) := HR0.out.trans (by rw [if_neg c1, if_pos ⟨⟨by omega, c3⟩, rfl⟩])
      clear HR0 hb
      go_enter Tryz.func65, Tryz.ntmps65
      go_wp2_with fail
      refine (HM1.out _).mono ?_; rintro e w' ⟨rfl, rfl⟩
      go_wp2_with fail
      go_ret
      exact ⟨by rw [HR.out]; rfl, rfl⟩
    | false =>
      have HR : Hid (rn = 0) := HR0.out.trans (by rw [if_neg c1, if_neg (by simp), if_neg (by omega), if_neg (by omega)])
      clear HR0 hb
      go_enter Tryz.func65, Tryz.ntmps65
      go_wp2_with fail
      refine (HM1.out _).mono ?_; rintro e w' ⟨rfl, rfl⟩
      go_wp2_with fail
      go_ret
      exact ⟨by rw [HR.out]; rfl, rfl⟩
  have x3 : ¬ (s[i].toNat : Int) ≤ 223 := by omega
  have x4 : 224 ≤ (s[i].toNat : Int) := by omega
  by_cases c4 : c ≤ 239
  · have x5 : (s[i].toNat : Int) ≤ 239 := by omega
    have x6 : ¬ 240 ≤ (s[i].toNat : Int) := by omega
    cases m1 with
    | false =>
      have HR : Hid (rn = 0) := HR0.out.trans (by rw [if_neg c1, if_neg (by omega), if_neg (by simp), if_neg (by omega)])
      clear HR0 hb
      go_enter Tryz.func65, Tryz.ntmps65
      go_wp2_with fail
      refine (HM1.out _).mono ?_; rintro e w' ⟨rfl, rfl⟩
      go_wp2_with fail
      go_ret
      exact ⟨by rw [HR.out]; rfl, rfl⟩
    | true =>
      have hl1 := HL1.out rfl
      have hb1 := HB1.out hl1
      cases m2 with
      | false =>
        have HR : Hid (rn = 0) := HR0.out.trans (by rw [if_neg c1, if_neg (by omega), if_neg (by simp), if_neg (by omega)])
        clear HR0 hb hb1
        go_enter Tryz.func65, Tryz.ntmps65
        go_wp2_with fail
        refine (HM1.out _).mono ?_; rintro e w' ⟨rfl, rfl⟩
        go_wp2_with fail
        refine (HM2.out _).mono ?_; rintro e w' ⟨rfl, rfl⟩
        go_wp2_with fail
        go_ret
        exact ⟨by rw [HR.out]; rfl, rfl⟩
      | true =>
        have HR1 := hidE (HR0.out.trans (by rw [if_neg c1, if_neg (by omega), if_pos ⟨⟨by omega, c4⟩, rfl, rfl⟩]))
        by_cases d0 : c = 224
        · have y0 : ((s[i].toNat : Int) == 224) = true := eq_bool (by omega)
          by_cases d1 : b1 < 160
          · have HR : Hid (rn = 0) := HR1.out.trans (by rw [if_pos (.inl ⟨d0, d1⟩)])
            have y1 : (s[i + 1].toNat : Int) < 160 := by omega
            clear HR1 HR0 hb hb1
            go_enter Tryz.func65, Tryz.ntmps65
            go_wp2_with fail
            refine (HM1.out _).mono ?_; rintro e w' ⟨rfl, rfl⟩
            go_wp2_with fail
            refine (HM2.out _).mono ?_; rintro e w' ⟨rfl, rfl⟩
            go_wp2_with fail
            go_ret
            exact ⟨by rw [HR.out]; rfl, rfl⟩
          · have HR : Hid (rn = 3) := HR1.out.trans (by rw [if_neg (by omega)])
            have y1 : ¬ (s[i + 1].toNat : Int) < 160 := by omega
            have y2 : ((s[i].toNat : Int) == 237) = false := ne_bool (by omega)
            clear HR1 HR0 hb hb1
            go_enter Tryz.func65, Tryz.ntmps65
            go_wp2_with fail
            refine (HM1.out _).mono ?_; rintro e w' ⟨rfl, rfl⟩
            go_wp2_with fail
            refine (HM2.out _).mono ?_; rintro e w' ⟨rfl, rfl⟩
            go_wp2_with fail
            go_ret
            exact ⟨by rw [HR.out]; rfl, rfl⟩
        · have y0 : ((s[i].toNat : Int) == 224) = false := ne_bool (by omega)
          by_cases d2 : c = 237
          · have y2 : ((s[i].toNat : Int) == 237) = true := eq_bool (by omega)
            by_cases d3 : 159 < b1
            · have HR : Hid (rn = 0) := HR1.out.trans (by rw [if_pos (.inr ⟨d2, d3⟩)])
              have y3 : 159 < (s[i + 1].toNat : Int) := by omega
              clear HR1 HR0 hb hb1
              go_enter Tryz.func65, Tryz.ntmps65
              go_wp2_with fail
              refine (HM1.out _).mono ?_; rintro e w' ⟨rfl, rfl⟩
              go_wp2_with fail
              refine (HM2.out _).mono ?_; rintro e w' ⟨rfl, rfl⟩
              go_wp2_with fail
              go_ret
              exact ⟨by rw [HR.out]; rfl, rfl⟩
            · have HR : Hid (rn = 3) := HR1.out.trans (by rw [if_neg (by omega)])
              have y3 : ¬ 159 < (s[i + 1].toNat : Int) := by omega
              clear HR1 HR0 hb hb1
              go_enter Tryz.func65, Tryz.ntmps65
              go_wp2_with fail
              refine (HM1.out _).mono ?_; rintro e w' ⟨rfl, rfl⟩
              go_wp2_with fail
              refine (HM2.out _).mono ?_; rintro e w' ⟨rfl, rfl⟩
              go_wp2_with fail
              go_ret
              exact ⟨by rw [HR.out]; rfl, rfl⟩
          · have y2 : ((s[i].toNat : Int) == 237) = false := ne_bool (by omega)
            have HR : Hid (rn = 3) := HR1.out.trans (by rw [if_neg (by omega)])
            clear HR1 HR0 hb hb1
            go_enter Tryz.func65, Tryz.ntmps65
            go_wp2_with fail
            refine (HM1.out _).mono ?_; rintro e w' ⟨rfl, rfl⟩
            go_wp2_with fail
            refine (HM2.out _).mono ?_; rintro e w' ⟨rfl, rfl⟩
            go_wp2_with fail
            go_ret
            exact ⟨by rw [HR.out]; rfl, rfl⟩
  have x5 : ¬ (s[i].toNat : Int) ≤ 239 := by omega
  have x6 : 240 ≤ (s[i].toNat : Int) := by omega
  by_cases c5 : c ≤ 244
  · have x7 : (s[i].toNat : Int) ≤ 244 := by omega
    cases m1 with
    | false =>
      have HR : Hid (rn = 0) := HR0.out.trans (by rw [if_neg c1, if_neg (by omega), if_neg (by omega), if_neg (by simp)])
      clear HR0 hb
      go_enter Tryz.func65, Tryz.ntmps65
      go_wp2_with fail
      refine (HM1.out _).mono ?_; rintro e w' ⟨rfl, rfl⟩
      go_wp2_with fail
      go_ret
      exact ⟨by rw [HR.out]; rfl, rfl⟩
    | true =>
      have hl1 := HL1.out rfl
      have hb1 := HB1.out hl1
      cases m2 with
      | false =>
        have HR : Hid (rn = 0) := HR0.out.trans (by rw [if_neg c1, if_neg (by omega), if_neg (by omega), if_neg (by simp)])
        clear HR0 hb hb1
        go_enter Tryz.func65, Tryz.ntmps65
        go_wp2_with fail
        refine (HM1.out _).mono ?_; rintro e w' ⟨rfl, rfl⟩
        go_wp2_with fail
        refine (HM2.out _).mono ?_; rintro e w' ⟨rfl, rfl⟩
        go_wp2_with fail
        go_ret
        exact ⟨by rw [HR.out]; rfl, rfl⟩
      | true =>
        cases m3 with
        | false =>
          have HR : Hid (rn = 0) := HR0.out.trans (by rw [if_neg c1, if_neg (by omega), if_neg (by omega), if_neg (by simp)])
          clear HR0 hb hb1
          go_enter Tryz.func65, Tryz.ntmps65
          go_wp2_with fail
          refine (HM1.out _).mono ?_; rintro e w' ⟨rfl, rfl⟩
          go_wp2_with fail
          refine (HM2.out _).mono ?_; rintro e w' ⟨rfl, rfl⟩
          go_wp2_with fail
          refine (HM3.out _).mono ?_; rintro e w' ⟨rfl, rfl⟩
          go_wp2_with fail
          go_ret
          exact ⟨by rw [HR.out]; rfl, rfl⟩
        | true =>
          have HR1 := hidE (HR0.out.trans (by rw [if_neg c1, if_neg (by omega), if_neg (by omega), if_pos ⟨⟨by omega, c5⟩, rfl, rfl, rfl⟩]))
          by_cases d0 : c = 240
          · have y0 : ((s[i].toNat : Int) == 240) = true := eq_bool (by omega)
            by_cases d1 : b1 < 144
            · have HR : Hid (rn = 0) := HR1.out.trans (by rw [if_pos (.inl ⟨d0, d1⟩)])
              have y1 : (s[i + 1].toNat : Int) < 144 := by omega
              clear HR1 HR0 hb hb1
              go_enter Tryz.func65, Tryz.ntmps65
              go_wp2_with fail
              refine (HM1.out _).mono ?_; rintro e w' ⟨rfl, rfl⟩
              go_wp2_with fail
              refine (HM2.out _).mono ?_; rintro e w' ⟨rfl, rfl⟩
              go_wp2_with fail
              refine (HM3.out _).mono ?_; rintro e w' ⟨rfl, rfl⟩
              go_wp2_with fail
              go_ret
              exact ⟨by rw [HR.out]; rfl, rfl⟩
            · have HR : Hid (rn = 4) := HR1.out.trans (by rw [if_neg (by omega)])
              have y1 : ¬ (s[i + 1].toNat : Int) < 144 := by omega
              have y2 : ((s[i].toNat : Int) == 244) = false := ne_bool (by omega)
              clear HR1 HR0 hb hb1
              go_enter Tryz.func65, Tryz.ntmps65
              go_wp2_with fail
              refine (HM1.out _).mono ?_; rintro e w' ⟨rfl, rfl⟩
              go_wp2_with fail
              refine (HM2.out _).mono ?_; rintro e w' ⟨rfl, rfl⟩
              go_wp2_with fail
              refine (HM3.out _).mono ?_; rintro e w' ⟨rfl, rfl⟩
              go_wp2_with fail
              go_ret
              exact ⟨by rw [HR.out]; rfl, rfl⟩
          · have y0 : ((s[i].toNat : Int) == 240) = false := ne_bool (by omega)
            by_cases d2 : c = 244
            · have y2 : ((s[i].toNat : Int) == 244) = true := eq_bool (by omega)
              by_cases d3 : 143 < b1
              · have HR : Hid (rn = 0) := HR1.out.trans (by rw [if_pos (.inr ⟨d2, d3⟩)])
                have y3 : 143 < (s[i + 1].toNat : Int) := by omega
                clear HR1 HR0 hb hb1
                go_enter Tryz.func65, Tryz.ntmps65
                go_wp2_with fail
                refine (HM1.out _).mono ?_; rintro e w' ⟨rfl, rfl⟩
                go_wp2_with fail
                refine (HM2.out _).mono ?_; rintro e w' ⟨rfl, rfl⟩
                go_wp2_with fail
                refine (HM3.out _).mono ?_; rintro e w' ⟨rfl, rfl⟩
                go_wp2_with fail
                go_ret
                exact ⟨by rw [HR.out]; rfl, rfl⟩
              · have HR : Hid (rn = 4) := HR1.out.trans (by rw [if_neg (by omega)])
                have y3 : ¬ 143 < (s[i + 1].toNat : Int) := by omega
                clear HR1 HR0 hb hb1
                go_enter Tryz.func65, Tryz.ntmps65
                go_wp2_with fail
                refine (HM1.out _).mono ?_; rintro e w' ⟨rfl, rfl⟩
                go_wp2_with fail
                refine (HM2.out _).mono ?_; rintro e w' ⟨rfl, rfl⟩
                go_wp2_with fail
                refine (HM3.out _).mono ?_; rintro e w' ⟨rfl, rfl⟩
                go_wp2_with fail
                go_ret
                exact ⟨by rw [HR.out]; rfl, rfl⟩
            · have y2 : ((s[i].toNat : Int) == 244) = false := ne_bool (by omega)
              have HR : Hid (rn = 4) := HR1.out.trans (by rw [if_neg (by omega)])
              clear HR1 HR0 hb hb1
              go_enter Tryz.func65, Tryz.ntmps65
              go_wp2_with fail
              refine (HM1.out _).mono ?_; rintro e w' ⟨rfl, rfl⟩
              go_wp2_with fail
              refine (HM2.out _).mono ?_; rintro e w' ⟨rfl, rfl⟩
              go_wp2_with fail
              refine (HM3.out _).mono ?_; rintro e w' ⟨rfl, rfl⟩
              go_wp2_with fail
              go_ret
              exact ⟨by rw [HR.out]; rfl, rfl⟩
  have x7 : ¬ (s[i].toNat : Int) ≤ 244 := by omega
  have HR : Hid (rn = 0) := HR0.out.trans (by rw [if_neg c1, if_neg (by omega), if_neg (by omega), if_neg (by omega)])
  clear HR0 hb
  go_enter Tryz.func65, Tryz.ntmps65
  go_wp2_with fail
  go_ret
  exact ⟨by rw [HR.out]; rfl, rfl⟩
end Go.Proofs.YtbjcdpenfijfoaaGreatDoor
