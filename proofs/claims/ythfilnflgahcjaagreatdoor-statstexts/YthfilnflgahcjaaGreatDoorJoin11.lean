/- The document's UTF-8. The document's UTF-8 is the program's. A row behind a row of the call's own, however many. -/
import Derived.Test.YthfilnflgahcjaaGreatDoorJoin1
import Derived.Lib.ValidLaws
namespace Go.Proofs.YthfilnflgahcjaaGreatDoor
open Go.RowKit Go.Shelf
set_option linter.unusedVariables false

/-- The byte at a place; nought behind the end. -/
def byteN (s : ByteArray) (i : Nat) : Nat := (s.data.toList.getD i 0).toNat
theorem byteN_eq {s : ByteArray} {i : Nat} (h : i < s.size) : s[i].toNat = byteN s i := by
  unfold byteN
  have h' : i < s.data.toList.length := by simpa using h
  rw [List.getD_eq_getElem?_getD, List.getElem?_eq_getElem h']
  rfl
def moreB (s : ByteArray) (i : Nat) : Bool := decide (i < s.size) && (decide (128 ≤ byteN s i) && decide (byteN s i ≤ 191))

set_option maxHeartbeats 400000 in
theorem more_any (s : ByteArray) (i : Nat) (w : World) (hs : s.size ≤ 140737488355328) (hi2 : i ≤ 140737488355400) :
    Calls Tryz.prog 170 #[.string s, .int .i64 i] w fun e w' => e = .returned (.bool (moreB s i)) ∧ w' = w := by
  unfold moreB
  by_cases hi : i < s.size
  · have hb := byteN_eq hi
    have hd : decide (i < s.size) = true := decide_eq_true hi
    rw [hd, Bool.true_and]
    by_cases h1 : 128 ≤ byteN s i
    · have h1' : (128 : Int) ≤ (s[i].toNat : Int) := by omega
      have hd1 : decide (128 ≤ byteN s i) = true := decide_eq_true h1
      rw [hd1, Bool.true_and]
      by_cases h2 : byteN s i ≤ 191
      · have h2' : (s[i].toNat : Int) ≤ 191 := by omega
        have hd2 : decide (byteN s i ≤ 191) = true := decide_eq_true h2
        rw [hd2]
        clear hb h1 h2 hd hd1 hd2
        go_enter Tryz.func170, Tryz.ntmps170
        go_wp2
        go_ret
        exact ⟨rfl, rfl⟩
      · have h2' : ¬ (s[i].toNat : Int) ≤ 191 := by omega
        have hd2 : decide (byteN s i ≤ 191) = false := decide_eq_false h2
        rw [hd2]
        clear hb h1 h2 hd hd1 hd2
        go_enter Tryz.func170, Tryz.ntmps170
        go_wp2
        go_ret
        exact ⟨rfl, rfl⟩
    · have h1' : ¬ (128 : Int) ≤ (s[i].toNat : Int) := by omega
      have hd1 : decide (128 ≤ byteN s i) = false := decide_eq_false h1
      rw [hd1, Bool.false_and]
      clear hb h1 hd hd1
      go_enter Tryz.func170, Tryz.ntmps170
      go_wp2
      go_ret
      exact ⟨rfl, rfl⟩
  · have hd : decide (i < s.size) = false := decide_eq_false hi
    rw [hd, Bool.false_and]
    clear hd
    go_enter Tryz.func170, Tryz.ntmps170
    go_wp2
    go_ret
    exact ⟨rfl, rfl⟩
/-- How many bytes the rune at a place has; nought: there is none. -/
def runeN (s : ByteArray) (i : Nat) : Nat :=
  if byteN s i < 128 then 1
  else if (194 ≤ byteN s i ∧ byteN s i ≤ 223) ∧ moreB s (i + 1) = true then 2
  else if (224 ≤ byteN s i ∧ byteN s i ≤ 239) ∧ moreB s (i + 1) = true ∧ moreB s (i + 2) = true then
    (if (byteN s i = 224 ∧ byteN s (i + 1) < 160) ∨ (byteN s i = 237 ∧ 159 < byteN s (i + 1)) then 0 else 3)
  else if (240 ≤ byteN s i ∧ byteN s i ≤ 244) ∧ moreB s (i + 1) = true ∧ moreB s (i + 2) = true ∧ moreB s (i + 3) = true then
    (if (byteN s i = 240 ∧ byteN s (i + 1) < 144) ∨ (byteN s i = 244 ∧ 143 < byteN s (i + 1)) then 0 else 4)
  else 0

theorem moreB_lt {s : ByteArray} {i : Nat} (h : moreB s i = true) : i < s.size := by
  unfold moreB at h
  simp at h
  exact h.1

set_option maxRecDepth 100000 in
set_option maxHeartbeats 4000000 in
theorem rune_any (s : ByteArray) (i : Nat) (w : World) (hs : s.size ≤ 140737488355328) (hi : i < s.size) :
    Calls Tryz.prog 144 #[.string s, .int .i64 i] w fun e w' => e = .returned (.int .i64 (runeN s i)) ∧ w' = w := by
  have hb := byteN_eq hi
  have HR0 : Hid (runeN s i = if byteN s i < 128 then 1
    else if (194 ≤ byteN s i ∧ byteN s i ≤ 223) ∧ moreB s (i + 1) = true then 2
    else if (224 ≤ byteN s i ∧ byteN s i ≤ 239) ∧ moreB s (i + 1) = true ∧ moreB s (i + 2) = true then
      (if (byteN s i = 224 ∧ byteN s (i + 1) < 160) ∨ (byteN s i = 237 ∧ 159 < byteN s (i + 1)) then 0 else 3)
    else if (240 ≤ byteN s i ∧ byteN s i ≤ 244) ∧ moreB s (i + 1) = true ∧ moreB s (i + 2) = true ∧ moreB s (i + 3) = true then
      (if (byteN s i = 240 ∧ byteN s (i + 1) < 144) ∨ (byteN s i = 244 ∧ 143 < byteN s (i + 1)) then 0 else 4)
    else 0) := rfl
  have HM1 : Hid (∀ W, Calls Tryz.prog 170 #[.string s, .int .i64 ((i : Int) + 1)] W fun e w' => e = .returned (.bool (moreB s (i + 1))) ∧ w' = W) := fun W => more_any s (i + 1) W hs (by omega)
  have HM2 : Hid (∀ W, Calls Tryz.prog 170 #[.string s, .int .i64 ((i : Int) + 2)] W fun e w' => e = .returned (.bool (moreB s (i + 2))) ∧ w' = W) := fun W => more_any s (i + 2) W hs (by omega)
  have HM3 : Hid (∀ W, Calls Tryz.prog 170 #[.string s, .int .i64 ((i : Int) + 3)] W fun e w' => e = .returned (.bool (moreB s (i + 3))) ∧ w' = W) := fun W => more_any s (i + 3) W hs (by omega)
  have HL1 : Hid (moreB s (i + 1) = true → i + 1 < s.size) := moreB_lt
  have HB1 : Hid (∀ h : i + 1 < s.size, s[i + 1].toNat = byteN s (i + 1)) := fun h => byteN_eq h
  generalize moreB s (i + 1) = m1 at *
  generalize moreB s (i + 2) = m2 at *
  generalize moreB s (i + 3) = m3 at *
  generalize byteN s (i + 1) = b1 at *
  generalize byteN s i = c at *
  generalize runeN s i = rn at *
  by_cases c1 : c < 128
  · have HR : Hid (rn = 1) := HR0.out.trans (by rw [if_pos c1])
    have x1 : (s[i].toNat : Int) < 128 := by omega
    clear HR0 hb
    go_enter Tryz.func144, Tryz.ntmps144
    go_wp2_with fail
    go_ret
    exact ⟨by rw [HR.out]; rfl, rfl⟩
  have x1 : ¬ (s[i].toNat : Int) < 128 := by omega
  by_cases c2 : c < 194
  · have HR : Hid (rn = 0) := HR0.out.trans (by rw [if_neg c1, if_neg (by omega), if_neg (by omega), if_neg (by omega)])
    have x2 : ¬ 194 ≤ (s[i].toNat : Int) := by omega
    have x3 : ¬ 224 ≤ (s[i].toNat : Int) := by omega
    have x4 : ¬ 240 ≤ (s[i].toNat : Int) := by omega
    clear HR0 hb
    go_enter Tryz.func144, Tryz.ntmps144
    go_wp2_with fail
    go_ret
    exact ⟨by rw [HR.out]; rfl, rfl⟩
  have x2 : 194 ≤ (s[i].toNat : Int) := by omega
  by_cases c3 : c ≤ 223
  · have x3 : (s[i].toNat : Int) ≤ 223 := by omega
    have x4 : ¬ 224 ≤ (s[i].toNat : Int) := by omega
    have x5 : ¬ 240 ≤ (s[i].toNat : Int) := by omega
    cases m1 with
    | true =>
      have HR : Hid (rn = 2) := HR0.out.trans (by rw [if_neg c1, if_pos ⟨⟨by omega, c3⟩, rfl⟩])
      clear HR0 hb
      go_enter Tryz.func144, Tryz.ntmps144
      go_wp2_with fail
      refine (HM1.out _).mono ?_; rintro e w' ⟨rfl, rfl⟩
      go_wp2_with fail
      go_ret
      exact ⟨by rw [HR.out]; rfl, rfl⟩
    | false =>
      have HR : Hid (rn = 0) := HR0.out.trans (by rw [if_neg c1, if_neg (by simp), if_neg (by omega), if_neg (by omega)])
      clear HR0 hb
      go_enter Tryz.func144, Tryz.ntmps144
      go_wp2_with fail
      refine (HM1.out _).mono ?_; rintro e w' ⟨rfl, rfl⟩
      go_wp2_with fail
      go_ret
      exact ⟨by rw [HR.out]; rfl, rfl⟩
  have x3 : ¬ (s[i].toNat : Int) ≤ 223 := by omega
  have x4 : 224 ≤ (s[i].toNat : Int) := by omega
  by_cases c4 : c ≤ 239
  · have x5 : (s[i].toNat : Int) ≤ 239 := by omega
    have x6 : ¬ 240 ≤ (s[i].toNat : Int) := by omega
    cases m1 with
    | false =>
      have HR : Hid (rn = 0) := HR0.out.trans (by rw [if_neg c1, if_neg (by omega), if_neg (by simp), if_neg (by omega)])
      clear HR0 hb
      go_enter Tryz.func144, Tryz.ntmps144
      go_wp2_with fail
      refine (HM1.out _).mono ?_; rintro e w' ⟨rfl, rfl⟩
      go_wp2_with fail
      go_ret
      exact ⟨by rw [HR.out]; rfl, rfl⟩
    | true =>
      have hl1 := HL1.out rfl
      have hb1 := HB1.out hl1
      cases m2 with
      | false =>
        have HR : Hid (rn = 0) := HR0.out.trans (by rw [if_neg c1, if_neg (by omega), if_neg (by simp), if_neg (by omega)])
        clear HR0 hb hb1
        go_enter Tryz.func144, Tryz.ntmps144
        go_wp2_with fail
        refine (HM1.out _).mono ?_; rintro e w' ⟨rfl, rfl⟩
        go_wp2_with fail
        refine (HM2.out _).mono ?_; rintro e w' ⟨rfl, rfl⟩
        go_wp2_with fail
        go_ret
        exact ⟨by rw [HR.out]; rfl, rfl⟩
      | true =>
        have HR1 := hidE (HR0.out.trans (by rw [if_neg c1, if_neg (by omega), if_pos ⟨⟨by omega, c4⟩, rfl, rfl⟩]))
        by_cases d0 : c = 224
        · have y0 : ((s[i].toNat : Int) == 224) = true := eq_bool (by omega)
          by_cases d1 : b1 < 160
          · have HR : Hid (rn = 0) := HR1.out.trans (by rw [if_pos (.inl ⟨d0, d1⟩)])
            have y1 : (s[i + 1].toNat : Int) < 160 := by omega
            clear HR1 HR0 hb hb1
            go_enter Tryz.func144, Tryz.ntmps144
            go_wp2_with fail
            refine (HM1.out _).mono ?_; rintro e w' ⟨rfl, rfl⟩
            go_wp2_with fail
            refine (HM2.out _).mono ?_; rintro e w' ⟨rfl, rfl⟩
            go_wp2_with fail
            go_ret
            exact ⟨by rw [HR.out]; rfl, rfl⟩
          · have HR : Hid (rn = 3) := HR1.out.trans (by rw [if_neg (by omega)])
            have y1 : ¬ (s[i + 1].toNat : Int) < 160 := by omega
            have y2 : ((s[i].toNat : Int) == 237) = false := ne_bool (by omega)
            clear HR1 HR0 hb hb1
            go_enter Tryz.func144, Tryz.ntmps144
            go_wp2_with fail
            refine (HM1.out _).mono ?_; rintro e w' ⟨rfl, rfl⟩
            go_wp2_with fail
            refine (HM2.out _).mono ?_; rintro e w' ⟨rfl, rfl⟩
            go_wp2_with fail
            go_ret
            exact ⟨by rw [HR.out]; rfl, rfl⟩
        · have y0 : ((s[i].toNat : Int) == 224) = false := ne_bool (by omega)
          by_cases d2 : c = 237
          · have y2 : ((s[i].toNat : Int) == 237) = true := eq_bool (by omega)
            by_cases d3 : 159 < b1
            · have HR : Hid (rn = 0) := HR1.out.trans (by rw [if_pos (.inr ⟨d2, d3⟩)])
              have y3 : 159 < (s[i + 1].toNat : Int) := by omega
              clear HR1 HR0 hb hb1
              go_enter Tryz.func144, Tryz.ntmps144
              go_wp2_with fail
              refine (HM1.out _).mono ?_; rintro e w' ⟨rfl, rfl⟩
              go_wp2_with fail
              refine (HM2.out _).mono ?_; rintro e w' ⟨rfl, rfl⟩
              go_wp2_with fail
              go_ret
              exact ⟨by rw [HR.out]; rfl, rfl⟩
            · have HR : Hid (rn = 3) := HR1.out.trans (by rw [if_neg (by omega)])
              have y3 : ¬ 159 < (s[i + 1].toNat : Int) := by omega
              clear HR1 HR0 hb hb1
              go_enter Tryz.func144, Tryz.ntmps144
              go_wp2_with fail
              refine (HM1.out _).mono ?_; rintro e w' ⟨rfl, rfl⟩
              go_wp2_with fail
              refine (HM2.out _).mono ?_; rintro e w' ⟨rfl, rfl⟩
              go_wp2_with fail
              go_ret
              exact ⟨by rw [HR.out]; rfl, rfl⟩
          · have y2 : ((s[i].toNat : Int) == 237) = false := ne_bool (by omega)
            have HR : Hid (rn = 3) := HR1.out.trans (by rw [if_neg (by omega)])
            clear HR1 HR0 hb hb1
            go_enter Tryz.func144, Tryz.ntmps144
            go_wp2_with fail
            refine (HM1.out _).mono ?_; rintro e w' ⟨rfl, rfl⟩
            go_wp2_with fail
            refine (HM2.out _).mono ?_; rintro e w' ⟨rfl, rfl⟩
            go_wp2_with fail
            go_ret
            exact ⟨by rw [HR.out]; rfl, rfl⟩
  have x5 : ¬ (s[i].toNat : Int) ≤ 239 := by omega
  have x6 : 240 ≤ (s[i].toNat : Int) := by omega
  by_cases c5 : c ≤ 244
  · have x7 : (s[i].toNat : Int) ≤ 244 := by omega
    cases m1 with
    | false =>
      have HR : Hid (rn = 0) := HR0.out.trans (by rw [if_neg c1, if_neg (by omega), if_neg (by omega), if_neg (by simp)])
      clear HR0 hb
      go_enter Tryz.func144, Tryz.ntmps144
      go_wp2_with fail
      refine (HM1.out _).mono ?_; rintro e w' ⟨rfl, rfl⟩
      go_wp2_with fail
      go_ret
      exact ⟨by rw [HR.out]; rfl, rfl⟩
    | true =>
      have hl1 := HL1.out rfl
      have hb1 := HB1.out hl1
      cases m2 with
      | false =>
        have HR : Hid (rn = 0) := HR0.out.trans (by rw [if_neg c1, if_neg (by omega), if_neg (by omega), if_neg (by simp)])
        clear HR0 hb hb1
        go_enter Tryz.func144, Tryz.ntmps144
        go_wp2_with fail
        refine (HM1.out _).mono ?_; rintro e w' ⟨rfl, rfl⟩
        go_wp2_with fail
        refine (HM2.out _).mono ?_; rintro e w' ⟨rfl, rfl⟩
        go_wp2_with fail
        go_ret
        exact ⟨by rw [HR.out]; rfl, rfl⟩
      | true =>
        cases m3 with
        | false =>
          have HR : Hid (rn = 0) := HR0.out.trans (by rw [if_neg c1, if_neg (by omega), if_neg (by omega), if_neg (by simp)])
          clear HR0 hb hb1
          go_enter Tryz.func144, Tryz.ntmps144
          go_wp2_with fail
          refine (HM1.out _).mono ?_; rintro e w' ⟨rfl, rfl⟩
          go_wp2_with fail
          refine (HM2.out _).mono ?_; rintro e w' ⟨rfl, rfl⟩
          go_wp2_with fail
          refine (HM3.out _).mono ?_; rintro e w' ⟨rfl, rfl⟩
          go_wp2_with fail
          go_ret
          exact ⟨by rw [HR.out]; rfl, rfl⟩
        | true =>
          have HR1 := hidE (HR0.out.trans (by rw [if_neg c1, if_neg (by omega), if_neg (by omega), if_pos ⟨⟨by omega, c5⟩, rfl, rfl, rfl⟩]))
          by_cases d0 : c = 240
          · have y0 : ((s[i].toNat : Int) == 240) = true := eq_bool (by omega)
            by_cases d1 : b1 < 144
            · have HR : Hid (rn = 0) := HR1.out.trans (by rw [if_pos (.inl ⟨d0, d1⟩)])
              have y1 : (s[i + 1].toNat : Int) < 144 := by omega
              clear HR1 HR0 hb hb1
              go_enter Tryz.func144, Tryz.ntmps144
              go_wp2_with fail
              refine (HM1.out _).mono ?_; rintro e w' ⟨rfl, rfl⟩
              go_wp2_with fail
              refine (HM2.out _).mono ?_; rintro e w' ⟨rfl, rfl⟩
              go_wp2_with fail
              refine (HM3.out _).mono ?_; rintro e w' ⟨rfl, rfl⟩
              go_wp2_with fail
              go_ret
              exact ⟨by rw [HR.out]; rfl, rfl⟩
            · have HR : Hid (rn = 4) := HR1.out.trans (by rw [if_neg (by omega)])
              have y1 : ¬ (s[i + 1].toNat : Int) < 144 := by omega
              have y2 : ((s[i].toNat : Int) == 244) = false := ne_bool (by omega)
              clear HR1 HR0 hb hb1
              go_enter Tryz.func144, Tryz.ntmps144
              go_wp2_with fail
              refine (HM1.out _).mono ?_; rintro e w' ⟨rfl, rfl⟩
              go_wp2_with fail
              refine (HM2.out _).mono ?_; rintro e w' ⟨rfl, rfl⟩
              go_wp2_with fail
              refine (HM3.out _).mono ?_; rintro e w' ⟨rfl, rfl⟩
              go_wp2_with fail
              go_ret
              exact ⟨by rw [HR.out]; rfl, rfl⟩
          · have y0 : ((s[i].toNat : Int) == 240) = false := ne_bool (by omega)
            by_cases d2 : c = 244
            · have y2 : ((s[i].toNat : Int) == 244) = true := eq_bool (by omega)
              by_cases d3 : 143 < b1
              · have HR : Hid (rn = 0) := HR1.out.trans (by rw [if_pos (.inr ⟨d2, d3⟩)])
                have y3 : 143 < (s[i + 1].toNat : Int) := by omega
                clear HR1 HR0 hb hb1
                go_enter Tryz.func144, Tryz.ntmps144
                go_wp2_with fail
                refine (HM1.out _).mono ?_; rintro e w' ⟨rfl, rfl⟩
                go_wp2_with fail
                refine (HM2.out _).mono ?_; rintro e w' ⟨rfl, rfl⟩
                go_wp2_with fail
                refine (HM3.out _).mono ?_; rintro e w' ⟨rfl, rfl⟩
                go_wp2_with fail
                go_ret
                exact ⟨by rw [HR.out]; rfl, rfl⟩
              · have HR : Hid (rn = 4) := HR1.out.trans (by rw [if_neg (by omega)])
                have y3 : ¬ 143 < (s[i + 1].toNat : Int) := by omega
                clear HR1 HR0 hb hb1
                go_enter Tryz.func144, Tryz.ntmps144
                go_wp2_with fail
                refine (HM1.out _).mono ?_; rintro e w' ⟨rfl, rfl⟩
                go_wp2_with fail
                refine (HM2.out _).mono ?_; rintro e w' ⟨rfl, rfl⟩
                go_wp2_with fail
                refine (HM3.out _).mono ?_; rintro e w' ⟨rfl, rfl⟩
                go_wp2_with fail
                go_ret
                exact ⟨by rw [HR.out]; rfl, rfl⟩
            · have y2 : ((s[i].toNat : Int) == 244) = false := ne_bool (by omega)
              have HR : Hid (rn = 4) := HR1.out.trans (by rw [if_neg (by omega)])
              clear HR1 HR0 hb hb1
              go_enter Tryz.func144, Tryz.ntmps144
              go_wp2_with fail
              refine (HM1.out _).mono ?_; rintro e w' ⟨rfl, rfl⟩
              go_wp2_with fail
              refine (HM2.out _).mono ?_; rintro e w' ⟨rfl, rfl⟩
              go_wp2_with fail
              refine (HM3.out _).mono ?_; rintro e w' ⟨rfl, rfl⟩
              go_wp2_with fail
              go_ret
              exact ⟨by rw [HR.out]; rfl, rfl⟩
  have x7 : ¬ (s[i].toNat : Int) ≤ 244 := by omega
  have HR : Hid (rn = 0) := HR0.out.trans (by rw [if_neg c1, if_neg (by omega), if_neg (by omega), if_neg (by omega)])
  clear HR0 hb
  go_enter Tryz.func144, Tryz.ntmps144
  go_wp2_with fail
  go_ret
  exact ⟨by rw [HR.out]; rfl, rfl⟩
end Go.Proofs.YthfilnflgahcjaaGreatDoor

namespace Go.Proofs.YthfilnflgahcjaaGreatDoor
open Go.RowKit Go.Shelf
set_option linter.unusedVariables false

theorem byteN_getD (s : ByteArray) (i j : Nat) : ((s.data.toList.drop i).getD j 0).toNat = byteN s (i + j) := by
  unfold byteN; simp [List.getD]
theorem byteN_lt (s : ByteArray) (i : Nat) : byteN s i < 256 := (s.data.toList.getD i 0).toNat_lt
theorem moreB_iff {s : ByteArray} {i : Nat} : moreB s i = true ↔ i < s.size ∧ 128 ≤ byteN s i ∧ byteN s i ≤ 191 := by
  unfold moreB; simp

/-- A text is valid from a place on as its first rune says. -/
theorem valid_step (s : ByteArray) (i : Nat) (hi : i < s.size) :
    Lib.validD (s.data.toList.drop i) = if runeN s i = 0 then false else Lib.validD (s.data.toList.drop (i + runeN s i)) := by
  have hlen : (s.data.toList.drop i).length = s.size - i := by simp
  have hne : s.data.toList.drop i ≠ [] := by intro e; rw [e] at hlen; simp at hlen; omega
  have e0 := byteN_getD s i 0
  have e1 := byteN_getD s i 1
  have e2 := byteN_getD s i 2
  have e3 := byteN_getD s i 3
  rw [Nat.add_zero] at e0
  by_cases c1 : byteN s i < 128
  · have hr : runeN s i = 1 := by unfold runeN; rw [if_pos c1]
    rw [hr, if_neg (by omega)]
    have hd : s.data.toList.drop i = (s.data.toList.drop i).getD 0 0 :: s.data.toList.drop (i + 1) := by
      have h' : i < s.data.toList.length := by simpa using hi
      rw [List.drop_eq_getElem_cons h']; simp
    rw [hd, Lib.validD_cons _ _ (by rw [e0]; exact c1)]
  · rw [Lib.validD_lead _ hne (by rw [e0]; omega), e0, e1, e2, e3, hlen]
    have h1 := byteN_lt s i
    have hm1 := @moreB_iff s (i + 1)
    have hm2 := @moreB_iff s (i + 2)
    have hm3 := @moreB_iff s (i + 3)
    have key : Lib.checkN (s.size - i) (byteN s (i + 1)) (byteN s (i + 2)) (byteN s (i + 3)) (Lib.firstT (byteN s i) % 8) (Lib.accLo (Lib.firstT (byteN s i) / 16)) (Lib.accHi (Lib.firstT (byteN s i) / 16)) = if runeN s i = 0 then none else some (runeN s i) := by
      have HR0 : runeN s i = if byteN s i < 128 then 1
        else if (194 ≤ byteN s i ∧ byteN s i ≤ 223) ∧ moreB s (i + 1) = true then 2
        else if (224 ≤ byteN s i ∧ byteN s i ≤ 239) ∧ moreB s (i + 1) = true ∧ moreB s (i + 2) = true then
          (if (byteN s i = 224 ∧ byteN s (i + 1) < 160) ∨ (byteN s i = 237 ∧ 159 < byteN s (i + 1)) then 0 else 3)
        else if (240 ≤ byteN s i ∧ byteN s i ≤ 244) ∧ moreB s (i + 1) = true ∧ moreB s (i + 2) = true ∧ moreB s (i + 3) = true then
          (if (byteN s i = 240 ∧ byteN s (i + 1) < 144) ∨ (byteN s i = 244 ∧ 143 < byteN s (i + 1)) then 0 else 4)
        else 0 := rfl
      rw [if_neg c1] at HR0
      simp only [hm1, hm2, hm3] at HR0
      generalize runeN s i = rn at *
      generalize byteN s (i + 1) = b1 at *
      generalize byteN s (i + 2) = b2 at *
      generalize byteN s (i + 3) = b3 at *
      generalize byteN s i = c at *
      clear hm1 hm2 hm3 e0 e1 e2 e3 hne hlen
      by_cases c2 : c < 194
      · have hf : Lib.firstT c = 241 := by unfold Lib.firstT; rw [if_neg c1, if_pos c2]
        have hr : rn = 0 := HR0.trans (by rw [if_neg (by omega), if_neg (by omega), if_neg (by omega)])
        rw [hf, hr]; rfl
      by_cases c3 : c ≤ 223
      · have hf : Lib.firstT c = 2 := by unfold Lib.firstT; rw [if_neg c1, if_neg c2, if_pos (by omega)]
        rw [hf]
        show (if s.size - i < 2 ∨ b1 < 128 ∨ 191 < b1 then none else some 2) = _
        by_cases hm : i + 1 < s.size ∧ 128 ≤ b1 ∧ b1 ≤ 191
        · have hr : rn = 2 := HR0.trans (by rw [if_pos ⟨⟨by omega, c3⟩, hm⟩])
          rw [if_neg (by omega), hr]; rfl
        · have hr : rn = 0 := HR0.trans (by rw [if_neg (fun h => hm h.2), if_neg (by omega), if_neg (by omega)])
          rw [if_pos (by omega), hr]; rfl
      by_cases c4 : c ≤ 239
      · have fin : ∀ lo hi, (lo = (if c = 224 then 160 else 128)) → (hi = (if c = 237 then 159 else 191)) → (if s.size - i < 3 ∨ b1 < lo ∨ hi < b1 ∨ b2 < 128 ∨ 191 < b2 then none else some 3) = (if rn = 0 then none else some rn) := by
          intro lo hi hlo hhi
          by_cases hm : (i + 1 < s.size ∧ 128 ≤ b1 ∧ b1 ≤ 191) ∧ (i + 2 < s.size ∧ 128 ≤ b2 ∧ b2 ≤ 191)
          · have h1 := HR0.trans (by rw [if_neg (by omega), if_pos ⟨⟨by omega, c4⟩, hm⟩])
            by_cases hx : (c = 224 ∧ b1 < 160) ∨ (c = 237 ∧ 159 < b1)
            · rw [if_pos hx] at h1
              rw [if_pos (by subst hlo hhi; rcases hx with ⟨e, h⟩ | ⟨e, h⟩; (rw [if_pos e]; omega); (rw [if_pos e]; omega)), h1]; rfl
            · rw [if_neg hx] at h1
              rw [if_neg (by subst hlo hhi; intro hh; split at hh <;> split at hh <;> omega), h1]; rfl
          · have h1 : rn = 0 := HR0.trans (by rw [if_neg (by omega), if_neg (fun h => hm h.2), if_neg (by omega)])
            rw [if_pos (by subst hlo hhi; split <;> split <;> omega), h1]; rfl
        by_cases d0 : c = 224
        · have hf : Lib.firstT c = 19 := by subst d0; rfl
          rw [hf]; exact fin 160 191 (by rw [if_pos d0]) (by rw [if_neg (by omega)])
        by_cases d1 : c = 237
        · have hf : Lib.firstT c = 35 := by subst d1; rfl
          rw [hf]; exact fin 128 159 (by rw [if_neg (by omega)]) (by rw [if_pos d1])
        · have hf : Lib.firstT c = 3 := by unfold Lib.firstT; split <;> (try omega) <;> (repeat (first | rfl | omega | split))
          rw [hf]; exact fin 128 191 (by rw [if_neg d0]) (by rw [if_neg d1])
      by_cases c5 : c ≤ 244
      · have fin : ∀ lo hi, (lo = (if c = 240 then 144 else 128)) → (hi = (if c = 244 then 143 else 191)) → (if s.size - i < 4 ∨ b1 < lo ∨ hi < b1 ∨ b2 < 128 ∨ 191 < b2 ∨ b3 < 128 ∨ 191 < b3 then none else some 4) = (if rn = 0 then none else some rn) := by
          intro lo hi hlo hhi
          by_cases hm : (i + 1 < s.size ∧ 128 ≤ b1 ∧ b1 ≤ 191) ∧ (i + 2 < s.size ∧ 128 ≤ b2 ∧ b2 ≤ 191) ∧ (i + 3 < s.size ∧ 128 ≤ b3 ∧ b3 ≤ 191)
          · have h1 := HR0.trans (by rw [if_neg (by omega), if_neg (by omega), if_pos ⟨⟨by omega, c5⟩, hm⟩])
            by_cases hx : (c = 240 ∧ b1 < 144) ∨ (c = 244 ∧ 143 < b1)
            · rw [if_pos hx] at h1
              rw [if_pos (by subst hlo hhi; rcases hx with ⟨e, h⟩ | ⟨e, h⟩; (rw [if_pos e]; omega); (rw [if_pos e]; omega)), h1]; rfl
            · rw [if_neg hx] at h1
              rw [if_neg (by subst hlo hhi; intro hh; split at hh <;> split at hh <;> omega), h1]; rfl
          · have h1 : rn = 0 := HR0.trans (by rw [if_neg (by omega), if_neg (by omega), if_neg (fun h => hm h.2)])
            rw [if_pos (by subst hlo hhi; split <;> split <;> omega), h1]; rfl
        by_cases d0 : c = 240
        · have hf : Lib.firstT c = 52 := by subst d0; rfl
          rw [hf]; exact fin 144 191 (by rw [if_pos d0]) (by rw [if_neg (by omega)])
        by_cases d1 : c = 244
        · have hf : Lib.firstT c = 68 := by subst d1; rfl
          rw [hf]; exact fin 128 143 (by rw [if_neg (by omega)]) (by rw [if_pos d1])
        · have hf : Lib.firstT c = 4 := by unfold Lib.firstT; split <;> (try omega) <;> (repeat (first | rfl | omega | split))
          rw [hf]; exact fin 128 191 (by rw [if_neg d0]) (by rw [if_neg d1])
      · have hf : Lib.firstT c = 241 := by unfold Lib.firstT; split <;> (try omega) <;> (repeat (first | rfl | omega | split))
        have hr : rn = 0 := HR0.trans (by rw [if_neg (by omega), if_neg (by omega), if_neg (by omega)])
        rw [hf, hr]; rfl
    rw [key]
    by_cases hz : runeN s i = 0
    · rw [if_pos hz, if_pos hz]
    · rw [if_neg hz, if_neg hz]
      show Lib.validD (List.drop (runeN s i) (List.drop i s.data.toList)) = _
      rw [List.drop_drop]

theorem runeN_le {s : ByteArray} {i : Nat} (hi : i < s.size) : i + runeN s i ≤ s.size := by
  unfold runeN
  have hm1 := @moreB_iff s (i + 1)
  have hm2 := @moreB_iff s (i + 2)
  have hm3 := @moreB_iff s (i + 3)
  split
  · omega
  · split
    · rename_i h; have := hm1.1 h.2; omega
    · split
      · rename_i h; have := hm2.1 h.2.2; split <;> omega
      · split
        · rename_i h; have := hm3.1 h.2.2.2; split <;> omega
        · omega

set_option maxHeartbeats 1000000 in
theorem utf_any (s : ByteArray) (w : World) (hs : s.size ≤ 140737488355328) :
    Calls Tryz.prog 119 #[.string s] w fun e w' => e = .returned (.bool (Lib.validD s.data.toList)) ∧ w' = w := by
  go_enter Tryz.func119, Tryz.ntmps119
  go_wp2_with fail
  go_loop [3] (fun i => ∃ j : Nat, j ≤ s.size ∧ i = .int .i64 j ∧ Lib.validD (s.data.toList.drop j) = Lib.validD s.data.toList) (fun i => s.size - (intOf i).toNat)
  case atStart => exact ⟨0, Nat.zero_le _, rfl, rfl⟩
  case round =>
    obtain ⟨j, hj, rfl, hv⟩ := hrel
    have HV := hidE hv
    clear hv
    by_cases hlt : j < s.size
    · have HST := hidE (valid_step s j hlt)
      have HC := hidE (rune_any s j w hs hlt)
      have hle := runeN_le hlt
      generalize runeN s j = rn at *
      go_wp2_with fail
      refine HC.out.mono ?_
      rintro e w1 ⟨rfl, rfl⟩
      by_cases h0 : rn = 0
      · have h0' : ((rn : Int) == 0) = true := beq_iff_eq.2 (by omega)
        have HF : Hid (Lib.validD s.data.toList = false) := by
          have := HST.out
          rw [if_pos h0, HV.out] at this
          exact this
        clear h0
        go_wp2_with fail
        go_ret
        exact ⟨by rw [HF.out]; rfl, rfl⟩
      · have h0' : ((rn : Int) == 0) = false := beq_eq_false_iff_ne.2 (by omega)
        have HF : Hid (Lib.validD (s.data.toList.drop (j + rn)) = Lib.validD s.data.toList) := by
          have := HST.out
          rw [if_neg h0, HV.out] at this
          exact this.symm
        go_wp2_with fail
        go_round
        case rel => exact ⟨j + rn, hle, by go_num, HF.out⟩
        case measure => simp [intOf]; omega
    · have HF : Hid (Lib.validD s.data.toList = true) := by
        have := HV.out
        rw [List.drop_of_length_le (by simp; omega)] at this
        exact this.symm
      go_wp2_with fail
      go_ret
      exact ⟨by rw [HF.out]; rfl, rfl⟩
end Go.Proofs.YthfilnflgahcjaaGreatDoor

namespace Go.Proofs.YthfilnflgahcjaaGreatDoor
open Go.RowKit Go.Shelf
set_option linter.unusedVariables false
set_option linter.unusedSimpArgs false
theorem run_append_nothing {w : World} {base t ty e size c : Nat} {i : TypeInfo} (ht : Tryz.prog.underlying t = some (.slice e)) (hi : Tryz.prog.info? e = some i) (v : Value) (n : Nat) (xs : List Value) (hown : w.ownsRow base e size v n xs) :
    (Builtin.append_ #[t, t] ty #[v, .slice none 0 c]).run Tryz.prog w = .ok v w := by
  rcases hown.2 with ⟨rfl, rfl⟩ | ⟨g, cap, cur, rfl, _, _, hnc, _⟩
  · simp [Builtin.append_, run_underlying ht, sizeOf, typeInfo, hi, Builtin.lenOf, Builtin.firstCells]
  · simp [Builtin.append_, run_underlying ht, sizeOf, typeInfo, hi, Builtin.lenOf, Builtin.firstCells, hnc, storeCells]
theorem append_many {α : Type} {t e ty k bytes base B : Nat} {z : Value} (hE : ElemIs t e k bytes z) {enc : α → List Value} (hk : ∀ x, (enc x).length = k) (h1 : ∀ x, ∀ u ∈ enc x, u.oneCell' = true) {v vs : Value} {xs ys : List α} {w : World} (hown : ORow e k enc base w v xs) (hs : SRow k enc B w vs ys) (hn : xs.length + ys.length ≤ 1000000) (hb : base ≤ w.heap.size) :
    ∃ v' w', (Builtin.append_ #[t, t] ty #[v, vs]).run Tryz.prog w = .ok v' w' ∧ ORow e k enc base w' v' (xs ++ ys) ∧ Below base w w' ∧ (∀ g, some g ≠ v.ownBlock → g < w.heap.size → w'.heap[g]? = w.heap[g]?) := by
  obtain ⟨ht, i0, hi, hz, hsize, hby, hzs, hk0, hbb⟩ := hE
  obtain ⟨a, c, rfl, l1, l2, hc⟩ := hs
  cases a with
  | none =>
    have hy : ys = [] := by
      rcases hc with hc | ⟨bl, off, e1, _⟩
      · exact hc
      · cases e1
    subst hy
    refine ⟨v, w, run_append_nothing ht hi v _ _ hown, by simpa using hown, Below.refl _ _, fun _ _ _ => rfl⟩
  | some ad =>
    have hlen : ((ys.map enc).flatten).length = ys.length * k := by
      rw [sflat_len (k := k) (ys.map enc) (fun c hc => by obtain ⟨y, _, rfl⟩ := List.mem_map.1 hc; exact hk y), List.length_map]
    obtain ⟨v', w', q1, q2, q3, _⟩ := run_append_own (P := Tryz.prog) (w := w) base t ty e i0 z k bytes ht hi hz hsize hby hzs hk0 v xs.length _ hown ad ys.length c ((ys.map enc).flatten) hlen (fun j u hu => by
      rcases hc with hc | ⟨bl, off, e1, hbl, hcell⟩
      · subst hc; simp at hu
      · obtain rfl := Option.some.inj e1
        have hadd : (⟨bl, off, none⟩ : Addr).add j = ⟨bl, off + j, none⟩ := by unfold Addr.add; split <;> simp_all
        rw [hadd]
        have hj : j < ys.length * k := by rw [← hlen]; exact (List.getElem?_eq_some_iff.1 hu).1
        obtain ⟨q, r, hqr, hr⟩ : ∃ q r, j = q * k + r ∧ r < k := ⟨j / k, j % k, by rw [Nat.mul_comm]; exact (Nat.div_add_mod j k).symm, Nat.mod_lt _ hk0⟩
        subst hqr
        have hq : q < ys.length := by
          rcases Nat.lt_or_ge q ys.length with h | h
          · exact h
          · have := Nat.mul_le_mul_right k h; omega
        have e2 := sflat_at (ys.map enc) q r (enc ys[q]) (fun c hc => by obtain ⟨y, _, rfl⟩ := List.mem_map.1 hc; exact hk y) (by rw [List.getElem?_map, List.getElem?_eq_getElem hq]; rfl) hr
        rw [e2] at hu
        have := hcell q ys[q] (List.getElem?_eq_getElem hq) r u hu
        rw [← Nat.add_assoc]; exact this) (fun u hu => by
      obtain ⟨cs, h2, h3⟩ := List.mem_flatten.1 hu
      obtain ⟨y, _, rfl⟩ := List.mem_map.1 h2
      exact h1 y u h3) (by unfold maxLen; omega) (Nat.le_trans (Nat.mul_le_mul hn hbb) (by decide)) hb
    refine ⟨v', w', q1, ?_, (Below.refl base w).grown q3 hb fun q h => (hown.lt q h).1, fun g hg hl => q3.block g hl hg⟩
    unfold ORow
    rw [List.length_append, List.map_append, List.flatten_append]
    exact q2
/-- A row that was just made. -/
theorem orow_new {α : Type} {e k base : Nat} {enc : α → List Value} (hk : ∀ x, (enc x).length = k) (w : World) (xs : List α) (cs : Array Value) (hcs : cs.toList = (xs.map enc).flatten) (hl : xs.length ≤ 1000000) (hb : base ≤ w.heap.size) :
    ORow e k enc base (w.alloc (.cells cs e)) (.slice (some ⟨w.heap.size, 0, none⟩) xs.length xs.length) xs := by
  unfold ORow
  rw [← hcs]
  refine World.ownsRow_lit w cs xs.length hb (by unfold maxLen; omega) ?_
  rw [← Array.length_toList, hcs, sflat_len (k := k) (xs.map enc) (fun c hc => by obtain ⟨y, _, rfl⟩ := List.mem_map.1 hc; exact hk y), List.length_map]
/-- The first ones of a row. -/
theorem SRow.take {α : Type} {k : Nat} {enc : α → List Value} {B : Nat} {w : World} {a : Option Addr} {l c : Nat} {xs ys : List α} (h : SRow k enc B w (.slice a l c) (xs ++ ys)) : SRow k enc B w (.slice a xs.length c) xs := by
  obtain ⟨a0, c0, e1, h2, h3, h4⟩ := h
  injection e1 with q1 q2 q3
  subst q1 q3
  rw [List.length_append] at h2
  refine ⟨a, c, rfl, by omega, h3, ?_⟩
  rcases h4 with h4 | ⟨bl, off, e2, hl, hc⟩
  · left; exact (List.append_eq_nil_iff.1 h4).1
  · right; exact ⟨bl, off, e2, hl, fun i x hx j u hu => hc i x (by rw [List.getElem?_append_left (List.getElem?_eq_some_iff.1 hx).1]; exact hx) j u hu⟩
end Go.Proofs.YthfilnflgahcjaaGreatDoor

