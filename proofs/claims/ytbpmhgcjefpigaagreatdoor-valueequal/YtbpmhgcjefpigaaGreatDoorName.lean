/- Name, at keys in which the sign itself does not stand. -/
import Derived.Test.YtbpmhgcjefpigaaGreatDoorTell0
import Derived.Test.YtbpmhgcjefpigaaGreatDoorShelf2
namespace Go.Proofs.YtbpmhgcjefpigaaGreatDoor
open Go.RowKit Go.Shelf
set_option linter.unusedVariables false

theorem replace_in (s : ByteArray) (h : Lib.countByte s.data.toList 96 = 0) (w : World) :
    Calls Tryz.prog 107 #[.string s, .string ⟨#[96]⟩, .string ⟨#[96, 96]⟩, .int .i64 (-1)] w fun e w' => e = .returned (.string s) ∧ w' = w := by
  have HC := hidE (Tryz.strings_Count_one s 96 w)
  rw [h] at HC
  have hne : ((⟨#[96]⟩ : ByteArray).toList == (⟨#[96, 96]⟩ : ByteArray).toList) = false := by rw [ByteArray.toList_eq, ByteArray.toList_eq]; decide
  go_enter Tryz.func107, Tryz.ntmps107
  go_wp2_with fail
  refine HC.out.mono ?_
  rintro e _ ⟨rfl, rfl⟩
  go_wp2_with fail
  go_ret
  exact ⟨rfl, rfl⟩
theorem replace_all (s : ByteArray) (h : Lib.countByte s.data.toList 96 = 0) (w : World) :
    Calls Tryz.prog 84 #[.string s, .string ⟨#[96]⟩, .string ⟨#[96, 96]⟩] w fun e w' => e = .returned (.string s) ∧ w' = w := by
  have HC := hidE (replace_in s h w)
  go_enter Tryz.func84, Tryz.ntmps84
  go_wp2_with fail
  refine HC.out.mono ?_
  rintro e _ ⟨rfl, rfl⟩
  go_wp2_with fail
  go_ret
  exact ⟨rfl, rfl⟩

/-- A key as it is told. -/
def nameB (s : ByteArray) : ByteArray := if bareB s then s else ⟨#[96]⟩ ++ s ++ ⟨#[96]⟩
theorem name_any (s : ByteArray) (hs : s.size ≤ 4611686018427387904) (hv : Lib.validD s.data.toList = true) (h : Lib.countByte s.data.toList 96 = 0) (w : World) (hT : Tabs w) :
    Calls Tryz.prog 45 #[.string s] w fun e w' => e = .returned (.string (nameB s)) ∧ Below w.heap.size w w' := by
  have hs' : s.size ≤ maxLen := by unfold maxLen; omega
  have z1 : ¬ 9223372036854775807 < 1 + s.size := by omega
  have z2 : ¬ 9223372036854775807 < 1 + s.size + 1 := by omega
  have HV := hidE (valid_any s w hs' hT)
  rw [hv] at HV
  go_enter Tryz.func45, Tryz.ntmps45
  go_wp2_with fail
  refine HV.out.mono ?_
  rintro e w1 ⟨rfl, hb⟩
  have HB := hidE hb
  have HC := hidE (bare_any s hs' w1)
  have HR := hidE (replace_all s h w1)
  clear hb hT hs hs' h HV
  go_wp2_with fail
  refine HC.out.mono ?_
  rintro e _ ⟨rfl, rfl⟩
  cases hb : bareB s with
  | true =>
    have HN : Hid (nameB s = s) := by show _ = _; unfold nameB; rw [if_pos hb]
    clear hb
    go_wp2_with fail
    go_ret
    exact ⟨by rw [HN.out]; rfl, HB.out⟩
  | false =>
    have HN : Hid (nameB s = ⟨#[96]⟩ ++ s ++ ⟨#[96]⟩) := by show _ = _; unfold nameB; rw [if_neg (by simp [hb])]
    clear hb
    go_wp2_with fail
    refine HR.out.mono ?_
    rintro e _ ⟨rfl, rfl⟩
    go_wp2_with fail
    go_ret
    exact ⟨by rw [HN.out]; rfl, HB.out⟩
end Go.Proofs.YtbpmhgcjefpigaaGreatDoor
