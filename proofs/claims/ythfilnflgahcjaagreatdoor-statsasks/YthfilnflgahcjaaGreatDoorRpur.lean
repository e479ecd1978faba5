/- What is reckoned of one row: the program's and the reference's are the same. -/
import Derived.Test.YthfilnflgahcjaaGreatDoorJoin30
import Derived.Test.YthfilnflgahcjaaGreatDoorSfp
namespace Go.Proofs.YthfilnflgahcjaaGreatDoor
open Go.RowKit Go.Shelf
set_option linter.unusedVariables false
set_option linter.unusedSimpArgs false
theorem goFirst_one {R K : Type} [DecidableEq K] (key : R → K) (k : K) : ∀ rows : List R, goFirst key rows [k] = match rows.find? (fun r => decide (key r = k)) with | some r => ([r], []) | none => ([], [k])
  | [] => rfl
  | r :: rs => by
    rw [goFirst, if_neg (by simp)]
    by_cases h : key r = k
    · rw [if_pos (by simp [h])]
      have hd : delS (key r) [k] = [] := by simp [delS, h]
      rw [hd, goFirst_none, List.find?_cons_of_pos (by simp [h])]
    · rw [if_neg (by simp [h]), goFirst_one key k rs, List.find?_cons_of_neg (by simp [h])]
theorem firsts_get {R K : Type} [DecidableEq K] (key : R → K) (zero : R) (rows : List R) (k : K) : firstsL key zero rows [k] = [(rows.find? (fun r => decide (key r = k))).getD zero] := by
  have hp : [k].foldl putS [] = [k] := by simp [putS]
  unfold firstsL
  rw [hp, goFirst_one]
  cases rows.find? (fun r => decide (key r = k)) <;> simp
theorem findF_find {R : Type} (p : R → Prop) [DecidablePred p] (f : R → Int) : ∀ rows : List R, findF p f rows = match rows.find? (fun r => decide (p r)) with | some r => f r | none => 0
  | [] => rfl
  | r :: rs => by
    unfold findF
    by_cases h : p r
    · rw [if_pos h, List.find?_cons_of_pos (by simp [h])]
    · rw [if_neg h, findF_find p f rs, List.find?_cons_of_neg (by simp [h])]
theorem share_zero : shareI 0 0 = 0 := by decide
theorem plus_single (n : Int) : plusI [n] = cutI n := by
  have h0 := cutI_nonneg n
  have h1 := cutI_le n
  unfold plusI plusF plusF
  split <;> omega
theorem seek_same (s : StatP) (lab key : ByteArray) : rseekI s lab key = seekI s lab key := by
  unfold rseekI seekI
  rw [firsts_get, findF_find]
  have e : (fun r : KeyR => decide (r.1 = lab ∧ r.2.1 = key)) = fun r => decide (keyK r = (lab, key, 0, 0)) := by
    funext r
    apply decide_eq_decide.2
    unfold keyK
    simp
  rw [e]
  cases s.keys.find? (fun r => decide (keyK r = (lab, key, 0, 0))) with
  | none => exact share_zero.symm
  | some r => rfl
theorem ended_same (s : StatP) (kind lab : ByteArray) (out : Bool) : rendI s kind lab out = endedI s lab out [kind] := by
  unfold rendI endedI
  rw [List.map_cons, List.map_nil, firsts_get, findF_find]
  have e : (fun r : EndR => decide (r.1 = kind ∧ r.2.1 = lab ∧ r.2.2.1 = out)) = fun r => decide (endK r = (kind, lab, out, 0)) := by
    funext r
    apply decide_eq_decide.2
    unfold endK
    simp
  rw [e]
  cases s.ends.find? (fun r => decide (endK r = (kind, lab, out, 0))) with
  | none => show (0 : Int) = plusI [0]; rw [plus_single]; rfl
  | some r => show cutI r.2.2.2 = plusI [r.2.2.2]; rw [plus_single]
end Go.Proofs.YthfilnflgahcjaaGreatDoor
