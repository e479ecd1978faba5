/- What is reckoned is from 0 to 2^62, and how it goes together (pure). -/
import Derived.Test.YthfilnflgahcjaaGreatDoorSwk
import Derived.Test.YthfilnflgahcjaaGreatDoorStim
namespace Go.Proofs.YthfilnflgahcjaaGreatDoor
open Go.RowKit Go.Shelf Go.Maps
set_option linter.unusedVariables false
set_option linter.unusedSimpArgs false
def Fits (n : Int) : Prop := 0 ≤ n ∧ n ≤ 4611686018427387904
theorem fits_true {n : Int} (h : Fits n) : fitsB n = true := by simp [fitsB, h.1, h.2]
theorem cut_fits (n : Int) : Fits (cutI n) := ⟨cutI_nonneg n, cutI_le n⟩
theorem cut_same {n : Int} (h : Fits n) : cutI n = n := by
  obtain ⟨h1, h2⟩ := h
  unfold cutI
  split
  · omega
  · split <;> omega
theorem plusF_fits : ∀ (l : List Int) {t : Int}, Fits t → Fits (plusF t l)
  | [], t, h => h
  | n :: r, t, h => by
    rw [plusF]
    refine plusF_fits r ?_
    have h1 := cutI_nonneg n
    obtain ⟨h2, h3⟩ := h
    split <;> constructor <;> omega
theorem plus_fits (l : List Int) : Fits (plusI l) := plusF_fits l ⟨by decide, by decide⟩
theorem plus_one (x : Int) : plusI [x] = cutI x := by
  have h1 := cutI_le x
  simp only [plusI, plusF]
  split <;> omega
theorem plus_two (x y : Int) : plusI [x, y] = if 4611686018427387904 < cutI x + cutI y then 4611686018427387904 else cutI x + cutI y := by
  have h1 := cutI_le x
  have h2 := cutI_le y
  have h3 := cutI_nonneg x
  have h4 := cutI_nonneg y
  simp only [plusI, plusF]
  split <;> split <;> split <;> omega
theorem plus_comm (x y : Int) : plusI [x, y] = plusI [y, x] := by
  rw [plus_two, plus_two, Int.add_comm]
theorem plus_most (x y : Int) : plusI [x] ≤ plusI [x, y] ∧ plusI [y] ≤ plusI [x, y] := by
  have h1 := cutI_le x
  have h2 := cutI_le y
  have h3 := cutI_nonneg x
  have h4 := cutI_nonneg y
  rw [plus_one, plus_one, plus_two]
  split <;> constructor <;> omega
theorem least_iff {x : Int} : ∀ {L : List (ByteArray × Int)} {t : Int}, x ≤ leastF t L ↔ x ≤ t ∧ ∀ r ∈ L, x ≤ cutI r.2
  | [], t => by simp [leastF]
  | p :: r, t => by
    rw [leastF, least_iff]
    simp only [List.mem_cons, forall_eq_or_imp]
    split
    · constructor
      · rintro ⟨h1, h2⟩; exact ⟨by omega, h1, h2⟩
      · rintro ⟨h1, h2, h3⟩; exact ⟨h2, h3⟩
    · constructor
      · rintro ⟨h1, h2⟩; exact ⟨h1, by omega, h2⟩
      · rintro ⟨h1, h2, h3⟩; exact ⟨h1, h3⟩
theorem mem_delS_of {k x : ByteArray} : ∀ {l : List ByteArray}, x ∈ l → x ≠ k → x ∈ delS k l
  | a :: r, h, hx => by
    rw [delS]
    split
    · rename_i e
      exact (List.mem_cons.1 h).resolve_left (fun e2 => hx (e2.trans e))
    · rcases List.mem_cons.1 h with rfl | h
      · exact List.mem_cons_self
      · exact List.mem_cons_of_mem _ (mem_delS_of h hx)
theorem goFirst_sub {key : ByteArray × Int → ByteArray} {x : ByteArray} : ∀ (rows : List (ByteArray × Int)) (left : List ByteArray), x ∈ left → (∀ r ∈ (goFirst key rows [x]).1, r ∈ (goFirst key rows left).1) ∧ ((goFirst key rows [x]).2 ≠ [] → (goFirst key rows left).2 ≠ [])
  | [], left, h => by
    refine ⟨fun r hr => by simp [goFirst] at hr, fun _ e => ?_⟩
    simp only [goFirst] at e
    rw [e] at h; simp at h
  | r :: rs, left, h => by
    have hne : left ≠ [] := fun e => by rw [e] at h; simp at h
    rw [goFirst, goFirst, if_neg (by simp : ¬ [x] = []), if_neg hne]
    by_cases hx : key r = x
    · have e1 : key r ∈ [x] := by rw [hx]; exact List.mem_singleton_self x
      have e2 : key r ∈ left := by rw [hx]; exact h
      rw [if_pos e1, if_pos e2]
      have e3 : delS (key r) [x] = [] := by rw [hx]; simp [delS]
      rw [e3, goFirst_none]
      refine ⟨fun q hq => ?_, fun hq => absurd rfl hq⟩
      simp only [List.mem_singleton] at hq
      rw [hq]; exact List.mem_cons_self
    · have e1 : key r ∉ [x] := fun e => hx (List.mem_singleton.1 e)
      rw [if_neg e1]
      split
      · rename_i hm
        have hd : x ∈ delS (key r) left := mem_delS_of h (fun e => hx e.symm)
        obtain ⟨i1, i2⟩ := goFirst_sub rs (delS (key r) left) hd
        exact ⟨fun q hq => List.mem_cons_of_mem _ (i1 q hq), i2⟩
      · exact goFirst_sub rs left h
theorem firsts_sub {x : ByteArray} {ls : List ByteArray} (h : x ∈ ls) (rows : List (ByteArray × Int)) : ∀ r ∈ firstsL Prod.fst (⟨#[]⟩, 0) rows [x], r ∈ firstsL Prod.fst (⟨#[]⟩, 0) rows ls := by
  intro r hr
  have hx : x ∈ ls.foldl putS [] := (puts_mem ls [] x).2 (.inr h)
  have h1 : ([x] : List ByteArray).foldl putS [] = [x] := by simp [putS]
  obtain ⟨i1, i2⟩ := goFirst_sub (key := Prod.fst) rows _ hx
  unfold firstsL at hr ⊢
  rw [h1] at hr
  rcases List.mem_append.1 hr with hr | hr
  · exact List.mem_append_left _ (i1 r hr)
  · refine List.mem_append_right _ ?_
    obtain ⟨h2, rfl⟩ := List.mem_replicate.1 hr
    refine List.mem_replicate.2 ⟨fun e => ?_, rfl⟩
    exact i2 (fun e => h2 (by rw [e]; rfl)) (List.length_eq_zero_iff.1 e)
theorem labelled_fits (s : StatP) (ls : List ByteArray) : Fits (labelledI s ls) := by
  constructor
  · exact least_iff.2 ⟨cutI_nonneg _, fun r _ => cutI_nonneg _⟩
  · exact Int.le_trans (least_iff.1 (Int.le_refl _)).1 (cutI_le _)
theorem labelled_all (s : StatP) (ls : List ByteArray) : labelledI s ls ≤ cutI s.nodes := (least_iff.1 (Int.le_refl _)).1
theorem labelled_each (s : StatP) {ls : List ByteArray} {x : ByteArray} (h : x ∈ ls) : labelledI s ls ≤ labelledI s [x] := by
  obtain ⟨h1, h2⟩ := least_iff.1 (Int.le_refl (labelledI s ls))
  exact least_iff.2 ⟨h1, fun r hr => h2 r (firsts_sub h s.labels r hr)⟩
theorem typed_fits (s : StatP) (ts : List ByteArray) : Fits (typedI s ts) := by
  unfold typedI
  split
  · exact cut_fits _
  · exact plus_fits _
/-- What a number is shared by. -/
def by1 (b : Int) : Int := if cutI b < 1 then 1 else cutI b
theorem by1_pos (b : Int) : 1 ≤ by1 b := by unfold by1; split <;> omega
theorem share_parts (a b : Int) : by1 b * shareI a b + (cutI a + (by1 b - 1)) % by1 b = cutI a + (by1 b - 1) ∧ 0 ≤ (cutI a + (by1 b - 1)) % by1 b ∧ (cutI a + (by1 b - 1)) % by1 b < by1 b := by
  have h := by1_pos b
  refine ⟨?_, Int.emod_nonneg _ (by omega), Int.emod_lt_of_pos _ (by omega)⟩
  have := Int.mul_ediv_add_emod (cutI a + (by1 b - 1)) (by1 b)
  exact this
theorem share_fits (a b : Int) : Fits (shareI a b) := by
  have h := by1_pos b
  have ha := cutI_nonneg a
  have hm := cutI_le a
  have h0 : 0 ≤ shareI a b := Int.ediv_nonneg (by show 0 ≤ cutI a + (by1 b - 1); omega) (by show 0 ≤ by1 b; omega)
  refine ⟨h0, ?_⟩
  obtain ⟨h1, h2, h3⟩ := share_parts a b
  by_cases h4 : shareI a b < 1
  · omega
  · have h5 : by1 b + shareI a b ≤ by1 b * shareI a b + 1 := by
      have h6 : 0 ≤ (by1 b - 1) * (shareI a b - 1) := Int.mul_nonneg (by omega) (by omega)
      rw [Int.sub_mul, Int.mul_sub, Int.mul_one, Int.one_mul] at h6
      omega
    omega
theorem seek_fits (s : StatP) (l k : ByteArray) : Fits (seekI s l k) := by
  unfold seekI
  split
  · exact share_fits _ _
  · exact ⟨by decide, by decide⟩
theorem times_fits (a b : Int) : Fits (timesI a b) := by
  have h := Int.mul_nonneg (cutI_nonneg a) (cutI_nonneg b)
  unfold timesI
  split
  · exact ⟨by decide, by decide⟩
  · exact ⟨h, by omega⟩
theorem times_comm (a b : Int) : timesI a b = timesI b a := by unfold timesI; rw [Int.mul_comm]
theorem times_1 (a : Int) : timesI a 1 = plusI [a] := by
  have h := cutI_le a
  rw [plus_one]
  unfold timesI
  rw [show cutI 1 = 1 from rfl, Int.mul_one, if_neg (by omega)]
/-- The greater of 1 and a number, as it is cut. -/
def at1 (y : Int) : Int := if 1 < y then y else 1
theorem at1_by (y : Int) : cutI (at1 y) = by1 y := by
  unfold at1 by1 cutI
  split <;> split <;> (try split) <;> (try split) <;> (try split) <;> omega
theorem share_back (x y : Int) : plusI [x] ≤ timesI (shareI x y) (at1 y) := by
  rw [plus_one]
  unfold timesI
  rw [at1_by, cut_same (share_fits x y)]
  obtain ⟨h1, h2, h3⟩ := share_parts x y
  have hm := cutI_le x
  rw [Int.mul_comm] at h1
  split <;> omega
theorem share_less (x y : Int) (h : 0 < shareI x y) : timesI (shareI x y - 1) (at1 y) < plusI [x] := by
  rw [plus_one]
  obtain ⟨f1, f2⟩ := share_fits x y
  unfold timesI
  rw [at1_by, cut_same (n := shareI x y - 1) ⟨by omega, by omega⟩]
  obtain ⟨h1, h2, h3⟩ := share_parts x y
  have hm := cutI_le x
  have h4 : (shareI x y - 1) * by1 y = by1 y * shareI x y - by1 y := by rw [Int.sub_mul, Int.one_mul, Int.mul_comm]
  rw [h4]
  split <;> omega
end Go.Proofs.YthfilnflgahcjaaGreatDoor
