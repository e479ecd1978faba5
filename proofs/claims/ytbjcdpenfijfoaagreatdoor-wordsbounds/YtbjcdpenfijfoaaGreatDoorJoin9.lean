/- What is read at the bounds: points alone, names of 64 and 65 letters, numbers of 2^63 and one more. A row of points, made place by place. -/
import Derived.Test.YtbjcdpenfijfoaaGreatDoorBack0
namespace Go.Proofs.YtbjcdpenfijfoaaGreatDoor
open Go.RowKit Go.Shelf Go.Lexed
set_option linter.unusedVariables false
set_option linter.unusedSimpArgs false
/-- A point. -/
def pointW (i : Nat) : W4 := ⟨5, i, bsOf [46], 0⟩
def points (n : Nat) : ByteArray := bsOf (List.replicate n 46)
theorem points_size (n : Nat) : (points n).size = n := by unfold points; rw [bsOf_size, List.length_replicate]
theorem points_read (n : Nat) : lexO (points n) = none ∧ lw (points n) = (List.range n).map pointW := by
  have e : suf (points n) 0 = List.replicate n 46 := bsOf_list _
  have h := lex_points Lib.validD n
  refine ⟨?_, ?_⟩
  · unfold lexO; rw [e, h]
  · unfold lw lexP lexQ
    rw [e, h, points_size]
    simp only [List.map_map]
    refine List.map_congr_left fun i hi => ?_
    rw [List.mem_range] at hi
    simp only [Function.comp, toW4, pointW, W4.mk.injEq, true_and, and_true]
    refine ⟨rfl, by omega, rfl⟩
theorem point_wd (i : Nat) : (pointW i).wd = ⟨5, [46], 0⟩ := by unfold pointW W4.wd; rw [bsOf_list]; rfl
theorem tail_points (k : Nat) : (tailW (List.replicate k ⟨5, [46], 0⟩)).length = 2 * k := by
  induction k with
  | zero => rfl
  | succ k ih =>
    have e : tailW (List.replicate (k + 1) ⟨5, [46], 0⟩) = 32 :: 46 :: tailW (List.replicate k ⟨5, [46], 0⟩) := by
      rw [List.replicate_succ]; simp [tailW, tellW]
    rw [e]; simp; omega
/-- Points told: two bytes each, but for the last. -/
theorem print_points (n k : Nat) (hk : k + 1 ≤ n) : (printW ((((List.range n).map pointW).take (k + 1)).map W4.wd)).length = 2 * k + 1 := by
  have e : (((List.range n).map pointW).take (k + 1)).map W4.wd = List.replicate (k + 1) ⟨5, [46], 0⟩ := by
    rw [List.eq_replicate_iff]
    refine ⟨by simp; omega, fun d hd => ?_⟩
    obtain ⟨x, hx, rfl⟩ := List.mem_map.1 hd
    obtain ⟨i, _, rfl⟩ := List.mem_map.1 (List.mem_of_mem_take hx)
    exact point_wd i
  rw [e, List.replicate_succ, printW]
  have := tail_points k
  simp only [tellW, List.length_append]
  simp
  omega
theorem points_may (n k : Nat) : ((((List.range n).map pointW).take k).all fun x => mayW Lib.validD x.wd) = true := by
  rw [List.all_eq_true]
  intro x hx
  obtain ⟨i, _, rfl⟩ := List.mem_map.1 (List.mem_of_mem_take hx)
  rw [point_wd]
  decide
theorem points_fine (n k : Nat) : ∀ x ∈ ((List.range n).map pointW).take k, 0 ≤ x.n ∧ x.n < 18446744073709551616 ∧ x.t.size ≤ 1000000000 := by
  intro x hx
  obtain ⟨i, _, rfl⟩ := List.mem_map.1 (List.mem_of_mem_take hx)
  unfold pointW
  simp only
  rw [bsOf_size]
  decide
/-- So many letters. -/
def asL (n : Nat) : List UInt8 := List.replicate n 97
set_option maxRecDepth 10000 in
theorem as_name : bareB (asL 64) = true ∧ nameOk Lib.validD (asL 64) = true ∧ nameOk Lib.validD (asL 65) = false := by
  refine ⟨by decide, by decide, by decide⟩
def bndT : List UInt8 := asL 64 ++ [32, 96] ++ asL 64 ++ [96, 32, 57, 50, 50, 51, 51, 55, 50, 48, 51, 54, 56, 53, 52, 55, 55, 53, 56, 48, 56]
theorem dec_step {u q r : Nat} (h : u = 10 * q + r) (hr : r < 10) (hq : 1 ≤ q) : Lib.decDigits u = Lib.decDigits q ++ [UInt8.ofNat (48 + r)] := by
  rw [Lib.decDigits, dif_neg (by omega), show u / 10 = q by omega, show u % 10 = r by omega]
theorem dec_one' {u : Nat} (h : u < 10) : Lib.decDigits u = [UInt8.ofNat (48 + u)] := by rw [Lib.decDigits, dif_pos h]
theorem dec_big : Lib.decDigits 9223372036854775808 = [57, 50, 50, 51, 51, 55, 50, 48, 51, 54, 56, 53, 52, 55, 55, 53, 56, 48, 56] := by
  rw [dec_step (u := 9223372036854775808) (q := 922337203685477580) (r := 8) (by omega) (by omega) (by omega)]
  rw [dec_step (u := 922337203685477580) (q := 92233720368547758) (r := 0) (by omega) (by omega) (by omega)]
  rw [dec_step (u := 92233720368547758) (q := 9223372036854775) (r := 8) (by omega) (by omega) (by omega)]
  rw [dec_step (u := 9223372036854775) (q := 922337203685477) (r := 5) (by omega) (by omega) (by omega)]
  rw [dec_step (u := 922337203685477) (q := 92233720368547) (r := 7) (by omega) (by omega) (by omega)]
  rw [dec_step (u := 92233720368547) (q := 9223372036854) (r := 7) (by omega) (by omega) (by omega)]
  rw [dec_step (u := 9223372036854) (q := 922337203685) (r := 4) (by omega) (by omega) (by omega)]
  rw [dec_step (u := 922337203685) (q := 92233720368) (r := 5) (by omega) (by omega) (by omega)]
  rw [dec_step (u := 92233720368) (q := 9223372036) (r := 8) (by omega) (by omega) (by omega)]
  rw [dec_step (u := 9223372036) (q := 922337203) (r := 6) (by omega) (by omega) (by omega)]
  rw [dec_step (u := 922337203) (q := 92233720) (r := 3) (by omega) (by omega) (by omega)]
  rw [dec_step (u := 92233720) (q := 9223372) (r := 0) (by omega) (by omega) (by omega)]
  rw [dec_step (u := 9223372) (q := 922337) (r := 2) (by omega) (by omega) (by omega)]
  rw [dec_step (u := 922337) (q := 92233) (r := 7) (by omega) (by omega) (by omega)]
  rw [dec_step (u := 92233) (q := 9223) (r := 3) (by omega) (by omega) (by omega)]
  rw [dec_step (u := 9223) (q := 922) (r := 3) (by omega) (by omega) (by omega)]
  rw [dec_step (u := 922) (q := 92) (r := 2) (by omega) (by omega) (by omega)]
  rw [dec_step (u := 92) (q := 9) (r := 2) (by omega) (by omega) (by omega)]
  rw [dec_one' (u := 9) (by omega)]
  rfl
theorem as_dbl (n : Nat) : ((asL n).map dblC).flatten = asL n := by
  induction n with
  | zero => rfl
  | succ n ih =>
    unfold asL at ih ⊢
    rw [List.replicate_succ, List.map_cons, List.flatten_cons, ih]
    rfl
theorem bnd_print : printW [⟨1, asL 64, 0⟩, ⟨2, asL 64, 0⟩, ⟨4, [], 9223372036854775808⟩] = bndT := by
  have e4 : tellW ⟨4, [], 9223372036854775808⟩ = [57, 50, 50, 51, 51, 55, 50, 48, 51, 54, 56, 53, 52, 55, 55, 53, 56, 48, 56] := by
    unfold tellW
    rw [if_neg (by decide), if_neg (by decide), if_pos rfl]
    exact dec_big
  have e2 : ∀ A : List UInt8, tellW ⟨2, A, 0⟩ = 96 :: ((A.map dblC).flatten ++ [96]) := fun A => rfl
  have e1 : ∀ A : List UInt8, tellW ⟨1, A, 0⟩ = A := fun A => rfl
  unfold bndT
  rw [printW]
  unfold tailW
  rw [List.map_cons, List.map_cons, List.map_nil, List.flatten_cons, List.flatten_cons, List.flatten_nil, e1, e2, e4, as_dbl]
  generalize asL 64 = A
  simp
/-- Three words at the bounds. -/
theorem bnd_read : lexO (bsOf bndT) = none ∧ (lw (bsOf bndT)).map W4.wd = [⟨1, asL 64, 0⟩, ⟨2, asL 64, 0⟩, ⟨4, [], 9223372036854775808⟩] := by
  have hm : ∀ d ∈ [(⟨1, asL 64, 0⟩ : Wd), ⟨2, asL 64, 0⟩, ⟨4, [], 9223372036854775808⟩], mayW Lib.validD d = true := by
    obtain ⟨h1, h2, _⟩ := as_name
    intro d hd
    simp only [List.mem_cons, List.not_mem_nil, or_false] at hd
    rcases hd with rfl | rfl | rfl
    · simp [mayW, h1, h2]
    · simp [mayW, h2]
    · decide
  have h := lex_print Lib.validD _ hm
  rw [bnd_print] at h
  have e : suf (bsOf bndT) 0 = bndT := bsOf_list _
  refine ⟨?_, ?_⟩
  · unfold lexO; rw [e]; exact h.2
  · rw [lw_wd, e]; exact h.1
/-- A point, a blank, and what can't be read. -/
theorem point_then (c : UInt8) (r : List UInt8) (hB : isB c = false) (h47 : c ≠ 47) (hw : wordB Lib.validD (c :: r) = none) : lexB Lib.validD (46 :: 32 :: c :: r) = ([(⟨5, [46], 0⟩, r.length + 3)], some (r.length + 1)) := by
  have h1 : skipB (46 :: 32 :: c :: r) = (46 :: 32 :: c :: r, true) := skip_stay (by decide) (fun h => absurd h (by decide))
  have h2 : wordB Lib.validD (46 :: 32 :: c :: r) = some (⟨5, [46], 0⟩, 32 :: c :: r) := by simp [wordB, isL, isD, signB, oneB, twoB]
  have h3 : skipB (32 :: c :: r) = (c :: r, true) := (skip_blank (by decide) _).trans (skip_stay hB (fun h => absurd h h47))
  rw [lex_of Lib.validD h1 (by simp) h2, lex_none Lib.validD h3 (by simp) hw]
  simp
set_option maxRecDepth 10000 in
theorem bad_name : lexO (bsOf ([46, 32] ++ asL 64 ++ [97])) = some 65 := by
  have e : suf (bsOf ([46, 32] ++ asL 64 ++ [97])) 0 = 46 :: 32 :: 97 :: asL 64 := (bsOf_list _).trans (by decide)
  unfold lexO
  rw [e, point_then 97 (asL 64) (by decide) (by decide) (by decide)]
  rfl
set_option maxRecDepth 10000 in
theorem bad_num : lexO (bsOf [46, 32, 57, 50, 50, 51, 51, 55, 50, 48, 51, 54, 56, 53, 52, 55, 55, 53, 56, 48, 57]) = some 19 := by
  have e : suf (bsOf [46, 32, 57, 50, 50, 51, 51, 55, 50, 48, 51, 54, 56, 53, 52, 55, 55, 53, 56, 48, 57]) 0 = 46 :: 32 :: 57 :: [50, 50, 51, 51, 55, 50, 48, 51, 54, 56, 53, 52, 55, 55, 53, 56, 48, 57] := bsOf_list _
  unfold lexO
  rw [e, point_then 57 _ (by decide) (by decide) (by decide)]
  rfl
set_option maxRecDepth 10000 in
theorem bad_quot : lexO (bsOf ([46, 32, 96] ++ asL 64 ++ [97, 96])) = some 67 := by
  have e : suf (bsOf ([46, 32, 96] ++ asL 64 ++ [97, 96])) 0 = 46 :: 32 :: 96 :: (asL 64 ++ [97, 96]) := (bsOf_list _).trans (by decide)
  unfold lexO
  rw [e, point_then 96 _ (by decide) (by decide) (by decide)]
  rfl
set_option maxRecDepth 100000 in
theorem res_two : resB [100, 101, 115, 99, 101, 110, 100, 105, 110, 103] = true ∧ resB [65, 115, 99, 101, 110, 100, 105, 110, 103] = true := by
  refine ⟨by decide, by decide⟩
end Go.Proofs.YtbjcdpenfijfoaaGreatDoor

namespace Go.Proofs.YtbjcdpenfijfoaaGreatDoor
open Go.RowKit Go.Shelf Go.Lexed
set_option linter.unusedVariables false
set_option linter.unusedSimpArgs false
/-- The first places of a row hold points. -/
def RowIs (w : World) (g N j : Nat) : Prop := ∃ cs : Array Value, w.heap[g]? = some (.cells cs 5 (0, 0)) ∧ cs.size = N ∧ ∀ q, q < j → cs[q]? = some (.int .u8 46)
theorem RowIs.cell {w : World} {g N j q : Nat} (h : RowIs w g N j) (hq : q < N) : ∃ v, w.cell? ⟨g, q, none⟩ = some v ∧ w.frozen? ⟨g, q, none⟩ = false := by
  obtain ⟨cs, h1, h2, _⟩ := h
  have hq' : q < cs.size := by omega
  refine ⟨cs[q], ?_, ?_⟩
  · simp [World.cell?, h1, hq']
  · simp [World.frozen?, h1]
theorem RowIs.lt {w : World} {g N j : Nat} (h : RowIs w g N j) : g < w.heap.size := by
  obtain ⟨cs, h1, _⟩ := h
  exact (Array.getElem?_eq_some_iff.1 h1).1
theorem RowIs.keep {w w' : World} {g N j : Nat} (h : RowIs w g N j) (e : w'.heap[g]? = w.heap[g]?) : RowIs w' g N j := by
  obtain ⟨cs, h1, h2⟩ := h
  exact ⟨cs, e.trans h1, h2⟩
theorem RowIs.put {w : World} {g N j : Nat} (h : RowIs w g N j) (hj : j < N) : RowIs (w.setCell ⟨g, j, none⟩ (.int .u8 46)) g N (j + 1) := by
  have hl := h.lt
  obtain ⟨cs, h1, h2, h3⟩ := h
  have e : w.heap[g] = .cells cs 5 (0, 0) := by
    rw [Array.getElem?_eq_getElem hl] at h1; exact Option.some.inj h1
  refine ⟨cs.setIfInBounds j (.int .u8 46), ?_, by simpa using h2, fun q hq => ?_⟩
  · simp [World.setCell, hl, Array.getElem_modify, e]
  · rw [Array.getElem?_setIfInBounds]
    by_cases hqj : j = q
    · subst hqj; simp; omega
    · rw [if_neg hqj]; exact h3 q (by omega)
/-- The text of the first places. -/
theorem RowIs.text {w : World} {g N j : Nat} (h : RowIs w g N j) (cap : Nat) : (convert 49 9 (.slice (some ⟨g, 0, none⟩) j cap)).run Tryz.prog w = .ok (.string (points j)) w := by
  obtain ⟨cs, h1, h2, h3⟩ := h
  have := run_convert_bytes_back (P := Tryz.prog) w 49 9 5 ⟨g, 0, none⟩ cap (List.replicate j (46 : UInt8)) Tryz.underlying49 Tryz.underlying5 Tryz.underlying9 (fun q hq => by
    simp only [List.length_replicate] at hq
    have hadd : (⟨g, 0, none⟩ : Addr).add q = ⟨g, q, none⟩ := by unfold Addr.add; split <;> simp_all
    rw [hadd]
    have h4 := h3 q hq
    have hq' : q < cs.size := (Array.getElem?_eq_some_iff.1 h4).1
    have h5 : cs[q] = .int .u8 46 := (Array.getElem?_eq_some_iff.1 h4).2
    simp [World.cell?, h1, hq', h5])
  rw [List.length_replicate] at this
  exact this
theorem RowIs.less {w : World} {g N j k : Nat} (h : RowIs w g N j) (hk : k ≤ j) : RowIs w g N k := by
  obtain ⟨cs, h1, h2, h3⟩ := h
  exact ⟨cs, h1, h2, fun q hq => h3 q (by omega)⟩
end Go.Proofs.YtbjcdpenfijfoaaGreatDoor

