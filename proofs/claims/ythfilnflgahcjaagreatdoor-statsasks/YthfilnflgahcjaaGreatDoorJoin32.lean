/- What types tell: the program's and the reference's are the same. What From tells: the program's and the reference's are the same. -/
import Derived.Test.YthfilnflgahcjaaGreatDoorRpu2
import Derived.Test.YthfilnflgahcjaaGreatDoorJoin31
import Derived.Test.YthfilnflgahcjaaGreatDoorSfrom
namespace Go.Proofs.YthfilnflgahcjaaGreatDoor
open Go.RowKit Go.Shelf Go.Maps
set_option linter.unusedVariables false
set_option linter.unusedSimpArgs false
/-- Together, however great. -/
def sumW {α : Type} (f : α → Int) : List α → Int
  | [] => 0
  | x :: l => f x + sumW f l
theorem sumW_app {α : Type} (f : α → Int) : ∀ (a b : List α), sumW f (a ++ b) = sumW f a + sumW f b
  | [], b => by simp [sumW]
  | x :: a, b => by rw [List.cons_append, sumW, sumW, sumW_app f a b]; omega
theorem sumW_nn {α : Type} {f : α → Int} (h : ∀ x, 0 ≤ f x) : ∀ l : List α, 0 ≤ sumW f l
  | [] => Int.le_refl _
  | x :: l => by have := h x; have := sumW_nn h l; rw [sumW]; omega
theorem sumW_rep {α : Type} {f : α → Int} {z : α} (h : f z = 0) : ∀ n : Nat, sumW f (List.replicate n z) = 0
  | 0 => rfl
  | n + 1 => by rw [List.replicate_succ, sumW, sumW_rep h n, h]; rfl
theorem sumW_map {α β : Type} (f : β → Int) (g : α → β) : ∀ l : List α, sumW f (l.map g) = sumW (fun x => f (g x)) l
  | [] => rfl
  | x :: l => by rw [List.map_cons, sumW, sumW, sumW_map f g l]
theorem plusF_sum : ∀ (l : List Int) (t : Int), 0 ≤ t → t ≤ 4611686018427387904 → plusF t l = if 4611686018427387904 < t + sumW cutI l then 4611686018427387904 else t + sumW cutI l
  | [], t, h0, h1 => by
    have e : sumW cutI [] = 0 := rfl
    rw [plusF, e, if_neg (by omega)]; omega
  | n :: r, t, h0, h1 => by
    have h2 := cutI_nonneg n
    have h3 := cutI_le n
    have h4 := sumW_nn cutI_nonneg r
    rw [plusF, plusF_sum r _ (by split <;> omega) (by split <;> omega), sumW]
    generalize cutI n = c at *
    generalize sumW cutI r = S at *
    by_cases a : 4611686018427387904 - t < c
    · rw [if_pos a, if_pos (show 4611686018427387904 < t + (c + S) by omega)]
      by_cases b : 4611686018427387904 < t + (4611686018427387904 - t) + S
      · rw [if_pos b]
      · rw [if_neg b]; omega
    · rw [if_neg a, show t + (c + S) = t + c + S by omega]
theorem plus_sum {a b : List Int} (h : sumW cutI a = sumW cutI b) : plusI a = plusI b := by
  unfold plusI
  rw [plusF_sum a 0 (by decide) (by decide), plusF_sum b 0 (by decide) (by decide), h]
section
variable {R K : Type} [DecidableEq K]
theorem sumW_del (f : K → Int) {k : K} : ∀ {l : List K}, k ∈ l → sumW f l = f k + sumW f (delS k l)
  | [], h => by cases h
  | a :: r, h => by
    rw [delS]
    by_cases e : a = k
    · rw [if_pos e, sumW, e]
    · rw [if_neg e, sumW, sumW, sumW_del f (l := r) (by rcases List.mem_cons.1 h with rfl | h; exact absurd rfl e; exact h)]; omega
theorem sumW_congr {α : Type} {f g : α → Int} : ∀ {l : List α}, (∀ x ∈ l, f x = g x) → sumW f l = sumW g l
  | [], _ => rfl
  | x :: l, h => by rw [sumW, sumW, h x List.mem_cons_self, sumW_congr fun y hy => h y (List.mem_cons_of_mem _ hy)]
/-- What a key's row tells. -/
def tellK (key : R → K) (g : R → Int) (rows : List R) (k : K) : Int := match getF key rows k with | some r => g r | none => 0
theorem goFirst_sum (key : R → K) (g : R → Int) : ∀ (rows : List R) (left : List K), left.Nodup → sumW g (goFirst key rows left).1 = sumW (tellK key g rows) left
  | [], left, _ => by
    rw [goFirst]
    have : ∀ l : List K, sumW (tellK key g []) l = 0 := fun l => by
      induction l with
      | nil => rfl
      | cons a r ih => rw [sumW, ih]; rfl
    rw [this]; rfl
  | r :: rs, left, hn => by
    rw [goFirst]
    by_cases h0 : left = []
    · rw [if_pos h0]; subst h0; rfl
    · rw [if_neg h0]
      by_cases hm : key r ∈ left
      · rw [if_pos hm]
        show g r + sumW g (goFirst key rs (delS (key r) left)).1 = _
        rw [goFirst_sum key g rs _ (delS_nodup hn _), sumW_del _ hm]
        have e1 : tellK key g (r :: rs) (key r) = g r := by unfold tellK; rw [getF_cons, if_pos rfl]
        rw [e1, sumW_congr (f := tellK key g (r :: rs)) (g := tellK key g rs) fun x hx => by
          have := ((mem_delS hn).1 hx).2
          unfold tellK
          rw [getF_cons, if_neg (fun e : key r = x => this e.symm)]]
      · rw [if_neg hm, goFirst_sum key g rs left hn]
        exact (sumW_congr fun x hx => by
          unfold tellK
          rw [getF_cons, if_neg (fun e : key r = x => hm (e ▸ hx))]).symm
theorem firsts_sum (key : R → K) (g : R → Int) (zero : R) (hz : g zero = 0) (rows : List R) (keys : List K) : sumW g (firstsL key zero rows keys) = sumW (tellK key g rows) (keys.foldl putS []) := by
  unfold firstsL
  rw [sumW_app, sumW_rep hz, goFirst_sum key g rows _ (puts_nodup keys [] List.nodup_nil)]
  omega
end
theorem rhas_mem (x : ByteArray) (l : List ByteArray) : rhasB x l = true ↔ x ∈ l := by
  unfold rhasB
  rw [List.any_eq_true]
  constructor
  · rintro ⟨y, hy, e⟩
    have := of_decide_eq_true e
    subst this; exact hy
  · intro h
    exact ⟨x, h, decide_eq_true rfl⟩
/-- Of each text the first time that it comes. -/
theorem each_once (h : ByteArray → Int) (f : ByteArray → List Int) (hf : ∀ x, sumW cutI (f x) = h x) (T : List ByteArray → List ByteArray → List Int) (hT0 : ∀ pre, T pre [] = []) (hT : ∀ pre x l, T pre (x :: l) = (if rhasB x pre = true then [] else f x) ++ T (pre ++ [x]) l) :
    ∀ (keys pre acc : List ByteArray), (∀ x, x ∈ acc ↔ x ∈ pre) → sumW h (keys.foldl putS acc) = sumW h acc + sumW cutI (T pre keys)
  | [], pre, acc, _ => by rw [hT0]; simp [sumW]
  | k :: l, pre, acc, hm => by
    rw [List.foldl_cons, hT, sumW_app]
    by_cases hk : k ∈ acc
    · have e1 : putS acc k = acc := by unfold putS; rw [if_pos hk]
      rw [e1, if_pos ((rhas_mem k pre).2 ((hm k).1 hk)), each_once h f hf T hT0 hT l (pre ++ [k]) acc (fun x => by
        rw [hm x, List.mem_append, List.mem_singleton]
        constructor
        · exact .inl
        · rintro (h | rfl)
          · exact h
          · exact (hm x).1 hk)]
      simp [sumW]
    · have e1 : putS acc k = acc ++ [k] := by unfold putS; rw [if_neg hk]
      rw [e1, if_neg (fun e => hk ((hm k).2 ((rhas_mem k pre).1 e))), each_once h f hf T hT0 hT l (pre ++ [k]) (acc ++ [k]) (fun x => by rw [List.mem_append, List.mem_append, hm x]), sumW_app, hf k]
      simp only [sumW]
      omega
theorem rowT_sum (x : ByteArray) : ∀ ts : List (ByteArray × Int), sumW cutI (rowT x ts) = tellK Prod.fst (fun r => cutI r.2) ts x
  | [] => rfl
  | r :: l => by
    unfold rowT tellK
    rw [getF_cons]
    by_cases e : r.1 = x
    · rw [if_pos e, if_pos e]; show cutI r.2 + 0 = cutI r.2; omega
    · rw [if_neg e, if_neg e]; exact rowT_sum x l
theorem typed_same (s : StatP) (ls : List ByteArray) : rtypedI s ls = typedI s ls := by
  unfold rtypedI typedI
  split
  · rfl
  · refine plus_sum ?_
    rw [sumW_map, firsts_sum Prod.fst (fun r : ByteArray × Int => cutI r.2) _ rfl, each_once _ (fun x => rowT x s.types) (fun x => rowT_sum x s.types) (typedL s.types) (fun _ => rfl) (fun _ _ _ => rfl) ls [] [] (fun _ => Iff.rfl)]
    simp [sumW]
theorem fan_same (s : StatP) (dir : Int) (ls : List ByteArray) : rfanI s dir ls = fanI s dir ls := by
  unfold rfanI fanI
  rw [typed_same]
  have h0 : Fits (typedI s ls) := by
    unfold typedI
    split
    · exact cut_fits _
    · exact plus_fits _
  have e1 : timesI (typedI s ls) 2 = plusI [typedI s ls, typedI s ls] := by
    rw [plus_two, cut_same h0]
    unfold timesI
    rw [cut_same h0, show cutI 2 = 2 from rfl, show typedI s ls * 2 = typedI s ls + typedI s ls by omega]
  have e2 : ∀ a, shareI a (cutI s.nodes) = shareI a s.nodes := fun a => by
    unfold shareI
    rw [cut_same (cut_fits s.nodes)]
  rw [e1, e2]
end Go.Proofs.YthfilnflgahcjaaGreatDoor

namespace Go.Proofs.YthfilnflgahcjaaGreatDoor
open Go.RowKit Go.Shelf Go.Maps
set_option linter.unusedVariables false
set_option linter.unusedSimpArgs false
/-- What one type adds. -/
def fromE (s : StatP) (lab : ByteArray) (dir : Int) (x : ByteArray) : List Int := (if 0 ≤ dir then [rendI s x lab true] else []) ++ (if dir ≤ 0 then [rendI s x lab false] else [])
/-- Each type's, once. -/
def fromL (s : StatP) (lab : ByteArray) (dir : Int) (pre : List ByteArray) : List ByteArray → List Int
  | [] => []
  | x :: l => (if rhasB x pre = true then [] else fromE s lab dir x) ++ fromL s lab dir (pre ++ [x]) l
theorem fromL_at {s : StatP} {lab : ByteArray} {dir : Int} {l : List ByteArray} {x : ByteArray} {j : Nat} (h : l[j]? = some x) : fromL s lab dir (l.take j) (l.drop j) = (if rhasB x (l.take j) = true then [] else fromE s lab dir x) ++ fromL s lab dir (l.take (j + 1)) (l.drop (j + 1)) := by
  obtain ⟨hj, hx⟩ := List.getElem?_eq_some_iff.1 h
  rw [List.drop_eq_getElem_cons hj, hx, List.take_add_one, h]
  rfl
def rfromI (s : StatP) (lab : ByteArray) (dir : Int) (ts : List ByteArray) : Int := shareI (plusI (fromL s lab dir [] (if ts = [] then s.types.map (fun x => x.1) else ts))) (rlabelledI s [lab])
def capI (n : Int) : Int := if 4611686018427387904 < n then 4611686018427387904 else n
theorem plus_cap (l : List Int) : plusI l = capI (sumW cutI l) := by
  unfold plusI capI
  rw [plusF_sum l 0 (by decide) (by decide), Int.zero_add]
theorem cap_add {a b : Int} (ha : 0 ≤ a) (hb : 0 ≤ b) : capI (capI a + capI b) = capI (a + b) := by
  unfold capI
  by_cases h1 : 4611686018427387904 < a
  · rw [if_pos h1, if_pos (show 4611686018427387904 < a + b by omega)]
    by_cases h2 : 4611686018427387904 < b
    · rw [if_pos h2, if_pos (by omega)]
    · rw [if_neg h2]
      by_cases h3 : 4611686018427387904 < 4611686018427387904 + b
      · rw [if_pos h3]
      · rw [if_neg h3]; omega
  · rw [if_neg h1]
    by_cases h2 : 4611686018427387904 < b
    · rw [if_pos h2, if_pos (show 4611686018427387904 < a + b by omega)]
      by_cases h3 : 4611686018427387904 < a + 4611686018427387904
      · rw [if_pos h3]
      · rw [if_neg h3]; omega
    · rw [if_neg h2]
theorem cap_fits {n : Int} (h : 0 ≤ n) : Fits (capI n) := by
  unfold capI Fits
  by_cases h1 : 4611686018427387904 < n
  · rw [if_pos h1]; omega
  · rw [if_neg h1]; omega
theorem puts_map {α β : Type} [DecidableEq α] [DecidableEq β] (g : α → β) (hg : ∀ x y, g x = g y → x = y) : ∀ (l acc : List α), (l.map g).foldl putS (acc.map g) = (l.foldl putS acc).map g
  | [], acc => rfl
  | x :: l, acc => by
    rw [List.map_cons, List.foldl_cons, List.foldl_cons, ← puts_map g hg l (putS acc x)]
    congr 1
    unfold putS
    by_cases h : x ∈ acc
    · rw [if_pos h, if_pos (List.mem_map_of_mem h)]
    · rw [if_neg h, if_neg (fun e => by
        obtain ⟨y, hy, e⟩ := List.mem_map.1 e
        exact h (hg _ _ e ▸ hy)), List.map_append, List.map_cons, List.map_nil]
theorem rend_get (s : StatP) (x lab : ByteArray) (out : Bool) : tellK endK (fun r : EndR => cutI r.2.2.2) s.ends (x, lab, out, 0) = cutI (rendI s x lab out) := by
  rw [ended_same]
  unfold endedI tellK getF
  rw [List.map_cons, List.map_nil, firsts_get]
  cases List.find? (fun r => decide (endK r = (x, lab, out, 0))) s.ends with
  | none => show (0 : Int) = cutI (plusI [0]); rw [plus_one]; rfl
  | some r => show cutI r.2.2.2 = cutI (plusI [r.2.2.2]); rw [plus_one, cut_same (cut_fits _)]
/-- All that begins (or ends), however much. -/
def endS (s : StatP) (lab : ByteArray) (T : List ByteArray) (out : Bool) : Int := sumW (fun x => cutI (rendI s x lab out)) (T.foldl putS [])
theorem ended_sum (s : StatP) (lab : ByteArray) (T : List ByteArray) (out : Bool) : endedI s lab out T = capI (endS s lab T out) := by
  unfold endedI endS
  rw [plus_cap, sumW_map, firsts_sum endK (fun r : EndR => cutI r.2.2.2) _ rfl]
  have e := puts_map (fun t : ByteArray => ((t, lab, out, 0) : EndR)) (fun x y h => by injection h) T []
  rw [List.map_nil] at e
  rw [e, sumW_map]
  congr 1
  exact sumW_congr fun x _ => rend_get s x lab out
theorem sumW_add {α : Type} (f g : α → Int) : ∀ l : List α, sumW (fun x => f x + g x) l = sumW f l + sumW g l
  | [] => rfl
  | x :: l => by simp only [sumW]; rw [sumW_add f g l]; omega
theorem fromL_sum (s : StatP) (lab : ByteArray) (dir : Int) (T : List ByteArray) : sumW cutI (fromL s lab dir [] T) = (if 0 ≤ dir then endS s lab T true else 0) + (if dir ≤ 0 then endS s lab T false else 0) := by
  have h := each_once (fun x => (if 0 ≤ dir then cutI (rendI s x lab true) else 0) + (if dir ≤ 0 then cutI (rendI s x lab false) else 0)) (fromE s lab dir) (fun x => by
    unfold fromE
    rw [sumW_app]
    by_cases d1 : 0 ≤ dir <;> by_cases d2 : dir ≤ 0 <;> simp [d1, d2, sumW]) (fromL s lab dir) (fun _ => rfl) (fun _ _ _ => rfl) T [] [] (fun _ => Iff.rfl)
  have h2 : sumW cutI (fromL s lab dir [] T) = sumW (fun x => (if 0 ≤ dir then cutI (rendI s x lab true) else 0) + (if dir ≤ 0 then cutI (rendI s x lab false) else 0)) (T.foldl putS []) := by rw [h]; simp [sumW]
  have hz : ∀ l : List ByteArray, sumW (fun _ => (0 : Int)) l = 0 := fun l => by
    induction l with
    | nil => rfl
    | cons a r ih => rw [sumW, ih]; rfl
  rw [h2, sumW_add]
  unfold endS
  by_cases d1 : 0 ≤ dir <;> by_cases d2 : dir ≤ 0 <;> simp [d1, d2, hz]
theorem endS_nn (s : StatP) (lab : ByteArray) (T : List ByteArray) (out : Bool) : 0 ≤ endS s lab T out := sumW_nn (fun _ => cutI_nonneg _) _
theorem plus_zero {e : Int} (h : Fits e) : plusI [0, e] = e := by
  rw [plus_two, show cutI 0 = 0 from rfl, cut_same h, Int.zero_add, if_neg (by have := h.2; omega)]
theorem from_same (s : StatP) (lab : ByteArray) (dir : Int) (ls : List ByteArray) : rfromI s lab dir ls = fromI s lab dir ls := by
  unfold rfromI fromI
  rw [labelled_same]
  generalize (if ls = [] then s.types.map (fun x => x.1) else ls) = T
  show shareI (plusI (fromL s lab dir [] T)) (labelledI s [lab]) = shareI (if dir ≤ 0 then plusI [if 0 ≤ dir then plusI [0, endedI s lab true T] else 0, endedI s lab false T] else (if 0 ≤ dir then plusI [0, endedI s lab true T] else 0)) (labelledI s [lab])
  congr 1
  rw [plus_cap, fromL_sum, ended_sum, ended_sum]
  have n1 := endS_nn s lab T true
  have n2 := endS_nn s lab T false
  generalize endS s lab T true = A at *
  generalize endS s lab T false = C at *
  by_cases d1 : 0 ≤ dir
  · by_cases d2 : dir ≤ 0
    · rw [if_pos d1, if_pos d2, if_pos d2, if_pos d1, plus_zero (cap_fits n1), plus_cap]
      simp only [sumW]
      rw [cut_same (cap_fits n1), cut_same (cap_fits n2), Int.add_zero, cap_add n1 n2]
    · rw [if_pos d1, if_neg d2, if_neg d2, if_pos d1, plus_zero (cap_fits n1), Int.add_zero]
  · have d2 : dir ≤ 0 := by omega
    rw [if_neg d1, if_pos d2, if_pos d2, if_neg d1, plus_zero (cap_fits n2), Int.zero_add]
end Go.Proofs.YthfilnflgahcjaaGreatDoor

