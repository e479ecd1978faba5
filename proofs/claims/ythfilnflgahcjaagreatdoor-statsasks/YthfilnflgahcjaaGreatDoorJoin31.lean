/- The reference's Fan. What types tell: the program's and the reference's are the same. What From tells: the program's and the reference's are the same. The walk of a region that draws its order, where a call that leaves the world as it is counts as a read. -/
import Derived.Test.YthfilnflgahcjaaGreatDoorJoin30
import Derived.Test.YthfilnflgahcjaaGreatDoorRtim
import Derived.Test.YthfilnflgahcjaaGreatDoorSfrom
import Derived.Test.YthfilnflgahcjaaGreatDoorJoin2
namespace Go.Proofs.YthfilnflgahcjaaGreatDoor
open Go.RowKit Go.Shelf Go.Maps
set_option linter.unusedVariables false
set_option linter.unusedSimpArgs false
attribute [local go_sem] Oper.semAt_some
def rfanI (s : StatP) (dir : Int) (ts : List ByteArray) : Int := shareI (if dir = 0 then timesI (rtypedI s ts) 2 else rtypedI s ts) s.nodes
set_option maxRecDepth 100000 in
set_option maxHeartbeats 4000000 in
theorem rfan_any (s : StatP) (vl vt ve vk vs : Value) (dir : Int) (ls : List ByteArray) (B : Nat) (w : World) (hB : B ≤ w.heap.size) (h : StatL B w vl vt ve vk s) (hs : SRow 1 strE B w vs ls) (hok : ∀ x ∈ ls, okS x) (hl : ls.length ≤ 100000) : Calls Tryz.prog 27 #[statV s vl vt ve vk, .int .i64 dir, vs] w fun e w' => e = .returned (.int .i64 (rfanI s dir ls)) ∧ Below w.heap.size w w' := by
  have HT : Hid (∀ W, Below w.heap.size w W → Calls Tryz.prog 21 #[statV s vl vt ve vk, vs] W fun e w' => e = .returned (.int .i64 (rtypedI s ls)) ∧ Below W.heap.size W w') := fun W hb => rtyped_any s vl vt ve vk vs ls B W (Nat.le_trans hB hb.size) (h.keep (hb.mono hB)) (hs.keep (hb.mono hB)) hok hl
  unfold rfanI
  generalize rtypedI s ls = t at *
  obtain ⟨la, lc, rfl, _⟩ := h.hl
  obtain ⟨ta, tc, rfl, _⟩ := h.ht
  obtain ⟨ea, ec, rfl, _⟩ := h.he
  obtain ⟨ka, kc, rfl, _⟩ := h.hk
  obtain ⟨sa, sc, rfl, _⟩ := hs
  unfold statV at *
  generalize s.nodes = n at *
  generalize s.rels = r at *
  generalize s.labels.length = l1 at *
  generalize s.types.length = l2 at *
  generalize s.ends.length = l3 at *
  generalize s.keys.length = l4 at *
  generalize ls.length = l5 at *
  clear h hok hl
  obtain ⟨res, hres⟩ : ∃ r, shareI (if dir = 0 then timesI t 2 else t) n = r := ⟨_, rfl⟩
  rw [hres]
  have HR := hidE hres
  clear hres
  go_enter Tryz.func27, Tryz.ntmps27
  go_upto_region 1 with fail
  have HW0 := hidE (below_new w (.cells #[.int .i64 n, .int .i64 r, .slice la l1 lc, .slice ta l2 tc, .slice ea l3 ec, .slice ka l4 kc] 33))
  have HX0 := hidE (sbox_new w (.int .i64 n) (.int .i64 r) (.slice la l1 lc) (.slice ta l2 tc) (.slice ea l3 ec) (.slice ka l4 kc) 33)
  generalize w.alloc (.cells #[.int .i64 n, .int .i64 r, .slice la l1 lc, .slice ta l2 tc, .slice ea l3 ec, .slice ka l4 kc] 33) = W1 at *
  obtain ⟨_, e0, e1, e2, e3, e4, e5⟩ := HX0.out
  go_upto_region 2 with (go_at_call 21; refine (HT.out _ HW0.out).mono ?_; rintro e W2 ⟨rfl, hb2⟩; have HB2 := hidE (Below.on HW0.out hb2); have HX2 := hidE (HX0.out.keep hb2); clear hb2)
  clear e0 e1 e2 e3 e4 e5
  by_cases hd : dir = 0
  · have HF : Hid (res = shareI (timesI t 2) n) := by show _ = _; rw [← HR.out, if_pos hd]
    clear HR
    have HM : Hid (∀ W, Calls Tryz.prog 31 #[.int .i64 t, .int .i64 2] W fun e w' => e = .returned (.int .i64 (timesI t 2)) ∧ Below W.heap.size W w') := fun W => rtimes_any t 2 W
    generalize timesI t 2 = t2 at *
    have HS := hidE (fun W => rshare_any t2 n W)
    go_wp2_with (first
      | (go_at_call 31; refine (HM.out _).mono ?_; rintro e W3 ⟨rfl, hb3⟩; have HB3 := hidE (Below.on HB2.out hb3); have e0 := (HX2.out.keep hb3).c0; clear hb3)
      | (go_at_call 33; refine (HS.out _).mono ?_; rintro e _ ⟨rfl, rfl⟩))
    go_ret
    exact ⟨by rw [HF.out]; rfl, HB3.out⟩
  · have HF : Hid (res = shareI t n) := by show _ = _; rw [← HR.out, if_neg hd]
    clear HR
    have HS := hidE (fun W => rshare_any t n W)
    have e0 := HX2.out.c0
    go_wp2_with (go_at_call 33; refine (HS.out _).mono ?_; rintro e _ ⟨rfl, rfl⟩)
    go_ret
    exact ⟨by rw [HF.out]; rfl, HB2.out⟩
end Go.Proofs.YthfilnflgahcjaaGreatDoor

namespace Go.Proofs.YthfilnflgahcjaaGreatDoor
open Go.RowKit Go.Shelf Go.Maps
set_option linter.unusedVariables false
set_option linter.unusedSimpArgs false
/-- Together, however great. -/
def sumW {α : Type} (f : α → Int) : List α → Int
  | [] => 0
  | x :: l => f x + sumW f l
theorem sumW_app {α : Type} (f : α → Int) : ∀ (a b : List α), sumW f (a ++ b) = sumW f a + sumW f b
  | [], b => by simp [sumW]
  | x :: a, b => by rw [List.cons_append, sumW, sumW, sumW_app f a b]; omega
theorem sumW_nn {α : Type} {f : α → Int} (h : ∀ x, 0 ≤ f x) : ∀ l : List α, 0 ≤ sumW f l
  | [] => Int.le_refl _
  | x :: l => by have := h x; have := sumW_nn h l; rw [sumW]; omega
theorem sumW_rep {α : Type} {f : α → Int} {z : α} (h : f z = 0) : ∀ n : Nat, sumW f (List.replicate n z) = 0
  | 0 => rfl
  | n + 1 => by rw [List.replicate_succ, sumW, sumW_rep h n, h]; rfl
theorem sumW_map {α β : Type} (f : β → Int) (g : α → β) : ∀ l : List α, sumW f (l.map g) = sumW (fun x => f (g x)) l
  | [] => rfl
  | x :: l => by rw [List.map_cons, sumW, sumW, sumW_map f g l]
theorem plusF_sum : ∀ (l : List Int) (t : Int), 0 ≤ t → t ≤ 4611686018427387904 → plusF t l = if 4611686018427387904 < t + sumW cutI l then 4611686018427387904 else t + sumW cutI l
  | [], t, h0, h1 => by
    have e : sumW cutI [] = 0 := rfl
    rw [plusF, e, if_neg (by omega)]; omega
  | n :: r, t, h0, h1 => by
    have h2 := cutI_nonneg n
    have h3 := cutI_le n
    have h4 := sumW_nn cutI_nonneg r
    rw [plusF, plusF_sum r _ (by split <;> omega) (by split <;> omega), sumW]
    generalize cutI n = c at *
    generalize sumW cutI r = S at *
    by_cases a : 4611686018427387904 - t < c
    · rw [if_pos a, if_pos (show 4611686018427387904 < t + (c + S) by omega)]
      by_cases b : 4611686018427387904 < t + (4611686018427387904 - t) + S
      · rw [if_pos b]
      · rw [if_neg b]; omega
    · rw [if_neg a, show t + (c + S) = t + c + S by omega]
theorem plus_sum {a b : List Int} (h : sumW cutI a = sumW cutI b) : plusI a = plusI b := by
  unfold plusI
  rw [plusF_sum a 0 (by decide) (by decide), plusF_sum b 0 (by decide) (by decide), h]
section
variable {R K : Type} [DecidableEq K]
theorem sumW_del (f : K → Int) {k : K} : ∀ {l : List K}, k ∈ l → sumW f l = f k + sumW f (delS k l)
  | [], h => by cases h
  | a :: r, h => by
    rw [delS]
    by_cases e : a = k
    · rw [if_pos e, sumW, e]
    · rw [if_neg e, sumW, sumW, sumW_del f (l := r) (by rcases List.mem_cons.1 h with rfl | h; exact absurd rfl e; exact h)]; omega
theorem sumW_congr {α : Type} {f g : α → Int} : ∀ {l : List α}, (∀ x ∈ l, f x = g x) → sumW f l = sumW g l
  | [], _ => rfl
  | x :: l, h => by rw [sumW, sumW, h x List.mem_cons_self, sumW_congr fun y hy => h y (List.mem_cons_of_mem _ hy)]
/-- What a key's row tells. -/
def tellK (key : R → K) (g : R → Int) (rows : List R) (k : K) : Int := match getF key rows k with | some r => g r | none => 0
theorem goFirst_sum (key : R → K) (g : R → Int) : ∀ (rows : List R) (left : List K), left.Nodup → sumW g (goFirst key rows left).1 = sumW (tellK key g rows) left
  | [], left, _ => by
    rw [goFirst]
    have : ∀ l : List K, sumW (tellK key g []) l = 0 := fun l => by
      induction l with
      | nil => rfl
      | cons a r ih => rw [sumW, ih]; rfl
    rw [this]; rfl
  | r :: rs, left, hn => by
    rw [goFirst]
    by_cases h0 : left = []
    · rw [if_pos h0]; subst h0; rfl
    · rw [if_neg h0]
      by_cases hm : key r ∈ left
      · rw [if_pos hm]
        show g r + sumW g (goFirst key rs (delS (key r) left)).1 = _
        rw [goFirst_sum key g rs _ (delS_nodup hn _), sumW_del _ hm]
        have e1 : tellK key g (r :: rs) (key r) = g r := by unfold tellK; rw [getF_cons, if_pos rfl]
        rw [e1, sumW_congr (f := tellK key g (r :: rs)) (g := tellK key g rs) fun x hx => by
          have := ((mem_delS hn).1 hx).2
          unfold tellK
          rw [getF_cons, if_neg (fun e : key r = x => this e.symm)]]
      · rw [if_neg hm, goFirst_sum key g rs left hn]
        exact (sumW_congr fun x hx => by
          unfold tellK
          rw [getF_cons, if_neg (fun e : key r = x => hm (e ▸ hx))]).symm
theorem firsts_sum (key : R → K) (g : R → Int) (zero : R) (hz : g zero = 0) (rows : List R) (keys : List K) : sumW g (firstsL key zero rows keys) = sumW (tellK key g rows) (keys.foldl putS []) := by
  unfold firstsL
  rw [sumW_app, sumW_rep hz, goFirst_sum key g rows _ (puts_nodup keys [] List.nodup_nil)]
  omega
end
theorem rhas_mem (x : ByteArray) (l : List ByteArray) : rhasB x l = true ↔ x ∈ l := by
  unfold rhasB
  rw [List.any_eq_true]
  constructor
  · rintro ⟨y, hy, e⟩
    have := of_decide_eq_true e
    subst this; exact hy
  · intro h
    exact ⟨x, h, decide_eq_true rfl⟩
/-- Of each text the first time that it comes. -/
theorem each_once (h : ByteArray → Int) (f : ByteArray → List Int) (hf : ∀ x, sumW cutI (f x) = h x) (T : List ByteArray → List ByteArray → List Int) (hT0 : ∀ pre, T pre [] = []) (hT : ∀ pre x l, T pre (x :: l) = (if rhasB x pre = true then [] else f x) ++ T (pre ++ [x]) l) :
    ∀ (keys pre acc : List ByteArray), (∀ x, x ∈ acc ↔ x ∈ pre) → sumW h (keys.foldl putS acc) = sumW h acc + sumW cutI (T pre keys)
  | [], pre, acc, _ => by rw [hT0]; simp [sumW]
  | k :: l, pre, acc, hm => by
    rw [List.foldl_cons, hT, sumW_app]
    by_cases hk : k ∈ acc
    · have e1 : putS acc k = acc := by unfold putS; rw [if_pos hk]
      rw [e1, if_pos ((rhas_mem k pre).2 ((hm k).1 hk)), each_once h f hf T hT0 hT l (pre ++ [k]) acc (fun x => by
        rw [hm x, List.mem_append, List.mem_singleton]
        constructor
        · exact .inl
        · rintro (h | rfl)
          · exact h
          · exact (hm x).1 hk)]
      simp [sumW]
    · have e1 : putS acc k = acc ++ [k] := by unfold putS; rw [if_neg hk]
      rw [e1, if_neg (fun e => hk ((hm k).2 ((rhas_mem k pre).1 e))), each_once h f hf T hT0 hT l (pre ++ [k]) (acc ++ [k]) (fun x => by rw [List.mem_append, List.mem_append, hm x]), sumW_app, hf k]
      simp only [sumW]
      omega
theorem rowT_sum (x : ByteArray) : ∀ ts : List (ByteArray × Int), sumW cutI (rowT x ts) = tellK Prod.fst (fun r => cutI r.2) ts x
  | [] => rfl
  | r :: l => by
    unfold rowT tellK
    rw [getF_cons]
    by_cases e : r.1 = x
    · rw [if_pos e, if_pos e]; show cutI r.2 + 0 = cutI r.2; omega
    · rw [if_neg e, if_neg e]; exact rowT_sum x l
theorem typed_same (s : StatP) (ls : List ByteArray) : rtypedI s ls = typedI s ls := by
  unfold rtypedI typedI
  split
  · rfl
  · refine plus_sum ?_
    rw [sumW_map, firsts_sum Prod.fst (fun r : ByteArray × Int => cutI r.2) _ rfl, each_once _ (fun x => rowT x s.types) (fun x => rowT_sum x s.types) (typedL s.types) (fun _ => rfl) (fun _ _ _ => rfl) ls [] [] (fun _ => Iff.rfl)]
    simp [sumW]
theorem fan_same (s : StatP) (dir : Int) (ls : List ByteArray) : rfanI s dir ls = fanI s dir ls := by
  unfold rfanI fanI
  rw [typed_same]
  have h0 : Fits (typedI s ls) := by
    unfold typedI
    split
    · exact cut_fits _
    · exact plus_fits _
  have e1 : timesI (typedI s ls) 2 = plusI [typedI s ls, typedI s ls] := by
    rw [plus_two, cut_same h0]
    unfold timesI
    rw [cut_same h0, show cutI 2 = 2 from rfl, show typedI s ls * 2 = typedI s ls + typedI s ls by omega]
  have e2 : ∀ a, shareI a (cutI s.nodes) = shareI a s.nodes := fun a => by
    unfold shareI
    rw [cut_same (cut_fits s.nodes)]
  rw [e1, e2]
end Go.Proofs.YthfilnflgahcjaaGreatDoor

namespace Go.Proofs.YthfilnflgahcjaaGreatDoor
open Go.RowKit Go.Shelf Go.Maps
set_option linter.unusedVariables false
set_option linter.unusedSimpArgs false
/-- What one type adds. -/
def fromE (s : StatP) (lab : ByteArray) (dir : Int) (x : ByteArray) : List Int := (if 0 ≤ dir then [rendI s x lab true] else []) ++ (if dir ≤ 0 then [rendI s x lab false] else [])
/-- Each type's, once. -/
def fromL (s : StatP) (lab : ByteArray) (dir : Int) (pre : List ByteArray) : List ByteArray → List Int
  | [] => []
  | x :: l => (if rhasB x pre = true then [] else fromE s lab dir x) ++ fromL s lab dir (pre ++ [x]) l
theorem fromL_at {s : StatP} {lab : ByteArray} {dir : Int} {l : List ByteArray} {x : ByteArray} {j : Nat} (h : l[j]? = some x) : fromL s lab dir (l.take j) (l.drop j) = (if rhasB x (l.take j) = true then [] else fromE s lab dir x) ++ fromL s lab dir (l.take (j + 1)) (l.drop (j + 1)) := by
  obtain ⟨hj, hx⟩ := List.getElem?_eq_some_iff.1 h
  rw [List.drop_eq_getElem_cons hj, hx, List.take_add_one, h]
  rfl
def rfromI (s : StatP) (lab : ByteArray) (dir : Int) (ts : List ByteArray) : Int := shareI (plusI (fromL s lab dir [] (if ts = [] then s.types.map (fun x => x.1) else ts))) (rlabelledI s [lab])
def capI (n : Int) : Int := if 4611686018427387904 < n then 4611686018427387904 else n
theorem plus_cap (l : List Int) : plusI l = capI (sumW cutI l) := by
  unfold plusI capI
  rw [plusF_sum l 0 (by decide) (by decide), Int.zero_add]
theorem cap_add {a b : Int} (ha : 0 ≤ a) (hb : 0 ≤ b) : capI (capI a + capI b) = capI (a + b) := by
  unfold capI
  by_cases h1 : 4611686018427387904 < a
  · rw [if_pos h1, if_pos (show 4611686018427387904 < a + b by omega)]
    by_cases h2 : 4611686018427387904 < b
    · rw [if_pos h2, if_pos (by omega)]
    · rw [if_neg h2]
      by_cases h3 : 4611686018427387904 < 4611686018427387904 + b
      · rw [if_pos h3]
      · rw [if_neg h3]; omega
  · rw [if_neg h1]
    by_cases h2 : 4611686018427387904 < b
    · rw [if_pos h2, if_pos (show 4611686018427387904 < a + b by omega)]
      by_cases h3 : 4611686018427387904 < a + 4611686018427387904
      · rw [if_pos h3]
      · rw [if_neg h3]; omega
    · rw [if_neg h2]
theorem cap_fits {n : Int} (h : 0 ≤ n) : Fits (capI n) := by
  unfold capI Fits
  by_cases h1 : 4611686018427387904 < n
  · rw [if_pos h1]; omega
  · rw [if_neg h1]; omega
theorem puts_map {α β : Type} [DecidableEq α] [DecidableEq β] (g : α → β) (hg : ∀ x y, g x = g y → x = y) : ∀ (l acc : List α), (l.map g).foldl putS (acc.map g) = (l.foldl putS acc).map g
  | [], acc => rfl
  | x :: l, acc => by
    rw [List.map_cons, List.foldl_cons, List.foldl_cons, ← puts_map g hg l (putS acc x)]
    congr 1
    unfold putS
    by_cases h : x ∈ acc
    · rw [if_pos h, if_pos (List.mem_map_of_mem h)]
    · rw [if_neg h, if_neg (fun e => by
        obtain ⟨y, hy, e⟩ := List.mem_map.1 e
        exact h (hg _ _ e ▸ hy)), List.map_append, List.map_cons, List.map_nil]
theorem rend_get (s : StatP) (x lab : ByteArray) (out : Bool) : tellK endK (fun r : EndR => cutI r.2.2.2) s.ends (x, lab, out, 0) = cutI (rendI s x lab out) := by
  rw [ended_same]
  unfold endedI tellK getF
  rw [List.map_cons, List.map_nil, firsts_get]
  cases List.find? (fun r => decide (endK r = (x, lab, out, 0))) s.ends with
  | none => show (0 : Int) = cutI (plusI [0]); rw [plus_one]; rfl
  | some r => show cutI r.2.2.2 = cutI (plusI [r.2.2.2]); rw [plus_one, cut_same (cut_fits _)]
/-- All that begins (or ends), however much. -/
def endS (s : StatP) (lab : ByteArray) (T : List ByteArray) (out : Bool) : Int := sumW (fun x => cutI (rendI s x lab out)) (T.foldl putS [])
theorem ended_sum (s : StatP) (lab : ByteArray) (T : List ByteArray) (out : Bool) : endedI s lab out T = capI (endS s lab T out) := by
  unfold endedI endS
  rw [plus_cap, sumW_map, firsts_sum endK (fun r : EndR => cutI r.2.2.2) _ rfl]
  have e := puts_map (fun t : ByteArray => ((t, lab, out, 0) : EndR)) (fun x y h => by injection h) T []
  rw [List.map_nil] at e
  rw [e, sumW_map]
  congr 1
  exact sumW_congr fun x _ => rend_get s x lab out
theorem sumW_add {α : Type} (f g : α → Int) : ∀ l : List α, sumW (fun x => f x + g x) l = sumW f l + sumW g l
  | [] => rfl
  | x :: l => by simp only [sumW]; rw [sumW_add f g l]; omega
theorem fromL_sum (s : StatP) (lab : ByteArray) (dir : Int) (T : List ByteArray) : sumW cutI (fromL s lab dir [] T) = (if 0 ≤ dir then endS s lab T true else 0) + (if dir ≤ 0 then endS s lab T false else 0) := by
  have h := each_once (fun x => (if 0 ≤ dir then cutI (rendI s x lab true) else 0) + (if dir ≤ 0 then cutI (rendI s x lab false) else 0)) (fromE s lab dir) (fun x => by
    unfold fromE
    rw [sumW_app]
    by_cases d1 : 0 ≤ dir <;> by_cases d2 : dir ≤ 0 <;> simp [d1, d2, sumW]) (fromL s lab dir) (fun _ => rfl) (fun _ _ _ => rfl) T [] [] (fun _ => Iff.rfl)
  have h2 : sumW cutI (fromL s lab dir [] T) = sumW (fun x => (if 0 ≤ dir then cutI (rendI s x lab true) else 0) + (if dir ≤ 0 then cutI (rendI s x lab false) else 0)) (T.foldl putS []) := by rw [h]; simp [sumW]
  have hz : ∀ l : List ByteArray, sumW (fun _ => (0 : Int)) l = 0 := fun l => by
    induction l with
    | nil => rfl
    | cons a r ih => rw [sumW, ih]; rfl
  rw [h2, sumW_add]
  unfold endS
  by_cases d1 : 0 ≤ dir <;> by_cases d2 : dir ≤ 0 <;> simp [d1, d2, hz]
theorem endS_nn (s : StatP) (lab : ByteArray) (T : List ByteArray) (out : Bool) : 0 ≤ endS s lab T out := sumW_nn (fun _ => cutI_nonneg _) _
theorem plus_zero {e : Int} (h : Fits e) : plusI [0, e] = e := by
  rw [plus_two, show cutI 0 = 0 from rfl, cut_same h, Int.zero_add, if_neg (by have := h.2; omega)]
theorem from_same (s : StatP) (lab : ByteArray) (dir : Int) (ls : List ByteArray) : rfromI s lab dir ls = fromI s lab dir ls := by
  unfold rfromI fromI
  rw [labelled_same]
  generalize (if ls = [] then s.types.map (fun x => x.1) else ls) = T
  show shareI (plusI (fromL s lab dir [] T)) (labelledI s [lab]) = shareI (if dir ≤ 0 then plusI [if 0 ≤ dir then plusI [0, endedI s lab true T] else 0, endedI s lab false T] else (if 0 ≤ dir then plusI [0, endedI s lab true T] else 0)) (labelledI s [lab])
  congr 1
  rw [plus_cap, fromL_sum, ended_sum, ended_sum]
  have n1 := endS_nn s lab T true
  have n2 := endS_nn s lab T false
  generalize endS s lab T true = A at *
  generalize endS s lab T false = C at *
  by_cases d1 : 0 ≤ dir
  · by_cases d2 : dir ≤ 0
    · rw [if_pos d1, if_pos d2, if_pos d2, if_pos d1, plus_zero (cap_fits n1), plus_cap]
      simp only [sumW]
      rw [cut_same (cap_fits n1), cut_same (cap_fits n2), Int.add_zero, cap_add n1 n2]
    · rw [if_pos d1, if_neg d2, if_neg d2, if_pos d1, plus_zero (cap_fits n1), Int.add_zero]
  · have d2 : dir ≤ 0 := by omega
    rw [if_neg d1, if_pos d2, if_pos d2, if_neg d1, plus_zero (cap_fits n2), Int.zero_add]
end Go.Proofs.YthfilnflgahcjaaGreatDoor

namespace Go.Proofs.YthfilnflgahcjaaGreatDoor
open Go.RowKit
section
variable {P : Program} {ops : Array Oper} {md : Region.Mode} {Q : Exit → Act → World → Prop} {keep : Nat → Bool} {S S' : World → Prop}
/-- In state 'a', in every world that meets S, the operation (a call, too) leaves 'v' in its temporary and does nothing else. -/
def YieldsW (P : Program) (ops : Array Oper) (S : World → Prop) (o : Oper) (v : Value) (a : Act) : Prop :=
  (Region.wanted o (yielded ops a.tmps) = true ∧ ∀ w, S w → o.wp P a w (fun a' w' => a' = a.put o.dst v ∧ w' = w) NoQ) ∨
  (Region.wanted o (yielded ops a.tmps) = false ∧ v = undef)
theorem YieldsIf.toW {o : Oper} {v : Value} {a : Act} (h : YieldsIf P ops S o v a) : YieldsW P ops S o v a :=
  h.imp (fun ⟨h1, h2⟩ => ⟨h1, fun w hw => by unfold Oper.wp; rw [h2 w hw]; exact ⟨rfl, rfl⟩⟩) id
theorem yieldsW_mono {o : Oper} {v : Value} {a : Act} (hs : ∀ w, S' w → S w) (h : YieldsW P ops S o v a) : YieldsW P ops S' o v a :=
  h.imp (fun ⟨h1, h2⟩ => ⟨h1, fun w hw => h2 w (hs w hw)⟩) id
theorem YieldsW.wpOp {i : Nat} {o : Oper} {v : Value} {a : Act} (hi : ops[i]? = some o) (hy : YieldsW P ops S o v a)
    {K : Act → World → Prop} {w : World} (hS : S w) (h : K (a.put o.dst v) w) : wpOp P ops Q i K a w := by
  refine wpOp_noQ ?_
  unfold Go.wpOp
  simp only [hi]
  rcases hy with ⟨hw, hv⟩ | ⟨hw, rfl⟩
  · simp only [hw, if_true]
    exact .inl (Oper.wp_mono (fun a' w' h' => by rw [h'.1, h'.2]; exact h) (hv w hS))
  · simp only [hw, Bool.false_eq_true, if_false]; exact h
theorem wp_shift {o : Oper} {v u : Value} {a : Act} {x : Option Tmp} {w : World} (he : execOp (a.put x u).eval o = execOp a.eval o) (h2 : ∀ d, o.dst = some d → x ≠ some d)
    (h : o.wp P a w (fun a' w' => a' = a.put o.dst v ∧ w' = w) NoQ) : o.wp P (a.put x u) w (fun a' w' => a' = (a.put x u).put o.dst v ∧ w' = w) NoQ := by
  have go : ∀ y, a.put o.dst y = a.put o.dst v → (a.put x u).put o.dst y = (a.put x u).put o.dst v := fun y hy => by
    rw [← Act.put_comm a y u h2, hy, Act.put_comm a v u h2]
  unfold Oper.wp at *
  rw [he]
  generalize (execOp a.eval o).run P w = r at *
  cases r with
  | ok n w' =>
    cases n <;> simp only [Oper.upon] at h ⊢
    case value y => exact ⟨go y h.1, h.2⟩
    case skip => exact ⟨go _ h.1, h.2⟩
    case defer d =>
      have := congrArg Act.defers h.1
      cases hd : o.dst <;> simp [Act.put, hd] at this
    case enter f args =>
      refine Calls.mono h fun e w'' h' => ?_
      cases e with
      | returned y => exact ⟨go y h'.1, h'.2⟩
      | panicked c => exact h'
      | outgrown => exact h'
    case row row args => exact Rows.mono h fun y w'' h' => ⟨go y h'.1, h'.2⟩
  | halt x w' => cases x <;> simp only [Oper.upon] at h ⊢; exact h
theorem wp_shiftD {o : Oper} {v : Value} {a : Act} {d : Deferred} {w : World}
    (h : o.wp P a w (fun a' w' => a' = a.put o.dst v ∧ w' = w) NoQ) : o.wp P { a with defers := d :: a.defers } w (fun a' w' => a' = ({ a with defers := d :: a.defers } : Act).put o.dst v ∧ w' = w) NoQ := by
  have go : ∀ y, a.put o.dst y = a.put o.dst v → ({ a with defers := d :: a.defers } : Act).put o.dst y = ({ a with defers := d :: a.defers } : Act).put o.dst v := fun y hy => by
    rw [← Act.put_defers, ← Act.put_defers, hy]
  have he : execOp ({ a with defers := d :: a.defers } : Act).eval o = execOp a.eval o := rfl
  unfold Oper.wp at *
  rw [he]
  generalize (execOp a.eval o).run P w = r at *
  cases r with
  | ok n w' =>
    cases n <;> simp only [Oper.upon] at h ⊢
    case value y => exact ⟨go y h.1, h.2⟩
    case skip => exact ⟨go _ h.1, h.2⟩
    case defer d' =>
      have := congrArg Act.defers h.1
      cases hd : o.dst <;> simp [Act.put, hd] at this
    case enter f args =>
      refine Calls.mono h fun e w'' h' => ?_
      cases e with
      | returned y => exact ⟨go y h'.1, h'.2⟩
      | panicked c => exact h'
      | outgrown => exact h'
    case row row args => exact Rows.mono h fun y w'' h' => ⟨go y h'.1, h'.2⟩
  | halt x w' => cases x <;> simp only [Oper.upon] at h ⊢; exact h
theorem wpOp_putW {j : Nat} {oi oj : Oper} {v : Value} (hj : ops[j]? = some oj) (hap : oi.apart ops oj = true)
    (hsi : ∀ cs b, oi.op ≠ .select cs b) (hsj : ∀ cs b, oj.op ≠ .select cs b)
    (hQ : ∀ c a w, Q (.panic c) (a.put oi.dst v) w → Q (.panic c) a w) {K : Act → World → Prop} {a : Act} {w : World}
    (hy : YieldsW P ops S oi v a) (h : wpOp P ops Q j K (a.put oi.dst v) w) :
    wpOp P ops Q j (fun a' w' => YieldsW P ops S oi v a' ∧ K (a'.put oi.dst v) w') a w := by
  obtain ⟨h1, h2, h3⟩ := Oper.apart_spec hap
  have keep : ∀ (a : Act), YieldsW P ops S oi v a → ∀ u, YieldsW P ops S oi v (a.put oj.dst u) := fun a hy u => by
    unfold YieldsW at *
    rw [wanted_put oi a oj.dst u h3]
    exact hy.imp (fun ⟨h4, h5⟩ => ⟨h4, fun w hw => wp_shift (execOp_put oi hsi a oj.dst u h3) h2 (h5 w hw)⟩) id
  have keepD : ∀ d, YieldsW P ops S oi v { a with defers := d :: a.defers } := fun d =>
    hy.imp (fun ⟨h4, h5⟩ => ⟨h4, fun w hw => wp_shiftD (h5 w hw)⟩) id
  unfold wpOp at *
  simp only [hj] at *
  rw [wanted_put oj a oi.dst v h1] at h
  split
  · rename_i hw
    simp only [hw, if_true] at h
    rcases h with h | ⟨hasks, hlets⟩
    case inr => exact .inr ⟨by unfold Oper.asks at *; rw [execOp_put oj hsj a oi.dst v h1] at hasks; exact hasks, hlets⟩
    refine .inl ?_
    unfold Oper.wp at h ⊢
    rw [execOp_put oj hsj a oi.dst v h1] at h
    generalize (execOp a.eval oj).run P w = r at *
    cases r with
    | ok n w' =>
      cases n <;> simp only [Oper.upon] at h ⊢
      case value u => exact ⟨keep a hy u, by rw [← Act.put_comm a v u h2]; exact h⟩
      case skip => exact ⟨keep a hy _, by rw [← Act.put_comm a v undef h2]; exact h⟩
      case defer d =>
        refine ⟨keep _ (keepD d) _, ?_⟩
        rw [← Act.put_comm _ v undef h2, ← Act.put_defers]
        exact h
      case enter f args =>
        refine Calls.mono h fun e w'' he => ?_
        cases e with
        | returned u => exact ⟨keep a hy u, by rw [← Act.put_comm a v u h2]; exact he⟩
        | panicked c => exact hQ _ _ _ he
        | outgrown => exact he
      case row row args => exact Rows.mono h fun u w'' he => ⟨keep a hy u, by rw [← Act.put_comm a v u h2]; exact he⟩
    | halt x w' =>
      cases x <;> simp only [Oper.upon] at h ⊢
      case panic u => exact hQ _ _ _ h
  · rename_i hw
    simp only [hw] at h
    exact ⟨keep a hy _, by rw [← Act.put_comm a v undef h2]; exact h⟩
theorem wpAnyU_first2 {i : Nat} {oi : Oper} {v : Value} (hi : ops[i]? = some oi) (hsel : ∀ (j : Nat) (o : Oper) cs b, ops[j]? = some o → o.op ≠ .select cs b) (hk : keep i = true)
    (hwt : ∀ j, j < ops.size → j ≠ i → keep j = false → waitsB md ops ops.size j i = true) :
    ∀ (fuel : Nat) (listed : Array Bool) (a : Act) (w : World), Closed md ops listed →
      (∀ j oj, ops[j]? = some oj → j ≠ i → listed.getD j true = false → (∀ e ∈ oj.after, Region.binds md e = true → e.on ≠ i) → oi.apart ops oj = true) →
      i ∈ Region.ready md ops listed → YieldsW P ops (upS w) oi v a →
      wpAnyU P md ops keep Q fuel (listed.setIfInBounds i true) (a.put oi.dst v) w → wpAnyU P md ops keep Q (fuel + 1) listed a w := by
  intro fuel
  induction fuel with
  | zero =>
    intro listed a w hcl _ hr hy H
    refine ⟨fun h => (by rw [h] at hr; cases hr), fun j hj => ?_⟩
    by_cases hji : j = i
    · subst hji
      rw [if_pos hk]
      exact hy.wpOp hi (Below.refl _ _) ⟨Below.refl _ _, H⟩
    · have := ready_mono hj hji
      rw [H.1] at this
      cases this
  | succ fuel ih =>
    intro listed a w hcl hfree hr hy H
    refine ⟨fun h => (by rw [h] at hr; cases hr), fun j hj => ?_⟩
    by_cases hji : j = i
    · subst hji
      rw [if_pos hk]
      exact hy.wpOp hi (Below.refl _ _) ⟨Below.refl _ _, H⟩
    · have h1 := H.2 j (ready_mono hj hji)
      obtain ⟨hjun, oj, hoj, hall⟩ := mem_ready.1 hj
      have h0 := (mem_ready.1 hr).1
      have hin : listed.getD i false = false := getD_both h0
      have hkj : keep j = true := by
        cases hkj : keep j with
        | true => rfl
        | false =>
          have := waits_listed hcl ops.size j i (fun ok hk' e he hb => by
            rw [hoj] at hk'
            obtain rfl := Option.some.inj hk'
            exact hall e he hb) (hwt j (Array.getElem?_eq_some_iff.1 hoj).1 hji hkj)
          rw [hin] at this; cases this
      rw [if_pos hkj] at h1 ⊢
      have hnot : ∀ e ∈ oj.after, Region.binds md e = true → e.on ≠ i := fun e he hb heq => by
        have h1 := hall e he hb
        rw [heq, hin] at h1; cases h1
      have h2 := wpOp_putW (Q := NoQ) hoj (hfree j oj hoj hji hjun hnot) (fun cs b => hsel i oi cs b hi) (fun cs b => hsel j oj cs b hoj) (fun _ _ _ h => h) hy h1
      have hfree' : ∀ k ok, ops[k]? = some ok → k ≠ i → (listed.setIfInBounds j true).getD k true = false →
          (∀ e ∈ ok.after, Region.binds md e = true → e.on ≠ i) → oi.apart ops ok = true := fun k ok hk hki hun hno => by
        refine hfree k ok hk hki ?_ hno
        by_cases hjk : j = k
        · subst hjk; exact hjun
        · rw [getD_set_ne true hjk] at hun; exact hun
      refine wpOp_mono (fun a' w' h3 => ⟨h3.2.1, ih (listed.setIfInBounds j true) a' w' (closed_set hcl hj) hfree' (ready_mono hr (Ne.symm hji)) (yieldsW_mono (fun x hx => h3.2.1.trans (Below.mono hx h3.2.1.size)) h3.1) ?_⟩) h2
      rw [Array.setIfInBounds_comm _ _ hji]
      exact h3.2.2
def wpSched2 (P : Program) (ops : Array Oper) (keep : Nat → Bool) (Q : Exit → Act → World → Prop) : List (Bool × Nat) → Act → World → Prop
  | [], a, w => Q .normal a w
  | (true, i) :: r, a, w => ∃ oi v, ops[i]? = some oi ∧ YieldsW P ops (upS w) oi v a ∧ wpSched2 P ops keep Q r (a.put oi.dst v) w
  | (false, i) :: r, a, w =>
    if keep i = true then wpOp P ops NoQ i (fun a' w' => Below w.heap.size w w' ∧ wpSched2 P ops keep Q r a' w') a w
    else wpOp P ops Q i (wpSched2 P ops keep Q r) a w
theorem sched_sound2 (hs : Region.noSelect ops = true) : ∀ (l : List (Bool × Nat)) (listed : Array Bool) (a : Act) (w : World), checkB md ops keep l listed = true → Closed md ops listed → wpSched2 P ops keep Q l a w → wpAnyU P md ops keep Q l.length listed a w
  | [], listed, a, w, hc, _, h => ⟨by simpa [checkB] using hc, h⟩
  | (true, i) :: r, listed, a, w, hc, hcl, ⟨oi, v, hi, hy, h⟩ => by
    simp only [checkB, Bool.and_eq_true] at hc
    obtain ⟨h1, h2, h3, h4, h5⟩ := hc
    have hr : i ∈ Region.ready md ops listed := by simpa using h1
    refine wpAnyU_first2 hi (Region.noSelect_spec hs) h3 (fun j hj hji hkj => ?_) r.length listed a w hcl (Region.free_spec hi h2) hr hy (sched_sound2 hs r _ _ _ h5 (closed_set hcl hr) h)
    have := List.all_eq_true.1 h4 j (List.mem_range.2 hj)
    simpa [hji, hkj] using this
  | (false, i) :: r, listed, a, w, hc, hcl, h => by
    simp only [checkB, Bool.and_eq_true, beq_iff_eq] at hc
    obtain ⟨h1, h2⟩ := hc
    have hr : i ∈ Region.ready md ops listed := by rw [h1]; exact List.mem_cons_self
    refine ⟨fun h0 => (by rw [h0] at h1; cases h1), fun j hj => ?_⟩
    rw [h1] at hj
    obtain rfl : j = i := by simpa using hj
    rw [wpSched2] at h
    split
    · rename_i hk
      rw [if_pos hk] at h
      exact wpOp_mono (fun a' w' h' => ⟨h'.1, sched_sound2 hs r _ _ _ h2 (closed_set hcl hr) h'.2⟩) h
    · rename_i hk
      rw [if_neg hk] at h
      exact wpOp_mono (fun a' w' h' => sched_sound2 hs r _ _ _ h2 (closed_set hcl hr) h') h
theorem seg_quiet2 {L : List Oper} {r : List (Bool × Nat)} {w : World} {K : Act → Prop} (hK : ∀ a, K a → wpSched2 P L.toArray keep Q r a w) : ∀ (S : List Nat) (a : Act), reads L S = true →
    wpQuiet P L.toArray (upC w) K (pickL L S) a → wpSched2 P L.toArray keep Q (S.map (fun i => (true, i)) ++ r) a w
  | [], a, _, h => hK a h
  | i :: S, a, hr, h => by
    simp only [reads, List.all_cons, Bool.and_eq_true] at hr
    obtain ⟨h1, h2⟩ := hr
    cases ho : nthL L i with
    | none => rw [ho] at h1; cases h1
    | some o =>
      rw [ho] at h1
      simp only [pickL, ho, wpQuiet] at h
      have hi : L.toArray[i]? = some o := by rw [List.getElem?_toArray, ← nthL_get, ho]
      by_cases hw : Region.wanted o (yielded L.toArray a.tmps) = true
      · rw [if_pos hw] at h
        obtain ⟨v, h3, h4⟩ := h
        refine ⟨o, v, hi, YieldsIf.toW (.inl ⟨hw, fun x hx => ?_⟩), seg_quiet2 hK S _ h2 h4⟩
        have h5 := h3 x ⟨⟨x, hx⟩, rfl⟩
        unfold Oper.quietAt at h5
        generalize hres : (execOp a.eval o).run P x = res at h5
        cases res with
        | halt y z => simp only [Oper.quietUpon] at h5
        | ok n z =>
          obtain ⟨u, rfl⟩ := read_value h1 hres
          simp only [Oper.quietUpon] at h5
          rw [h5.1, h5.2]
      · rw [if_neg hw] at h
        exact ⟨o, undef, hi, YieldsIf.toW (.inr ⟨by simpa using hw, rfl⟩), seg_quiet2 hK S _ h2 h⟩
theorem seg_loud2 {L : List Oper} {r : List (Bool × Nat)} {i : Nat} {a : Act} {w : World} {K : Act → World → Prop} (hk : keep i = true) (hn : (nthL L i).isSome = true) (hK : ∀ a w', K a w' → Below w.heap.size w w' ∧ wpSched2 P L.toArray keep Q r a w')
    (h : wpLoud P L i K a w) : wpSched2 P L.toArray keep Q ((false, i) :: r) a w := by
  rw [wpSched2, if_pos hk]
  unfold wpLoud at h
  cases ho : nthL L i with
  | none => rw [ho] at hn; cases hn
  | some o =>
    have hi : L.toArray[i]? = some o := by rw [List.getElem?_toArray, ← nthL_get, ho]
    simp only [pickL, ho, wpList] at h
    unfold wpOp
    simp only [hi]
    split
    · rename_i hw
      rw [if_pos hw] at h
      rcases h with h | ⟨_, _, _, h, _⟩
      · exact .inl (Oper.wp_mono (fun a' w' h' => hK a' w' h'.2) (oper_only h))
      · cases h
    · rename_i hw
      rw [if_neg hw] at h
      exact hK _ _ h.2
theorem seg_tail2 {L : List Oper} : ∀ (T : List Nat) (a : Act) (w : World), (∀ i ∈ T, keep i = false ∧ (nthL L i).isSome = true) → wpList P L.toArray Q (pickL L T) a w → wpSched2 P L.toArray keep Q (T.map (fun i => (false, i))) a w
  | [], a, w, _, h => h
  | i :: T, a, w, hT, h => by
    obtain ⟨hk, hn⟩ := hT i List.mem_cons_self
    rw [List.map_cons, wpSched2, if_neg (by rw [hk]; exact Bool.false_ne_true)]
    cases ho : nthL L i with
    | none => rw [ho] at hn; cases hn
    | some o =>
      have hi : L.toArray[i]? = some o := by rw [List.getElem?_toArray, ← nthL_get, ho]
      simp only [pickL, ho, wpList] at h
      have ih := fun a w => seg_tail2 T a w (fun j hj => hT j (List.mem_cons_of_mem _ hj))
      unfold wpOp
      simp only [hi]
      split
      · rename_i hw
        rw [if_pos hw] at h
        exact h.imp (Oper.wp_mono ih) id
      · rename_i hw
        rw [if_neg hw] at h
        exact ih _ _ h
/-- A call that leaves the world as it is. -/
def wpStill (P : Program) (L : List Oper) (w : World) (i : Nat) (K : Act → Prop) (a : Act) : Prop :=
  match nthL L i with
  | some o => ∃ v, Region.wanted o (yielded L.toArray a.tmps) = true ∧ (∀ u : Up w, wpList P L.toArray (fun e a' w' => e = .normal ∧ (a' = a.put o.dst v ∧ w' = u.x)) [o] a u.x) ∧ K (a.put o.dst v)
  | none => False
theorem seg_still {L : List Oper} {r : List (Bool × Nat)} {i : Nat} {a : Act} {w : World} {K : Act → Prop} (hK : ∀ a, K a → wpSched2 P L.toArray keep Q r a w)
    (h : wpStill P L w i K a) : wpSched2 P L.toArray keep Q ((true, i) :: r) a w := by
  unfold wpStill at h
  split at h
  · rename_i o ho
    obtain ⟨v, h1, h2, h3⟩ := h
    have hi : L.toArray[i]? = some o := by rw [List.getElem?_toArray, ← nthL_get, ho]
    refine ⟨o, v, hi, .inl ⟨h1, fun x hx => ?_⟩, hK _ h3⟩
    have h4 := h2 ⟨x, hx⟩
    simp only [wpList] at h4
    rw [if_pos h1] at h4
    rcases h4 with h4 | ⟨_, _, _, h4, _⟩
    · exact Oper.wp_mono (fun a' w' h' => h'.2) (oper_only h4)
    · cases h4
  · exact h.elim
def wpCalm2 (P : Program) (L : List Oper) (Q : Exit → Act → World → Prop) : List (List Nat × Nat × Bool) → List Nat → List Nat → Act → World → Prop
  | [], S, T, a, w => wpQuiet P L.toArray (upC w) (fun a' => wpList P L.toArray Q (pickL L T) a' w) (pickL L S) a
  | (S, i, true) :: r, S', T, a, w => wpQuiet P L.toArray (upC w) (fun a' => wpStill P L w i (fun a'' => wpCalm2 P L Q r S' T a'' w) a') (pickL L S) a
  | (S, i, false) :: r, S', T, a, w => wpQuiet P L.toArray (upC w) (fun a' => wpLoud P L i (fun a'' w'' => Below w.heap.size w w'' ∧ wpCalm2 P L Q r S' T a'' w'') a' w) (pickL L S) a
def schedOf2 : List (List Nat × Nat × Bool) → List Nat → List Nat → List (Bool × Nat)
  | [], S, T => tailS S T
  | (S, i, b) :: r, S', T => S.map (fun i => (true, i)) ++ (b, i) :: schedOf2 r S' T
def partsB2 (L : List Oper) (T : List Nat) : List (List Nat × Nat × Bool) → Bool
  | [] => true
  | (S, i, _) :: r => reads L S && ((nthL L i).isSome && (!T.contains i && partsB2 L T r))
def calmB2 (L : List Oper) (A : List (List Nat × Nat × Bool)) (S T : List Nat) : Bool :=
  Region.noSelect L.toArray && (partsB2 L T A && (reads L S && ((T.all fun i => (nthL L i).isSome) && ((schedOf2 A S T).length == L.length && checkB .any L.toArray (fun j => !T.contains j) (schedOf2 A S T) (Array.replicate L.length false)))))
theorem calm_sched2 {L : List Oper} {S T : List Nat} (hS : reads L S = true) (hT : ∀ i ∈ T, keep i = false ∧ (nthL L i).isSome = true) (hkT : ∀ i, T.contains i = false → keep i = true) : ∀ (A : List (List Nat × Nat × Bool)) (a : Act) (w : World), partsB2 L T A = true →
    wpCalm2 P L Q A S T a w → wpSched2 P L.toArray keep Q (schedOf2 A S T) a w
  | [], a, w, _, h => seg_quiet2 (fun a' h' => seg_tail2 T a' w hT h') S a hS h
  | (S1, i, true) :: r, a, w, hA, h => by
    simp only [partsB2, Bool.and_eq_true, Bool.not_eq_true'] at hA
    obtain ⟨h1, h2, h3, h4⟩ := hA
    exact seg_quiet2 (fun a' h' => seg_still (fun a'' h'' => calm_sched2 hS hT hkT r a'' w h4 h'') h') S1 a h1 h
  | (S1, i, false) :: r, a, w, hA, h => by
    simp only [partsB2, Bool.and_eq_true, Bool.not_eq_true'] at hA
    obtain ⟨h1, h2, h3, h4⟩ := hA
    exact seg_quiet2 (fun a' h' => seg_loud2 (hkT i h3) h2 (fun a'' w'' h'' => ⟨h''.1, calm_sched2 hS hT hkT r a'' w'' h4 h''.2⟩) h') S1 a h1 h
/-- A region that draws its order: reads, calls that leave the world as it is (true), what makes memory (false), then what waits for all. -/
theorem wp_calm2 {id : Nat} {L : List Oper} {a : Act} {w : World} (A : List (List Nat × Nat × Bool)) (S T : List Nat) (hm : P.follows .mixedOrders = true) (hB : calmB2 L A S T = true) (h : wpCalm2 P L Q A S T a w.drew) : (Code.region id L.toArray true).wp P Q a w := by
  simp only [calmB2, Bool.and_eq_true, beq_iff_eq] at hB
  obtain ⟨h1, h2, h3, h4, h5, h6⟩ := hB
  refine wp_region_any hm (wpAny_of_U (keep := fun j => !T.contains j) _ _ _ _ ?_)
  have h7 := sched_sound2 (P := P) (Q := Q) h1 (schedOf2 A S T) (Array.replicate L.length false) a w.drew h6 ⟨by simp, fun j oj _ hl => by
    rcases Nat.lt_or_ge j L.length with hj | hj
    · simp [hj] at hl
    · simp [hj] at hl⟩ (calm_sched2 h3 (fun i hi => ⟨by simpa using hi, List.all_eq_true.1 h4 i hi⟩) (fun i hi => by rw [hi]; rfl) A a w.drew h2 h)
  rw [h5] at h7
  simpa using h7
end
end Go.Proofs.YthfilnflgahcjaaGreatDoor

