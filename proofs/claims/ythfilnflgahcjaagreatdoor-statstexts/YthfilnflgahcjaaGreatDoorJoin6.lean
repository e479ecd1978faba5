/- Names: what the library's own variables hold, and which texts are names. The first row of each key, by definition. The small functions: what a row's key is, its number. A row of the call's own, and some zeros more. -/
import Derived.Test.YthfilnflgahcjaaGreatDoorJoin1
import Derived.Test.YthfilnflgahcjaaGreatDoorJoin5
import Derived.Test.YthfilnflgahcjaaGreatDoorJoin3
import Derived.Lib.AppendZeros
namespace Go.Proofs.YthfilnflgahcjaaGreatDoor
open Go.RowKit Go.Shelf
set_option linter.unusedVariables false
set_option linter.unusedSimpArgs false
structure Env (w : World) : Prop where
  room : 3 ≤ w.heap.size
  tabs : Lib.Utf8Tabs (Tryz.laysValid_ren.g 3) (Tryz.laysValid_ren.g 4) w
theorem Env.keep {w w' : World} (h : Env w) (hk : ∀ k, k < 3 → w'.heap[k]? = w.heap[k]?) (hs : 3 ≤ w'.heap.size) : Env w' := by
  have hc : ∀ p : Addr, p.block < 3 → w'.cell? p = w.cell? p := fun p hp => World.cell?_of_block (hk _ hp)
  refine ⟨hs, ⟨fun c hb => ?_, fun i hi => ⟨?_, ?_⟩⟩⟩
  · rw [hc _ (by show 0 < 3; decide)]; exact h.tabs.1 c hb
  · rw [hc _ (by show 1 < 3; decide)]; exact (h.tabs.2 i hi).1
  · rw [hc _ (by show 1 < 3; decide)]; exact (h.tabs.2 i hi).2
theorem Env.below {w w' : World} {B : Nat} (h : Env w) (hb : Below B w w') (hB : 3 ≤ B) : Env w' := h.keep (fun k hk => hb.block k (by omega)) (Nat.le_trans h.room hb.size)
theorem valid_any (s : ByteArray) (hs : s.size ≤ 140737488355328) (w : World) (hE : Env w) : Calls Tryz.prog 116 #[.string s] w fun e w' => e = .returned (.bool (Lib.validD s.data.toList)) ∧ Below w.heap.size w w' :=
  Any.utf8_ValidString Tryz.laysValid s w (by omega) hE.tabs
def nameOk (l : List UInt8) : Bool := decide (l.length ≥ 1) && decide (l.length ≤ 64) && Lib.validD l && !l.contains 0
theorem index_ge (l : List UInt8) (c : UInt8) : -1 ≤ Lib.indexByte l c := by
  induction l with
  | nil => simp [Lib.indexByte]
  | cons b l ih =>
    rw [Lib.indexByte]
    split
    · omega
    · split <;> omega
theorem index_neg (l : List UInt8) (c : UInt8) : (Lib.indexByte l c < 0) ↔ l.contains c = false := by
  induction l with
  | nil => simp [Lib.indexByte]
  | cons b l ih =>
    rw [Lib.indexByte, List.contains_cons]
    by_cases h : b = c
    · subst h; simp
    · have h1 : (b == c) = false := beq_eq_false_iff_ne.2 h
      have h2 : (c == b) = false := beq_eq_false_iff_ne.2 (fun e => h e.symm)
      rw [h1, h2]
      simp only [Bool.false_eq_true, if_false, Bool.false_or]
      have := index_ge l c
      rw [← ih]
      split
      · rename_i e; simp only [beq_iff_eq] at e; omega
      · rename_i e; simp only [beq_iff_eq] at e; omega
set_option maxHeartbeats 1000000 in
theorem name_any (s : ByteArray) (hs : s.size ≤ 140737488355328) (w : World) (hE : Env w) : Calls Tryz.prog 136 #[.string s] w fun e w' => e = .returned (.bool (nameOk s.data.toList)) ∧ Below w.heap.size w w' := by
  have HV : Hid (nameOk s.data.toList = (decide (s.size ≥ 1) && decide (s.size ≤ 64) && Lib.validD s.data.toList && !s.data.toList.contains 0)) := by
    show _ = _
    unfold nameOk
    simp
  have HX := hidE (index_neg s.data.toList 0)
  have HU := hidE (valid_any s hs w hE)
  have HI := hidE (fun w => Tryz.strings_IndexByte s 0 w)
  generalize nameOk s.data.toList = v at HV ⊢
  generalize Lib.validD s.data.toList = u at HV HU
  have HI2 : Hid (∀ w, Calls Tryz.prog 157 #[.string s, .int .u8 0] w fun e w' => e = .returned (.int .i64 (Lib.indexByte s.data.toList 0)) ∧ w' = w) := HI.out
  generalize Lib.indexByte s.data.toList 0 = i at HX HI2
  generalize s.data.toList.contains 0 = z at HV HX
  clear HI
  go_enter Tryz.func136, Tryz.ntmps136
  by_cases h0 : s.size = 0
  · have e0 : s.toList.isEmpty = true := by
      rw [ByteArray.toList_eq, List.isEmpty_iff]
      exact List.eq_nil_of_length_eq_zero (by simpa using h0)
    have HE : Hid (v = false) := by show _ = _; rw [HV.out, h0]; simp
    clear h0
    go_wp2_with fail
    go_ret
    rw [HE.out]
    exact ⟨rfl, Below.refl _ _⟩
  · have e0 : s.toList.isEmpty = false := by
      rw [ByteArray.toList_eq, Bool.eq_false_iff, ne_eq, List.isEmpty_iff]
      intro e
      have := congrArg List.length e
      exact h0 (by simpa using this)
    by_cases h1 : s.size ≤ 64
    · have h1' : (s.size : Int) ≤ 64 := by omega
      go_wp2_with fail
      refine HU.out.mono ?_
      rintro e w1 ⟨rfl, hb⟩
      have HB := hidE hb
      clear hb
      cases u with
      | true =>
        have HE : Hid (v = !z) := by
          show _ = _
          rw [HV.out, decide_eq_true h1, decide_eq_true (by omega : s.size ≥ 1)]; simp
        go_wp2_with fail
        refine (HI2.out _).mono ?_
        rintro e w2 ⟨rfl, rfl⟩
        by_cases hi : i < 0
        · have hz : z = false := HX.out.1 hi
          go_wp2_with fail
          go_ret
          rw [HE.out, hz]
          exact ⟨rfl, HB.out⟩
        · have hz : z = true := by
            cases hz : z with
            | true => rfl
            | false => exact absurd (HX.out.2 hz) hi
          go_wp2_with fail
          go_ret
          rw [HE.out, hz]
          refine ⟨?_, HB.out⟩
          show Ending.returned (.bool (decide (i < 0))) = _
          rw [decide_eq_false (by omega)]
          rfl
      | false =>
        have HE : Hid (v = false) := by show _ = _; rw [HV.out]; simp
        go_wp2_with fail
        go_ret
        rw [HE.out]
        exact ⟨rfl, HB.out⟩
    · have h1' : ¬ (s.size : Int) ≤ 64 := by omega
      have HE : Hid (v = false) := by show _ = _; rw [HV.out, decide_eq_false h1]; simp
      go_wp2_with fail
      go_ret
      rw [HE.out]
      exact ⟨rfl, Below.refl _ _⟩
end Go.Proofs.YthfilnflgahcjaaGreatDoor

namespace Go.Proofs.YthfilnflgahcjaaGreatDoor
open Go.RowKit Go.Shelf
set_option linter.unusedVariables false
section
variable {R K : Type} [DecidableEq K]
/-- The rows whose keys are still wanted, and the keys that are left. -/
def goFirst (key : R → K) : List R → List K → List R × List K
  | [], left => ([], left)
  | r :: rs, left => if left = [] then ([], []) else if key r ∈ left then (r :: (goFirst key rs (delS (key r) left)).1, (goFirst key rs (delS (key r) left)).2) else goFirst key rs left
def firstsL (key : R → K) (zero : R) (rows : List R) (keys : List K) : List R :=
  (goFirst key rows (keys.foldl putS [])).1 ++ List.replicate (goFirst key rows (keys.foldl putS [])).2.length zero
theorem goFirst_none {key : R → K} : ∀ (rows : List R), goFirst key rows [] = ([], [])
  | [] => rfl
  | r :: rs => by rw [goFirst, if_pos rfl]
theorem goFirst_hit {key : R → K} {rows : List R} {left : List K} {j : Nat} {r : R} (h : rows[j]? = some r) (hl : left ≠ []) (hm : key r ∈ left) : goFirst key (rows.drop j) left = (r :: (goFirst key (rows.drop (j + 1)) (delS (key r) left)).1, (goFirst key (rows.drop (j + 1)) (delS (key r) left)).2) := by
  obtain ⟨hj, hx⟩ := List.getElem?_eq_some_iff.1 h
  rw [List.drop_eq_getElem_cons hj, hx, goFirst, if_neg hl, if_pos hm]
theorem goFirst_miss {key : R → K} {rows : List R} {left : List K} {j : Nat} {r : R} (h : rows[j]? = some r) (hl : left ≠ []) (hm : key r ∉ left) : goFirst key (rows.drop j) left = goFirst key (rows.drop (j + 1)) left := by
  obtain ⟨hj, hx⟩ := List.getElem?_eq_some_iff.1 h
  rw [List.drop_eq_getElem_cons hj, hx, goFirst, if_neg hl, if_neg hm]
theorem goFirst_len {key : R → K} : ∀ (rows : List R) (left : List K), (goFirst key rows left).1.length + (goFirst key rows left).2.length = left.length
  | [], left => by simp [goFirst]
  | r :: rs, left => by
    rw [goFirst]
    split
    · rename_i h; simp [h]
    · split
      · rename_i hl hm
        have := goFirst_len (key := key) rs (delS (key r) left)
        have := delS_len hm
        simp only [List.length_cons]; omega
      · exact goFirst_len rs left
theorem putS_len (l : List K) (k : K) : (putS l k).length ≤ l.length + 1 := by
  unfold putS
  split <;> simp
theorem puts_len : ∀ (ks : List K) (l : List K), (ks.foldl putS l).length ≤ l.length + ks.length
  | [], l => by simp
  | k :: r, l => by
    have := puts_len r (putS l k)
    have := putS_len l k
    simp only [List.foldl_cons, List.length_cons]; omega
theorem puts_at {ks : List K} {j : Nat} {k : K} (h : ks[j]? = some k) : (ks.take (j + 1)).foldl putS [] = putS ((ks.take j).foldl putS []) k := by
  rw [List.take_add_one, h]
  simp
theorem puts_nodup : ∀ (ks : List K) (l : List K), l.Nodup → (ks.foldl putS l).Nodup
  | [], l, h => h
  | k :: r, l, h => puts_nodup r _ (putS_nodup h k)
theorem puts_mem : ∀ (ks : List K) (l : List K) (x : K), x ∈ ks.foldl putS l ↔ x ∈ l ∨ x ∈ ks
  | [], l, x => by simp
  | k :: r, l, x => by
    rw [List.foldl_cons, puts_mem r, putS]
    split
    · rename_i h
      simp only [List.mem_cons]
      constructor
      · rintro (h' | h') <;> simp [h']
      · rintro (h' | rfl | h')
        · exact .inl h'
        · exact .inl h
        · exact .inr h'
    · simp only [List.mem_append, List.mem_cons, List.not_mem_nil, or_false]
      constructor
      · rintro ((h' | h') | h') <;> simp [h']
      · rintro (h' | h' | h') <;> simp [h']
end
end Go.Proofs.YthfilnflgahcjaaGreatDoor

namespace Go.Proofs.YthfilnflgahcjaaGreatDoor
open Go.RowKit Go.Shelf
set_option linter.unusedVariables false
set_option linter.unusedSimpArgs false
attribute [local go_sem] Oper.semAt_some
theorem f56_any (s : ByteArray) (n : Int) (w : World) : Calls Tryz.prog 56 #[.agg #[.string s, .int .i64 n]] w fun e w' => e = .returned (.string s) ∧ Below w.heap.size w w' := by
  go_enter Tryz.func56, Tryz.ntmps56
  go_wp2
  go_ret
  exact ⟨rfl, (Below.refl _ _).alloc (Nat.le_refl _) _⟩
theorem f59_any (s : ByteArray) (n : Int) (w : World) : Calls Tryz.prog 59 #[.agg #[.string s, .int .i64 n]] w fun e w' => e = .returned (.string s) ∧ Below w.heap.size w w' := by
  go_enter Tryz.func59, Tryz.ntmps59
  go_wp2
  go_ret
  exact ⟨rfl, (Below.refl _ _).alloc (Nat.le_refl _) _⟩
theorem f60_any (s : ByteArray) (n : Int) (w : World) : Calls Tryz.prog 60 #[.agg #[.string s, .int .i64 n]] w fun e w' => e = .returned (.int .i64 n) ∧ Below w.heap.size w w' := by
  go_enter Tryz.func60, Tryz.ntmps60
  go_wp2
  go_ret
  exact ⟨rfl, (Below.refl _ _).alloc (Nat.le_refl _) _⟩
theorem f111_any (s t : ByteArray) (b : Bool) (n : Int) (w : World) : Calls Tryz.prog 111 #[.agg #[.string s, .string t, .bool b, .int .i64 n]] w fun e w' => e = .returned (.int .i64 n) ∧ Below w.heap.size w w' := by
  go_enter Tryz.func111, Tryz.ntmps111
  go_wp2
  go_ret
  exact ⟨rfl, (Below.refl _ _).alloc (Nat.le_refl _) _⟩
set_option maxHeartbeats 1000000 in
theorem f108_any (s t : ByteArray) (b : Bool) (n : Int) (w : World) : Calls Tryz.prog 108 #[.agg #[.string s, .string t, .bool b, .int .i64 n]] w fun e w' => e = .returned (.agg #[.string s, .string t, .bool b, .int .i64 0]) ∧ Below w.heap.size w w' := by
  go_enter Tryz.func108, Tryz.ntmps108
  go_wp2
  refine bodyPost_ret (by simp [results, Tryz.results108, go_sem]) rfl ⟨rfl, ((Below.refl _ _).alloc (Nat.le_refl _) _).alloc (by simp) _⟩
set_option maxHeartbeats 1000000 in
theorem f62_any (s t : ByteArray) (m n : Int) (w : World) : Calls Tryz.prog 62 #[.agg #[.string s, .string t, .int .i64 m, .int .i64 n]] w fun e w' => e = .returned (.agg #[.string s, .string t, .int .i64 0, .int .i64 0]) ∧ Below w.heap.size w w' := by
  go_enter Tryz.func62, Tryz.ntmps62
  go_wp2
  refine bodyPost_ret (by simp [results, Tryz.results62, go_sem]) rfl ⟨rfl, ((Below.refl _ _).alloc (Nat.le_refl _) _).alloc (by simp) _⟩
end Go.Proofs.YthfilnflgahcjaaGreatDoor

namespace Go.Proofs.YthfilnflgahcjaaGreatDoor
open Go.RowKit Go.Shelf
set_option linter.unusedVariables false
set_option linter.unusedSimpArgs false
theorem zero_cells {α : Type} {k : Nat} {z : Value} {enc : α → List Value} {x : α} (hz : z.cells.toList = enc x) (hk : (enc x).length = k) (hk0 : 0 < k) : ∀ m, (Builtin.zeroCells z.cells m).toList = ((List.replicate m x).map enc).flatten := by
  intro m
  have hsz : z.cells.size = k := by rw [← hk, ← hz]; simp
  refine List.ext_getElem? fun i => ?_
  have hlen : ((List.replicate m x).map enc).flatten.length = m * k := by
    rw [sflat_len (k := k) _ (fun c hc => by obtain ⟨y, hy, rfl⟩ := List.mem_map.1 hc; rw [List.eq_of_mem_replicate hy]; exact hk)]
    simp
  by_cases hi : i < m * k
  · have hq : i / k < m := Nat.div_lt_of_lt_mul (by rwa [Nat.mul_comm] at hi)
    have hdm : i / k * k + i % k = i := by rw [Nat.mul_comm]; exact Nat.div_add_mod i k
    have e := sflat_at (k := k) ((List.replicate m x).map enc) (i / k) (i % k) (enc x) (fun c hc => by obtain ⟨y, hy, rfl⟩ := List.mem_map.1 hc; rw [List.eq_of_mem_replicate hy]; exact hk) (by simp [hq]) (Nat.mod_lt _ hk0)
    rw [hdm] at e
    rw [e, ← hz]
    have hm : i % k < z.cells.size := by rw [hsz]; exact Nat.mod_lt _ hk0
    simp only [Builtin.zeroCells, hsz, Array.toList_map, Array.toList_range, List.getElem?_map, List.getElem?_range hi, Option.map_some, Array.getElem?_toList]
    rw [Array.getElem?_eq_getElem hm, getElem!_pos z.cells _ hm]
  · rw [List.getElem?_eq_none (show (Builtin.zeroCells z.cells m).toList.length ≤ i by simp only [Builtin.zeroCells, Array.toList_map, Array.toList_range, List.length_map, List.length_range, hsz]; omega), List.getElem?_eq_none (by rw [hlen]; omega)]
theorem append_zeros {α : Type} {t tn e ty k bytes base m : Nat} {z : Value} (hE : ElemIs t e k bytes z) (htn : Tryz.prog.underlying tn = some (.int .i64)) {enc : α → List Value} {x : α} (hk : ∀ x, (enc x).length = k) (h1 : ∀ x, ∀ u ∈ enc x, u.oneCell' = true) (hzx : z.cells.toList = enc x) {v : Value} {xs : List α} {w : World} (hown : ORow e k enc base w v xs) (hn : xs.length + m ≤ 1000000) (hb : base ≤ w.heap.size) :
    ∃ v' w', (Builtin.append_ #[t, tn] ty #[v, .int .i64 m]).run Tryz.prog w = .ok v' w' ∧ ORow e k enc base w' v' (xs ++ List.replicate m x) ∧ Below base w w' := by
  obtain ⟨ht, i, hi, hz, hsize, hby, hzs, hk0, hbb⟩ := hE
  subst hsize hby
  have hw : IntKind.i64.wrap (m : Int) = m := by rw [IntKind.wrap_i64]; omega
  have hw0 : IntKind.i64.wrap 0 = 0 := by rw [IntKind.wrap_i64]; rfl
  have hneg : ¬ ((m : Int) < 0) := by omega
  have hbm : m * i.bytes ≤ 1000000 * 4096 := Nat.mul_le_mul (by omega) hbb
  have h48i : ¬ (281474976710656 < (m : Int) * (i.bytes : Int)) := by
    rw [← Int.natCast_mul]
    omega
  obtain ⟨news, hnews⟩ : ∃ l, (Builtin.zeroCells z.cells m).toList = l := ⟨_, rfl⟩
  have hnx := hnews.symm.trans (zero_cells hzx (hk x) hk0 m)
  have hnl : news.length = m * i.size := by rw [← hnews]; simp [Builtin.zeroCells, hzs]
  have hn1 : ∀ u ∈ news, u.oneCell' = true := by
    intro u hu
    rw [hnx] at hu
    obtain ⟨c, hc, hu⟩ := List.mem_flatten.1 hu
    obtain ⟨y, hy, rfl⟩ := List.mem_map.1 hc
    exact h1 y u hu
  have hza : Builtin.zeroCells z.cells m = news.toArray := by rw [← hnews]
  have fin : ∀ {v' : Value} {w' : World}, w'.ownsRow base e i.size v' (xs.length + m) ((xs.map enc).flatten ++ news) → ORow e i.size enc base w' v' (xs ++ List.replicate m x) := fun {v' w'} h => by
    unfold ORow
    rw [List.length_append, List.length_replicate, List.map_append, List.flatten_append, ← hnx]
    exact h
  have hlen : ((xs.map enc).flatten ++ news).length = (xs.length + m) * i.size := by rw [List.length_append, hown.1, hnl, Nat.add_mul]
  have grown : ∀ (old : Nat), old < xs.length + m →
      (w.drew.alloc (.cells (((xs.map enc).flatten).toArray ++ news.toArray ++ Builtin.zeroCells z.cells (grownCap w (xs.length + m) old e - (xs.length + m))) e)).ownsRow base e i.size
        (.slice (some ⟨w.heap.size, 0, none⟩) (xs.length + m) (grownCap w (xs.length + m) old e)) (xs.length + m) ((xs.map enc).flatten ++ news) := by
    intro old ho
    have hge := grownCap_ge w (xs.length + m) old e
    have hcm : grownCap w (xs.length + m) old e ≤ maxLen := grownCap_le_maxLen w (xs.length + m) old e (by unfold maxLen; omega)
    refine ⟨hlen, .inr ⟨w.heap.size, _, _, rfl, hb, heap_alloc_new w.drew _, hge, hcm, ?_, ?_⟩⟩
    · simp only [Array.size_append, List.size_toArray, size_zeroCells, hzs, hown.1, hnl, ← Nat.add_mul]
      rw [Nat.add_sub_cancel' hge]
    · simp only [Array.toList_append, List.append_assoc]
      rw [← List.append_assoc, ← hlen]
      exact List.take_left
  have up : ∀ o, Below base w (w.drew.alloc o) := fun o => ((Below.refl base w).drew).alloc hb o
  rcases hown.2 with ⟨rfl, hx0⟩ | ⟨g, cap, cur, rfl, hbg, hg, hnc, hcm, hcs, htake⟩
  · have hx : xs = [] := List.eq_nil_of_length_eq_zero hx0
    subst hx
    by_cases hm : m = 0
    · subst hm
      refine ⟨.slice none 0 0, w, ?_, orow_nil _ _ _ _ _, Below.refl _ _⟩
      simp [Builtin.append_, run_underlying ht, run_underlying htn, sizeOf, typeInfo, hi, asInt, asIntOf, hw0]
    · have hr := Lib.run_append_nil_zeros (P := Tryz.prog) w t tn ty e i z .i64 .i64 ht htn hi hz m (by omega) hk0 (by omega) (by omega)
      have hgr := grown 0 (by simp; omega)
      simp only [List.length_nil, Nat.zero_add, List.map_nil, List.flatten_nil, List.nil_append, Array.empty_append] at hgr
      rw [hza] at hr
      refine ⟨_, _, hr, fin ?_, up _⟩
      simpa using hgr
  · by_cases hroom : xs.length + m ≤ cap
    · have hfit : xs.length * i.size + news.length ≤ cur.size := by rw [hnl, hcs, ← Nat.add_mul]; exact Nat.mul_le_mul_right _ hroom
      have hst := run_storeCells_at Tryz.prog g (xs.length * i.size) e news 0 cur w hg (by simpa using hfit) hn1
      simp only [Nat.add_zero] at hst
      have hr : (Builtin.append_ #[t, tn] ty #[.slice (some ⟨g, 0, none⟩) xs.length cap, .int .i64 m]).run Tryz.prog w = .ok (.slice (some ⟨g, 0, none⟩) (xs.length + m) cap) (w.setRow g (cur.toList.take (xs.length * i.size) ++ news ++ cur.toList.drop (xs.length * i.size + news.length)).toArray) := by
        by_cases hm : m = 0
        · subst hm
          have hn0 : news = [] := List.eq_nil_of_length_eq_zero (by rw [hnl, Nat.zero_mul])
          subst hn0
          simp [Builtin.append_, run_underlying ht, run_underlying htn, sizeOf, typeInfo, zeroValue, hi, hz, asInt, asIntOf, hw0, hnc, Addr.add_lit, hst]
        · have hns : ¬ (m * i.size = 0) := Nat.mul_ne_zero hm (by omega)
          simp [Builtin.append_, run_underlying ht, run_underlying htn, sizeOf, typeInfo, zeroValue, hi, hz, asInt, asIntOf, hw, hneg, hns, h48i, hroom, hza, Addr.add_lit, hst]
      refine ⟨_, _, hr, fin ⟨hlen, .inr ⟨g, cap, _, rfl, hbg, setRow_heap w g cur _ e _ hg, hroom, hcm, ?_, ?_⟩⟩, ⟨rfl, rfl, rfl, by simp, fun k hk => setRow_other w g k _ (by omega)⟩⟩
      · simp only [List.size_toArray, List.length_append, List.length_take, List.length_drop, Array.length_toList]
        omega
      · rw [htake, ← hlen]
        exact List.take_left
    · have holds : ∀ j u, ((xs.map enc).flatten)[j]? = some u → w.cell? ((⟨g, 0, none⟩ : Addr).add j) = some u := World.ownsRow.cells (g := g) hown rfl
      have hm : ¬ m = 0 := by omega
      have hns : ¬ (m * i.size = 0) := Nat.mul_ne_zero hm (by omega)
      have h63' : ¬ (9223372036854775807 < ((xs.length : Int) + (m : Int))) := by omega
      have hfit := growslice_fits (need := xs.length + m) (old := cap) (bytes := i.bytes) (by omega) (Nat.le_trans (Nat.mul_le_mul hn hbb) (by decide))
      have h48' : ¬ (281474976710656 < Builtin.nextslicecap (xs.length + m) cap * i.bytes) := by omega
      have hfo := run_firstCells_some (P := Tryz.prog) w.drew i.size xs.length ⟨g, 0, none⟩ xs.length cap _ hown.1 (by simpa using holds)
      have hr : (Builtin.append_ #[t, tn] ty #[.slice (some ⟨g, 0, none⟩) xs.length cap, .int .i64 m]).run Tryz.prog w = .ok (.slice (some ⟨w.heap.size, 0, none⟩) (xs.length + m) (grownCap w (xs.length + m) cap e)) (w.drew.alloc (.cells (((xs.map enc).flatten).toArray ++ news.toArray ++ Builtin.zeroCells z.cells (grownCap w (xs.length + m) cap e - (xs.length + m))) e)) := by
        simp [Builtin.append_, run_underlying ht, run_underlying htn, sizeOf, typeInfo, zeroValue, hi, hz, asInt, asIntOf, hw, hneg, hns, h48i, hroom, h63', h48', Question.forced, hza, hfo, newRow, grownCap]
        exact congrArg (fun a => w.drew.alloc (.cells a e)) (by apply Array.ext'; simp [List.append_assoc])
      exact ⟨_, _, hr, fin (grown cap (by omega)), up _⟩
end Go.Proofs.YthfilnflgahcjaaGreatDoor

