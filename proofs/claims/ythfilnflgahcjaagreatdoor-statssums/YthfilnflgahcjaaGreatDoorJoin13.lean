/- Rows held against each other: what the sorts ask. Rows of ends and keys held against each other. Rows of their own put in order where they lie: what the sorts of at most twelve leave. Rows of their own put in order where they lie: what a sort of any length leaves. The sort of counts' rows, at most twelve of them (121). The sort of counts' rows, at most twelve of them (123). -/
import Derived.Shelf.SlSortCmp.InsertionK
import Derived.Test.YthfilnflgahcjaaGreatDoorJoin8
import Derived.Test.YthfilnflgahcjaaGreatDoorShelf2
import Derived.Test.YthfilnflgahcjaaGreatDoorJoin4
import Derived.Test.YthfilnflgahcjaaGreatDoorJoin2
import Derived.Test.YthfilnflgahcjaaGreatDoorJoin12
namespace Go.Proofs.YthfilnflgahcjaaGreatDoor
open Go.RowKit Go.Shelf Go.Sort
set_option linter.unusedVariables false
set_option linter.unusedSimpArgs false
attribute [local go_sem] Oper.semAt_some
noncomputable def cmpB (a b : ByteArray) : Int := Lib.compareBytes a.data.toList b.data.toList
noncomputable def cfL (x y : ByteArray × Int) : Int := cmpB x.1 y.1
set_option maxRecDepth 100000 in
set_option maxHeartbeats 4000000 in
theorem cmp85_any (x y : ByteArray × Int) (w : World) : Calls Tryz.prog 85 (#[.agg (labC x).toArray, .agg (labC y).toArray] ++ #[]) w fun e w' => e = .returned (.int .i64 (cfL x y)) ∧ ∃ q os', w' = grow (w.drewN q) os' := by
  obtain ⟨key, n⟩ := x
  obtain ⟨key2, n2⟩ := y
  have HC := hidE (fun W => Tryz.strings_Compare key key2 W)
  have HF : Hid (cfL (key, n) (key2, n2) = Lib.compareBytes key.data.toList key2.data.toList) := rfl
  simp only [labC]
  generalize cfL _ _ = z at HF ⊢
  rw [← HF.out] at HC
  clear HF
  go_enter Tryz.func85, Tryz.ntmps85
  go_upto_region 1 with fail
  generalize hW1 : World.alloc _ _ = W1
  have hr1 : Rec ((w.alloc (.cells #[.string key, .int .i64 n] 42)).alloc (.cells #[.string key2, .int .i64 n2] 42)) w.heap.size #[.string key, .int .i64 n] 42 := (rec_new w #[.string key, .int .i64 n] 42).below ((Below.refl _ _).alloc (Nat.le_refl _) _) (by simp)
  have hr2 := rec_new (w.alloc (.cells #[.string key, .int .i64 n] 42)) #[.string key2, .int .i64 n2] 42
  rw [hW1] at hr1 hr2
  rw [World.size_alloc] at hr2
  have HG : Hid (∃ os', W1 = grow w os') := ⟨_, by rw [← hW1, alloc_eq_grow, alloc_eq_grow, grow_grow]⟩
  have a0 := hr1.cell 0 rfl
  have b0 := hr2.cell 0 rfl
  clear hr1 hr2 hW1
  go_wp2_with fail
  refine (HC.out W1).mono ?_
  rintro e w2 ⟨rfl, hw2⟩
  rw [hw2]
  clear hw2
  go_wp2_with fail
  go_ret
  obtain ⟨os', h⟩ := HG.out
  exact ⟨rfl, 0, os', by rw [h]; rfl⟩
set_option maxRecDepth 100000 in
set_option maxHeartbeats 4000000 in
theorem cmp89_any (x y : ByteArray × Int) (w : World) : Calls Tryz.prog 89 (#[.agg (labC x).toArray, .agg (labC y).toArray] ++ #[]) w fun e w' => e = .returned (.int .i64 (cfL x y)) ∧ ∃ q os', w' = grow (w.drewN q) os' := by
  obtain ⟨key, n⟩ := x
  obtain ⟨key2, n2⟩ := y
  have HC := hidE (fun W => Tryz.strings_Compare key key2 W)
  have HF : Hid (cfL (key, n) (key2, n2) = Lib.compareBytes key.data.toList key2.data.toList) := rfl
  simp only [labC]
  generalize cfL _ _ = z at HF ⊢
  rw [← HF.out] at HC
  clear HF
  go_enter Tryz.func89, Tryz.ntmps89
  go_upto_region 1 with fail
  generalize hW1 : World.alloc _ _ = W1
  have hr1 : Rec ((w.alloc (.cells #[.string key, .int .i64 n] 62)).alloc (.cells #[.string key2, .int .i64 n2] 62)) w.heap.size #[.string key, .int .i64 n] 62 := (rec_new w #[.string key, .int .i64 n] 62).below ((Below.refl _ _).alloc (Nat.le_refl _) _) (by simp)
  have hr2 := rec_new (w.alloc (.cells #[.string key, .int .i64 n] 62)) #[.string key2, .int .i64 n2] 62
  rw [hW1] at hr1 hr2
  rw [World.size_alloc] at hr2
  have HG : Hid (∃ os', W1 = grow w os') := ⟨_, by rw [← hW1, alloc_eq_grow, alloc_eq_grow, grow_grow]⟩
  have a0 := hr1.cell 0 rfl
  have b0 := hr2.cell 0 rfl
  clear hr1 hr2 hW1
  go_wp2_with fail
  refine (HC.out W1).mono ?_
  rintro e w2 ⟨rfl, hw2⟩
  rw [hw2]
  clear hw2
  go_wp2_with fail
  go_ret
  obtain ⟨os', h⟩ := HG.out
  exact ⟨rfl, 0, os', by rw [h]; rfl⟩
/-- False is ahead of true. -/
def cmpT (a b : Bool) : Int := if a = b then 0 else if b then -1 else 1
set_option maxRecDepth 100000 in
theorem ahead_any (a b : Bool) (w : World) : Calls Tryz.prog 95 #[.bool a, .bool b] w fun e w' => e = .returned (.int .i64 (cmpT a b)) ∧ w' = w := by
  have H : Hid (∀ a b, cmpT a b = cmpT a b) := fun _ _ => rfl
  cases a <;> cases b
  all_goals
    go_enter Tryz.func95, Tryz.ntmps95
    go_wp2_with fail
  all_goals
    go_ret
    exact ⟨rfl, rfl⟩
/-- The first that is not 0. -/
def orI : List Int → Int
  | [] => 0
  | x :: r => if x = 0 then orI r else x
theorem orI_drop (xs : List Int) (j : Nat) (h : ∀ i, i < j → xs.getD i 0 = 0) : orI xs = orI (xs.drop j) := by
  induction j generalizing xs with
  | zero => rfl
  | succ j ih =>
    cases xs with
    | nil => simp
    | cons x r =>
      have h0 : x = 0 := by simpa using h 0 (by omega)
      subst h0
      simp only [orI, if_true, List.drop_succ_cons]
      exact ih r fun i hi => by simpa using h (i + 1) (by omega)
set_option maxRecDepth 100000 in
set_option maxHeartbeats 4000000 in
theorem or_any (xs : List Int) (b off c : Nat) (w : World) (hl : xs.length ≤ 1000) (hc : ∀ i, i < xs.length → w.cell? ⟨b, off + i, none⟩ = some (.int .i64 (xs.getD i 0))) : Calls Tryz.prog 94 #[.slice (some ⟨b, off, none⟩) xs.length c] w fun e w' => e = .returned (.int .i64 (orI xs)) ∧ w' = w := by
  have HC := hidE hc
  obtain ⟨n, hn⟩ : ∃ n, xs.length = n := ⟨_, rfl⟩
  have HN := hidE hn
  rw [hn] at hl ⊢
  clear hc hn
  go_enter Tryz.func94, Tryz.ntmps94
  go_wp2_with fail
  go_loopw [8] (fun i wr => ∃ j : Nat, j ≤ n ∧ i = .int .i64 j ∧ wr = w ∧ ∀ i, i < j → xs.getD i 0 = 0) (fun i _ => n - (intOf i).toNat)
  case atStart => exact ⟨0, Nat.zero_le _, rfl, rfl, fun i hi => by omega⟩
  case round =>
    obtain ⟨j, hj, rfl, hwr, hz⟩ := hrel
    have HZ := hidE hz
    rw [hwr]
    clear hz hwr
    by_cases hlt : j < n
    · have hlt' : (j : Int) < n := by omega
      have cx := HC.out j (by have := HN.out; omega)
      obtain ⟨z, hzz⟩ : ∃ z, xs.getD j 0 = z := ⟨_, rfl⟩
      rw [hzz] at cx
      have HJ := hidE hzz
      clear hzz
      by_cases h0 : z = 0
      · have HJ0 : Hid (xs.getD j 0 = 0) := HJ.out.trans h0
        subst h0
        go_wp2_with fail
        go_roundw
        case rel =>
          refine ⟨j + 1, by omega, by go_num, by trivial, fun i hi => ?_⟩
          by_cases hij : i = j
          · subst hij; exact HJ0.out
          · exact HZ.out i (by omega)
        case measure => simp [intOf]; omega
      · go_wp2_with fail
        go_ret
        refine ⟨?_, rfl⟩
        have h1 := orI_drop xs j HZ.out
        have h2 : xs.drop j = xs.getD j 0 :: xs.drop (j + 1) := by
          have hjl : j < xs.length := by have := HN.out; omega
          rw [List.drop_eq_getElem_cons hjl]; simp [List.getD_eq_getElem?_getD, hjl]
        rw [h1, h2, HJ.out, orI, if_neg h0]
        rfl
    · have hlt' : ¬ (j : Int) < n := by omega
      go_wp2_with fail
      go_ret
      refine ⟨?_, rfl⟩
      rw [orI_drop xs j HZ.out, List.drop_of_length_le (by have := HN.out; omega)]
      rfl
end Go.Proofs.YthfilnflgahcjaaGreatDoor

namespace Go.Proofs.YthfilnflgahcjaaGreatDoor
open Go.RowKit Go.Shelf Go.Sort
set_option linter.unusedVariables false
set_option linter.unusedSimpArgs false
attribute [local go_sem] Oper.semAt_some
theorem wp_then_lit {P : Program} {Q : Exit → Act → World → Prop} {id : Nat} {L : List Oper} {a : Act} {w : World} (k : Nat) (T : List Nat) (hm : P.follows .mixedOrders = true) (hB : thenB L k T = true)
    (h : wpQuiet P L.toArray (fun w' => ∃ n, w' = w.drewN n) (fun a' => ∀ w', (∃ n, w' = w.drewN n) → wpList P L.toArray Q (pickL L T) a' w') (L.take k) a) : (Code.region id L.toArray true).wp P Q a w :=
  wp_then (C := fun w' => ∃ n, w' = w.drewN n) k T hm hB ⟨1, rfl⟩ h
noncomputable def cfE (x y : EndR) : Int := orI [cmpB x.1 y.1, cmpB x.2.1 y.2.1, cmpT x.2.2.1 y.2.2.1]
set_option maxRecDepth 100000 in
set_option maxHeartbeats 4000000 in
theorem cmp93_any (x y : EndR) (w : World) : Calls Tryz.prog 93 (#[.agg (endC x).toArray, .agg (endC y).toArray] ++ #[]) w fun e w' => e = .returned (.int .i64 (cfE x y)) ∧ ∃ q os', w' = grow (w.drewN q) os' := by
  obtain ⟨t, l, o, n⟩ := x
  obtain ⟨t2, l2, o2, n2⟩ := y
  have H1 := hidE (fun W => Tryz.strings_Compare t t2 W)
  have H2 := hidE (fun W => Tryz.strings_Compare l l2 W)
  have H3 := hidE (fun W => ahead_any o o2 W)
  have HF : Hid (cfE (t, l, o, n) (t2, l2, o2, n2) = orI [Lib.compareBytes t.data.toList t2.data.toList, Lib.compareBytes l.data.toList l2.data.toList, cmpT o o2]) := rfl
  simp only [endC]
  generalize cfE _ _ = z at HF ⊢
  generalize Lib.compareBytes t.data.toList t2.data.toList = z1 at HF H1
  generalize Lib.compareBytes l.data.toList l2.data.toList = z2 at HF H2
  generalize cmpT o o2 = z3 at HF H3
  have HO := hidE (fun b W h => or_any [z1, z2, z3] b 0 3 W (by simp) h)
  rw [← HF.out] at HO
  clear HF
  go_enter Tryz.func93, Tryz.ntmps93
  go_upto_region 1 with fail
  generalize hW1 : World.alloc _ _ = W1
  have hr1 : Rec ((w.alloc (.cells #[.string t, .string l, .bool o, .int .i64 n] 64)).alloc (.cells #[.string t2, .string l2, .bool o2, .int .i64 n2] 64)) w.heap.size #[.string t, .string l, .bool o, .int .i64 n] 64 := (rec_new w #[.string t, .string l, .bool o, .int .i64 n] 64).below ((Below.refl _ _).alloc (Nat.le_refl _) _) (by simp)
  have hr2 := rec_new (w.alloc (.cells #[.string t, .string l, .bool o, .int .i64 n] 64)) #[.string t2, .string l2, .bool o2, .int .i64 n2] 64
  rw [hW1] at hr1 hr2
  rw [World.size_alloc] at hr2
  have HG : Hid (∃ os', W1 = grow w os') := ⟨_, by rw [← hW1, alloc_eq_grow, alloc_eq_grow, grow_grow]⟩
  have a0 := hr1.cell 0 rfl
  have a1 := hr1.cell 1 rfl
  have a2 := hr1.cell 2 rfl
  have b0 := hr2.cell 0 rfl
  have b1 := hr2.cell 1 rfl
  have b2 := hr2.cell 2 rfl
  clear hr1 hr2 hW1
  refine wp_then_lit 15 [15, 16, 17] (by kernel_rfl) (by kernel_rfl) ?_
  simp only [List.take_succ_cons, List.take_zero]
  repeat (go_big_quiet_step (first | (go_at_call 95; exact Calls.quiet_of_same (H3.out _)) | (exact Calls.quiet_of_same (H1.out _)) | (exact Calls.quiet_of_same (H2.out _))))
  refine wpQuiet_nil ?_
  rintro w' ⟨nq, rfl⟩
  simp only [pickL, nthL]
  go_wp2_with fail
  have hcc : ∀ i, i < [z1, z2, z3].length → ((W1.drewN nq).alloc (.cells #[.int .i64 z1, .int .i64 z2, .int .i64 z3] 3)).cell? ⟨W1.heap.size, 0 + i, none⟩ = some (.int .i64 ([z1, z2, z3].getD i 0)) := fun i hi => by
    have hr := rec_new (W1.drewN nq) #[.int .i64 z1, .int .i64 z2, .int .i64 z3] 3
    match i, hi with
    | 0, _ => exact hr.cell 0 rfl
    | 1, _ => exact hr.cell 1 rfl
    | 2, _ => exact hr.cell 2 rfl
  refine (HO.out _ _ hcc).mono ?_
  rintro e w2 ⟨rfl, hw2⟩
  rw [hw2]
  clear hw2 hcc
  go_wp2_with fail
  go_ret
  obtain ⟨os', h⟩ := HG.out
  refine ⟨rfl, nq, os'.push (.cells #[.int .i64 z1, .int .i64 z2, .int .i64 z3] 3), ?_⟩
  rw [h]
  simp [alloc_eq_grow, grow, World.drewN]
noncomputable def cfK (x y : KeyR) : Int := orI [cmpB x.1 y.1, cmpB x.2.1 y.2.1]
set_option maxRecDepth 100000 in
set_option maxHeartbeats 4000000 in
theorem cmp99_any (x y : KeyR) (w : World) : Calls Tryz.prog 99 (#[.agg (keyC x).toArray, .agg (keyC y).toArray] ++ #[]) w fun e w' => e = .returned (.int .i64 (cfK x y)) ∧ ∃ q os', w' = grow (w.drewN q) os' := by
  obtain ⟨t, l, o, n⟩ := x
  obtain ⟨t2, l2, o2, n2⟩ := y
  have H1 := hidE (fun W => Tryz.strings_Compare t t2 W)
  have H2 := hidE (fun W => Tryz.strings_Compare l l2 W)
  have HF : Hid (cfK (t, l, o, n) (t2, l2, o2, n2) = orI [Lib.compareBytes t.data.toList t2.data.toList, Lib.compareBytes l.data.toList l2.data.toList]) := rfl
  simp only [keyC]
  generalize cfK _ _ = z at HF ⊢
  generalize Lib.compareBytes t.data.toList t2.data.toList = z1 at HF H1
  generalize Lib.compareBytes l.data.toList l2.data.toList = z2 at HF H2
  have HO := hidE (fun b W h => or_any [z1, z2] b 0 2 W (by simp) h)
  rw [← HF.out] at HO
  clear HF
  go_enter Tryz.func99, Tryz.ntmps99
  go_upto_region 1 with fail
  generalize hW1 : World.alloc _ _ = W1
  have hr1 : Rec ((w.alloc (.cells #[.string t, .string l, .int .i64 o, .int .i64 n] 66)).alloc (.cells #[.string t2, .string l2, .int .i64 o2, .int .i64 n2] 66)) w.heap.size #[.string t, .string l, .int .i64 o, .int .i64 n] 66 := (rec_new w #[.string t, .string l, .int .i64 o, .int .i64 n] 66).below ((Below.refl _ _).alloc (Nat.le_refl _) _) (by simp)
  have hr2 := rec_new (w.alloc (.cells #[.string t, .string l, .int .i64 o, .int .i64 n] 66)) #[.string t2, .string l2, .int .i64 o2, .int .i64 n2] 66
  rw [hW1] at hr1 hr2
  rw [World.size_alloc] at hr2
  have HG : Hid (∃ os', W1 = grow w os') := ⟨_, by rw [← hW1, alloc_eq_grow, alloc_eq_grow, grow_grow]⟩
  have a0 := hr1.cell 0 rfl
  have a1 := hr1.cell 1 rfl
  have b0 := hr2.cell 0 rfl
  have b1 := hr2.cell 1 rfl
  clear hr1 hr2 hW1
  refine wp_then_lit 10 [10, 11, 12] (by kernel_rfl) (by kernel_rfl) ?_
  simp only [List.take_succ_cons, List.take_zero]
  repeat (go_big_quiet_step (first | (exact Calls.quiet_of_same (H1.out _)) | (exact Calls.quiet_of_same (H2.out _))))
  refine wpQuiet_nil ?_
  rintro w' ⟨nq, rfl⟩
  simp only [pickL, nthL]
  go_wp2_with fail
  have hcc : ∀ i, i < [z1, z2].length → ((W1.drewN nq).alloc (.cells #[.int .i64 z1, .int .i64 z2] 3)).cell? ⟨W1.heap.size, 0 + i, none⟩ = some (.int .i64 ([z1, z2].getD i 0)) := fun i hi => by
    have hr := rec_new (W1.drewN nq) #[.int .i64 z1, .int .i64 z2] 3
    match i, hi with
    | 0, _ => exact hr.cell 0 rfl
    | 1, _ => exact hr.cell 1 rfl
  refine (HO.out _ _ hcc).mono ?_
  rintro e w2 ⟨rfl, hw2⟩
  rw [hw2]
  clear hw2 hcc
  go_wp2_with fail
  go_ret
  obtain ⟨os', h⟩ := HG.out
  refine ⟨rfl, nq, os'.push (.cells #[.int .i64 z1, .int .i64 z2] 3), ?_⟩
  rw [h]
  simp [alloc_eq_grow, grow, World.drewN]
end Go.Proofs.YthfilnflgahcjaaGreatDoor

namespace Go.Proofs.YthfilnflgahcjaaGreatDoor
open Go.RowKit Go.Shelf Go.Sort
set_option linter.unusedVariables false
set_option linter.unusedSimpArgs false
section
variable {α : Type} [Inhabited α] {e k : Nat} {enc : α → List Value}
theorem holds_of_row (hk : ∀ x, (enc x).length = k) {w : World} {g cap : Nat} {cur : Array Value} {xs : List α} (hh : w.heap[g]? = some (.cells cur e (0, 0))) (ht : cur.toList.take (xs.length * k) = (xs.map enc).flatten) : HoldsK enc k w g 0 xs.toArray := by
  intro t hlt
  rw [size_flatK] at hlt
  have hlt' : t < xs.length * k := by simpa using hlt
  have hk0 : 0 < k := by rcases Nat.eq_zero_or_pos k with h | h; · rw [h] at hlt'; simp at hlt'
                         · exact h
  have hi : t / k < xs.length := Nat.div_lt_of_lt_mul (by rw [Nat.mul_comm]; exact hlt')
  have hj : t % k < k := Nat.mod_lt _ hk0
  refine ⟨?_, by simp [World.frozen?, hh]⟩
  have e1 := sflat_at (xs.map enc) (t / k) (t % k) (enc xs[t / k]) (fun c hc => by obtain ⟨y, _, rfl⟩ := List.mem_map.1 hc; exact hk y) (by rw [List.getElem?_map, List.getElem?_eq_getElem hi]; rfl) hj
  rw [← ht, Nat.div_add_mod' t k, List.getElem?_take_of_lt hlt', Array.getElem?_toList] at e1
  rw [get_flatK _ _ _ _ hlt]
  have e2 : xs.toArray[t / k]! = xs[t / k] := by rw [getElem!_pos _ _ (by simpa using hi)]; simp
  rw [e2]
  have hcell : w.cell? ⟨g, 0 + t, none⟩ = cur[t]? := by simp [World.cell?, hh]
  rw [hcell, e1, List.getElem?_eq_getElem (by rw [hk]; exact hj), getElem!_pos (enc xs[t / k]) (t % k) (by rw [hk]; exact hj)]
  rfl
theorem row_of_holds (hk : ∀ x, (enc x).length = k) {w : World} {g cap base : Nat} {cur : Array Value} {d : Array α} (hh : w.heap[g]? = some (.cells cur e (0, 0))) (hs : cur.size = cap * k) (hH : HoldsK enc k w g 0 d) (hb : base ≤ g) (hn : d.size ≤ cap) (hc : cap ≤ maxLen) : ORow e k enc base w (.slice (some ⟨g, 0, none⟩) d.size cap) d.toList := by
  have hlen : ((d.toList.map enc).flatten).length = d.size * k := by
    rw [List.length_flatten]
    have : (d.toList.map enc).map List.length = List.replicate d.size k := by
      rw [List.map_map]
      apply List.eq_replicate_iff.2
      refine ⟨by simp, fun b hb => ?_⟩
      obtain ⟨x, _, rfl⟩ := List.mem_map.1 hb
      exact hk x
    rw [this]; simp
  refine ⟨by rw [hlen]; simp, .inr ⟨g, cap, cur, by simp, hb, hh, by simpa using hn, hc, hs, ?_⟩⟩
  apply List.ext_getElem?
  intro t
  rw [show d.toList.length = d.size by simp]
  by_cases hlt : t < d.size * k
  · have hk0 : 0 < k := by rcases Nat.eq_zero_or_pos k with h | h; · rw [h] at hlt; simp at hlt
                           · exact h
    have hi : t / k < d.size := Nat.div_lt_of_lt_mul (by rw [Nat.mul_comm]; exact hlt)
    have hj : t % k < k := Nat.mod_lt _ hk0
    have h1 := (hH t (by rw [size_flatK]; exact hlt)).1
    rw [get_flatK _ _ _ _ hlt] at h1
    have hcell : w.cell? ⟨g, 0 + t, none⟩ = cur[t]? := by simp [World.cell?, hh]
    rw [hcell] at h1
    have e2 : d[t / k]! = d[t / k] := getElem!_pos d (t / k) hi
    rw [e2] at h1
    have e1 := sflat_at (d.toList.map enc) (t / k) (t % k) (enc d[t / k]) (fun c hc => by obtain ⟨y, _, rfl⟩ := List.mem_map.1 hc; exact hk y) (by rw [List.getElem?_map, List.getElem?_eq_getElem (by simpa using hi)]; simp) hj
    rw [Nat.div_add_mod' t k] at e1
    rw [List.getElem?_take_of_lt hlt, Array.getElem?_toList, h1, e1, List.getElem?_eq_getElem (by rw [hk]; exact hj), getElem!_pos (enc d[t / k]) (t % k) (by rw [hk]; exact hj)]
    rfl
  · rw [List.getElem?_eq_none (by simp; omega), List.getElem?_eq_none (by rw [hlen]; omega)]
theorem sort_block {w : World} {g n : Nat} {d : Array α} {os : Array Obj} {cur : Array Value} (hh : w.heap[g]? = some (.cells cur e (0, 0))) : ∃ cur', (sortWorldK enc k w g 0 n d os).heap[g]? = some (.cells cur' e (0, 0)) ∧ cur'.size = cur.size := by
  have hg := (Array.getElem?_eq_some_iff.1 hh).1
  unfold sortWorldK
  rw [heap_grow_old _ _ (by rw [size_putRowK]; exact hg)]
  unfold putRowK putRow mapBlock
  simp only [Sort.ahead, Array.getElem?_modify, hh, if_true, Option.map_some, onCells]
  exact ⟨_, rfl, by simp [putCells]⟩
/-- The sort's contract for rows. -/
theorem sorts_small (hk : ∀ x, (enc x).length = k) (cf : α → α → Int) (swo : SWO (ltOf cf)) (f : FuncId) (c : Value)
    (hnil : ∀ W, Calls Tryz.prog f #[.slice none 0 0, c] W fun e w' => e = .returned (.tuple #[]) ∧ w' = W)
    (hcall : ∀ (W : World) (g cap : Nat) (d : Array α), HoldsK enc k W g 0 d → d.size ≤ 12 → g < W.heap.size → Calls Tryz.prog f #[.slice (some ⟨g, 0, none⟩) d.size cap, c] W fun e w' => e = .returned (.tuple #[]) ∧ ∃ n os, w' = sortWorldK enc k W g 0 n (Sort.insertionSort (ltOf cf) d 0 d.size) os)
    (W : World) (v : Value) (base : Nat) (xs : List α) (hB : base ≤ W.heap.size) (hl : xs.length ≤ 12) (h : ORow e k enc base W v xs) :
    Calls Tryz.prog f #[v, c] W fun e' w' => e' = .returned (.tuple #[]) ∧ ∃ ys, ys.Perm xs ∧ ys.Pairwise (fun a b => ¬ cf b a < 0) ∧ ORow e k enc base w' v ys ∧ Below base W w' := by
  obtain ⟨h0, ⟨rfl, hn⟩ | ⟨g, cap, cur, rfl, hg, hh, hn, hc, hs, ht⟩⟩ := h
  · have : xs = [] := List.eq_nil_of_length_eq_zero hn
    subst this
    refine (hnil W).mono ?_
    rintro e' w' ⟨he, rfl⟩
    exact ⟨he, [], List.Perm.refl _, List.Pairwise.nil, orow_nil _ _ _ _ _, Below.refl _ _⟩
  · have hlt := (Array.getElem?_eq_some_iff.1 hh).1
    have hH := holds_of_row (cap := cap) hk hh ht
    obtain ⟨hperm, hup⟩ := insertionSort_holds (lt := ltOf cf) swo xs.toArray 0 xs.toArray.size (Nat.zero_le _) (Nat.le_refl _)
    have hcl := hcall W g cap xs.toArray hH (by simpa using hl) hlt
    generalize Sort.insertionSort (ltOf cf) xs.toArray 0 xs.toArray.size = d' at hcl hperm hup
    rw [show xs.toArray.size = xs.length by simp] at hcl
    refine hcl.mono ?_
    rintro e' w' ⟨he, n, os, rfl⟩
    have hs' : d'.size = xs.toArray.size := hperm.1
    have hp2 : d'.toList.Perm xs := by
      have := hperm.2.2
      rw [← hs', Array.extract_size] at this
      rw [hs'] at this
      simpa using this
    have hH' := holdsK_sortWorldK_c enc k W g 0 xs.toArray d' n os hH hlt hs'
    obtain ⟨cur', hb1, hb2⟩ := sort_block (e := e) (enc := enc) (k := k) (n := n) (d := d') (os := os) hh
    have hdl : d'.size = xs.length := by rw [hs']; simp
    have hro := row_of_holds (base := base) (cap := cap) hk hb1 (by rw [hb2, hs]) hH' hg (by rw [hdl]; exact hn) hc
    rw [hdl] at hro
    refine ⟨he, d'.toList, hp2, ?_, hro, ⟨rfl, rfl, rfl, size_sortWorldK_c enc k W g 0 n d' os, fun b hb => ?_⟩⟩
    · rw [List.pairwise_iff_getElem]
      intro i j hi hj hij
      simp only [Array.length_toList] at hi hj
      have h1 := hup i j (Nat.zero_le _) hij (by omega)
      rw [getElem!_pos d' i (by omega), getElem!_pos d' j (by omega)] at h1
      simp only [Array.getElem_toList]
      exact of_decide_eq_false h1
    · unfold sortWorldK
      rw [heap_grow_old _ _ (by rw [size_putRowK]; exact Nat.lt_of_lt_of_le hb hB)]
      unfold putRowK putRow mapBlock
      simp [Array.getElem?_modify, show ¬ g = b by omega, Sort.ahead]
end
theorem cmpB_lt : ∀ a b : List UInt8, decide (Lib.compareBytes a b < 0) = ltStr a b
  | [], [] => by simp [Lib.compareBytes, ltStr]
  | [], _ :: _ => by simp [Lib.compareBytes, ltStr]
  | _ :: _, [] => by simp [Lib.compareBytes, ltStr]
  | x :: a, y :: b => by
    have ih := cmpB_lt a b
    unfold ltStr at ih ⊢
    rw [Lib.compareBytes]
    by_cases h1 : x < y
    · simp [h1, List.cons_lt_cons_iff]
    · by_cases h2 : y < x
      · have : x ≠ y := fun e => by subst e; exact h1 h2
        simp [h1, h2, List.cons_lt_cons_iff, this]
      · have : x = y := UInt8.le_antisymm (UInt8.not_lt.1 h2) (UInt8.not_lt.1 h1)
        subst this
        simp [h1, List.cons_lt_cons_iff, ih]
theorem swoL : SWO (ltOf cfL) := by
  have e : ∀ x y, ltOf cfL x y = ltStr x.1.data.toList y.1.data.toList := fun x y => cmpB_lt _ _
  exact ⟨fun x => by rw [e]; exact swo_ltStr.irrefl _, fun x y z h1 h2 => by rw [e] at *; exact swo_ltStr.trans _ _ _ h1 h2, fun x y z h1 h2 => by rw [e] at *; exact swo_ltStr.ntrans _ _ _ h1 h2⟩
end Go.Proofs.YthfilnflgahcjaaGreatDoor

namespace Go.Proofs.YthfilnflgahcjaaGreatDoor
open Go.RowKit Go.Shelf Go.Sort
set_option linter.unusedVariables false
set_option linter.unusedSimpArgs false
section
variable {α : Type} [Inhabited α] {e k : Nat} {enc : α → List Value}
theorem sorts_whole (hk : ∀ x, (enc x).length = k) (cf : α → α → Int) (swo : SWO (ltOf cf)) (f : FuncId) (c : Value)
    (hnil : ∀ W, Calls Tryz.prog f #[.slice none 0 0, c] W fun e w' => e = .returned (.tuple #[]) ∧ w' = W)
    (hcall : ∀ (W : World) (g cap : Nat) (d : Array α), HoldsK enc k W g 0 d → d.size ≤ 1000000 → g < W.heap.size → Calls Tryz.prog f #[.slice (some ⟨g, 0, none⟩) d.size cap, c] W fun e w' => e = .returned (.tuple #[]) ∧ ∃ d' n os, PermIn 0 d.size d d' ∧ SortedIn (ltOf cf) 0 d.size d' ∧ w' = sortWorldK enc k W g 0 n d' os)
    (W : World) (v : Value) (base : Nat) (xs : List α) (hB : base ≤ W.heap.size) (hl : xs.length ≤ 1000000) (h : ORow e k enc base W v xs) :
    Calls Tryz.prog f #[v, c] W fun e' w' => e' = .returned (.tuple #[]) ∧ ∃ ys, ys.Perm xs ∧ ys.Pairwise (fun a b => ¬ cf b a < 0) ∧ ORow e k enc base w' v ys ∧ Below base W w' := by
  obtain ⟨h0, ⟨rfl, hn⟩ | ⟨g, cap, cur, rfl, hg, hh, hn, hc, hs, ht⟩⟩ := h
  · have : xs = [] := List.eq_nil_of_length_eq_zero hn
    subst this
    refine (hnil W).mono ?_
    rintro e' w' ⟨he, rfl⟩
    exact ⟨he, [], List.Perm.refl _, List.Pairwise.nil, orow_nil _ _ _ _ _, Below.refl _ _⟩
  · have hlt := (Array.getElem?_eq_some_iff.1 hh).1
    have hH := holds_of_row (cap := cap) hk hh ht
    have hcl := hcall W g cap xs.toArray hH (by simpa using hl) hlt
    rw [show xs.toArray.size = xs.length by simp] at hcl
    refine hcl.mono ?_
    rintro e' w' ⟨he, d', n, os, hperm, hup, rfl⟩
    rw [show xs.length = xs.toArray.size by simp] at hperm hup
    have hs' : d'.size = xs.toArray.size := hperm.1
    have hp2 : d'.toList.Perm xs := by
      have := hperm.2.2
      rw [← hs', Array.extract_size] at this
      rw [hs'] at this
      simpa using this
    have hH' := holdsK_sortWorldK_c enc k W g 0 xs.toArray d' n os hH hlt hs'
    obtain ⟨cur', hb1, hb2⟩ := sort_block (e := e) (enc := enc) (k := k) (n := n) (d := d') (os := os) hh
    have hdl : d'.size = xs.length := by rw [hs']; simp
    have hro := row_of_holds (base := base) (cap := cap) hk hb1 (by rw [hb2, hs]) hH' hg (by rw [hdl]; exact hn) hc
    rw [hdl] at hro
    refine ⟨he, d'.toList, hp2, ?_, hro, ⟨rfl, rfl, rfl, size_sortWorldK_c enc k W g 0 n d' os, fun b hb => ?_⟩⟩
    · rw [List.pairwise_iff_getElem]
      intro i j hi hj hij
      simp only [Array.length_toList] at hi hj
      have h1 := hup i j (Nat.zero_le _) hij (by omega)
      rw [getElem!_pos d' i (by omega), getElem!_pos d' j (by omega)] at h1
      simp only [Array.getElem_toList]
      exact of_decide_eq_false h1
    · unfold sortWorldK
      rw [heap_grow_old _ _ (by rw [size_putRowK]; exact Nat.lt_of_lt_of_le hb hB)]
      unfold putRowK putRow mapBlock
      simp [Array.getElem?_modify, show ¬ g = b by omega, Sort.ahead]
end
end Go.Proofs.YthfilnflgahcjaaGreatDoor

namespace Go.Proofs
open Go.Shelf
def Tryz.laysIns84_ren : Go.Shelf.Ren := ⟨fun | 20 => 171 | n => n, fun | 22 => 28 | 24 => 42 | 25 => 138 | n => n, fun | n => n⟩
theorem Tryz.laysIns84 : Go.Proofs.SlLaysF0.n20 Tryz.prog Tryz.laysIns84_ren := {
  mixed := by kernel_rfl
  f20 := ⟨Tryz.f171.name, by decide, Tryz.func171.trans (congrArg some (by kernel_rfl))⟩
  t0 := Tryz.underlying0
  a0 := Tryz.isAgg0
  z0 := Tryz.sizeOf0
  v0 := Tryz.zeroValue0
  t3 := Tryz.underlying3
  a3 := Tryz.isAgg3
  z3 := Tryz.sizeOf3
  v3 := Tryz.zeroValue3
  t4 := Tryz.underlying4
  a4 := Tryz.isAgg4
  z4 := Tryz.sizeOf4
  v4 := Tryz.zeroValue4
  t22 := Tryz.underlying28
  a22 := Tryz.isAgg28
  z22 := Tryz.sizeOf28
  v22 := Tryz.zeroValue28
  t25 := Tryz.underlying138
  a25 := Tryz.isAgg138
  z25 := Tryz.sizeOf138
  v25 := Tryz.zeroValue138 }
end Go.Proofs
namespace Go.Proofs.YthfilnflgahcjaaGreatDoor
open Go.RowKit Go.Shelf Go.Sort
set_option linter.unusedVariables false
set_option linter.unusedSimpArgs false
attribute [local go_sem] Oper.semAt_some
theorem len84 (x : ByteArray × Int) : (labC x).length = 2 := rfl
theorem cell84 (x : ByteArray × Int) : ∀ v ∈ labC x, v.oneCell' = true := by
  intro v hv
  simp only [labC, List.mem_cons, List.not_mem_nil, or_false] at hv
  rcases hv with rfl | rfl <;> rfl
set_option maxRecDepth 100000 in
set_option maxHeartbeats 4000000 in
theorem pdq84_small (v f : Value) (n : Nat) (hn' : (n : Int) ≤ 12) (l : Int) (w : World) (Q : World → Prop) (h : Calls Tryz.prog 171 #[v, .int .i64 0, .int .i64 n, f] w fun e w' => e = .returned (.tuple #[]) ∧ Q w') : Calls Tryz.prog 146 #[v, .int .i64 0, .int .i64 n, .int .i64 l, f] w fun e w' => e = .returned (.tuple #[]) ∧ Q w' := by
  have hsub : ∀ W : World, (binOp .sub 3 (.int .i64 (n : Int)) (.int .i64 0)).run Tryz.prog W = .ok (.int .i64 (n : Int)) W := fun W => by
    have hw : IntKind.i64.wrap (n : Int) = n := by rw [IntKind.wrap_i64]; omega
    simp [binOp, go_sem, hw]
  have HC := hidE h
  clear h
  go_enter Tryz.func146, Tryz.ntmps146
  go_wp2_with fail
  go_loopw [1, 2] (fun i j wr => i = .int .i64 0 ∧ j = .int .i64 (n : Int) ∧ wr = w) (fun _ _ _ => 0)
  case atStart => exact ⟨rfl, rfl, rfl⟩
  case round =>
    obtain ⟨rfl, rfl, hwr⟩ := hrel
    rw [hwr]
    clear hwr
    go_wp2_with fail
    refine HC.out.mono ?_
    rintro e w2 ⟨rfl, hq⟩
    have HQ := hidE hq
    clear hq
    go_wp2_with fail
    exact bodyPost_ret (v := .tuple #[]) (by simp [results, Tryz.results146, go_sem]) rfl ⟨rfl, HQ.out⟩
set_option maxRecDepth 100000 in
set_option maxHeartbeats 4000000 in
theorem sort84_small (a : Option Addr) (n c : Nat) (f : Value) (hn : n ≤ 12) (w : World) (Q : World → Prop) (h : Calls Tryz.prog 171 #[.slice a n c, .int .i64 0, .int .i64 n, f] w fun e w' => e = .returned (.tuple #[]) ∧ Q w') : Calls Tryz.prog 121 #[.slice a n c, f] w fun e w' => e = .returned (.tuple #[]) ∧ Q w' := by
  have HL := hidE (Tryz.bits_Len (n : Int) w (by omega) (by omega))
  have HC := hidE (fun l => pdq84_small (.slice a n c) f n (by omega) l w Q h)
  generalize (Lib.bitLen (n : Int).toNat : Int) = l at HL
  have hw : IntKind.u64.wrap (n : Int) = n := by rw [IntKind.wrap_u64]; omega
  clear hn h
  go_enter Tryz.func121, Tryz.ntmps121
  go_wp2_with fail
  refine HL.out.mono ?_
  rintro e w2 ⟨rfl, hw2⟩
  rw [hw2]
  clear hw2
  go_wp2_with fail
  refine (HC.out _).mono ?_
  rintro e w3 ⟨rfl, hq⟩
  have HQ := hidE hq
  clear hq
  go_wp2_with fail
  exact bodyPost_end (v := .tuple #[]) (by simp [results, Tryz.results121, go_sem]) rfl ⟨rfl, HQ.out⟩
set_option maxRecDepth 100000 in
set_option maxHeartbeats 4000000 in
theorem ins84_none (f : Value) (w : World) : Calls Tryz.prog 171 #[.slice none 0 0, .int .i64 0, .int .i64 (0 : Nat), f] w fun e w' => e = .returned (.tuple #[]) ∧ w' = w := by
  go_enter Tryz.func171, Tryz.ntmps171
  go_wp2_with fail
  go_loopw [8] (fun i wr => i = .int .i64 1 ∧ wr = w) (fun _ _ => 0)
  case atStart => exact ⟨rfl, rfl⟩
  case round =>
    obtain ⟨rfl, rfl⟩ := hrel
    go_wp2_with fail
    exact bodyPost_end (v := .tuple #[]) (by simp [results, Tryz.results171, go_sem]) rfl ⟨rfl, rfl⟩
theorem sort84_any : ∀ (W : World) (v : Value) (base : Nat) (xs : List (ByteArray × Int)), base ≤ W.heap.size → xs.length ≤ 12 → ORow 42 2 labC base W v xs → Calls Tryz.prog 121 #[v, .func (.func 85) #[] #[]] W fun e w' => e = .returned (.tuple #[]) ∧ ∃ ys, ys.Perm xs ∧ ys.Pairwise (fun a b => ¬ cfL b a < 0) ∧ ORow 42 2 labC base w' v ys ∧ Below base W w' :=
  fun W v base xs hB hl h => sorts_small (fun x => len84 x) cfL swoL 121 (.func (.func 85) #[] #[]) (fun W => sort84_small none 0 0 _ (by omega) W _ (ins84_none _ W)) (fun W g cap d hH hd hg => sort84_small _ _ _ _ hd W _ (AnyQ.insertionSortCmpFunc Tryz.laysIns84 2 (fun w => Tryz.isAgg42 w) (fun w => Tryz.sizeOf42 w) labC len84 cell84 cfL 85 #[] g 0 cap 0 d.size d W (fun args w => enters_of Tryz.func85 (by kernel_rfl) rfl args w) (fun m os dk _ x y => cmp85_any x y _) hH hg (Nat.zero_le _) (Nat.le_refl _) (by omega))) W v base xs hB hl h
end Go.Proofs.YthfilnflgahcjaaGreatDoor

namespace Go.Proofs
open Go.Shelf
def Tryz.laysIns88_ren : Go.Shelf.Ren := ⟨fun | 20 => 181 | n => n, fun | 22 => 29 | 24 => 62 | 25 => 142 | n => n, fun | n => n⟩
theorem Tryz.laysIns88 : Go.Proofs.SlLaysF0.n20 Tryz.prog Tryz.laysIns88_ren := {
  mixed := by kernel_rfl
  f20 := ⟨Tryz.f181.name, by decide, Tryz.func181.trans (congrArg some (by kernel_rfl))⟩
  t0 := Tryz.underlying0
  a0 := Tryz.isAgg0
  z0 := Tryz.sizeOf0
  v0 := Tryz.zeroValue0
  t3 := Tryz.underlying3
  a3 := Tryz.isAgg3
  z3 := Tryz.sizeOf3
  v3 := Tryz.zeroValue3
  t4 := Tryz.underlying4
  a4 := Tryz.isAgg4
  z4 := Tryz.sizeOf4
  v4 := Tryz.zeroValue4
  t22 := Tryz.underlying29
  a22 := Tryz.isAgg29
  z22 := Tryz.sizeOf29
  v22 := Tryz.zeroValue29
  t25 := Tryz.underlying142
  a25 := Tryz.isAgg142
  z25 := Tryz.sizeOf142
  v25 := Tryz.zeroValue142 }
end Go.Proofs
namespace Go.Proofs.YthfilnflgahcjaaGreatDoor
open Go.RowKit Go.Shelf Go.Sort
set_option linter.unusedVariables false
set_option linter.unusedSimpArgs false
attribute [local go_sem] Oper.semAt_some
theorem len88 (x : ByteArray × Int) : (labC x).length = 2 := rfl
theorem cell88 (x : ByteArray × Int) : ∀ v ∈ labC x, v.oneCell' = true := by
  intro v hv
  simp only [labC, List.mem_cons, List.not_mem_nil, or_false] at hv
  rcases hv with rfl | rfl <;> rfl
set_option maxRecDepth 100000 in
set_option maxHeartbeats 4000000 in
theorem pdq88_small (v f : Value) (n : Nat) (hn' : (n : Int) ≤ 12) (l : Int) (w : World) (Q : World → Prop) (h : Calls Tryz.prog 181 #[v, .int .i64 0, .int .i64 n, f] w fun e w' => e = .returned (.tuple #[]) ∧ Q w') : Calls Tryz.prog 149 #[v, .int .i64 0, .int .i64 n, .int .i64 l, f] w fun e w' => e = .returned (.tuple #[]) ∧ Q w' := by
  have hsub : ∀ W : World, (binOp .sub 3 (.int .i64 (n : Int)) (.int .i64 0)).run Tryz.prog W = .ok (.int .i64 (n : Int)) W := fun W => by
    have hw : IntKind.i64.wrap (n : Int) = n := by rw [IntKind.wrap_i64]; omega
    simp [binOp, go_sem, hw]
  have HC := hidE h
  clear h
  go_enter Tryz.func149, Tryz.ntmps149
  go_wp2_with fail
  go_loopw [1, 2] (fun i j wr => i = .int .i64 0 ∧ j = .int .i64 (n : Int) ∧ wr = w) (fun _ _ _ => 0)
  case atStart => exact ⟨rfl, rfl, rfl⟩
  case round =>
    obtain ⟨rfl, rfl, hwr⟩ := hrel
    rw [hwr]
    clear hwr
    go_wp2_with fail
    refine HC.out.mono ?_
    rintro e w2 ⟨rfl, hq⟩
    have HQ := hidE hq
    clear hq
    go_wp2_with fail
    exact bodyPost_ret (v := .tuple #[]) (by simp [results, Tryz.results149, go_sem]) rfl ⟨rfl, HQ.out⟩
set_option maxRecDepth 100000 in
set_option maxHeartbeats 4000000 in
theorem sort88_small (a : Option Addr) (n c : Nat) (f : Value) (hn : n ≤ 12) (w : World) (Q : World → Prop) (h : Calls Tryz.prog 181 #[.slice a n c, .int .i64 0, .int .i64 n, f] w fun e w' => e = .returned (.tuple #[]) ∧ Q w') : Calls Tryz.prog 123 #[.slice a n c, f] w fun e w' => e = .returned (.tuple #[]) ∧ Q w' := by
  have HL := hidE (Tryz.bits_Len (n : Int) w (by omega) (by omega))
  have HC := hidE (fun l => pdq88_small (.slice a n c) f n (by omega) l w Q h)
  generalize (Lib.bitLen (n : Int).toNat : Int) = l at HL
  have hw : IntKind.u64.wrap (n : Int) = n := by rw [IntKind.wrap_u64]; omega
  clear hn h
  go_enter Tryz.func123, Tryz.ntmps123
  go_wp2_with fail
  refine HL.out.mono ?_
  rintro e w2 ⟨rfl, hw2⟩
  rw [hw2]
  clear hw2
  go_wp2_with fail
  refine (HC.out _).mono ?_
  rintro e w3 ⟨rfl, hq⟩
  have HQ := hidE hq
  clear hq
  go_wp2_with fail
  exact bodyPost_end (v := .tuple #[]) (by simp [results, Tryz.results123, go_sem]) rfl ⟨rfl, HQ.out⟩
set_option maxRecDepth 100000 in
set_option maxHeartbeats 4000000 in
theorem ins88_none (f : Value) (w : World) : Calls Tryz.prog 181 #[.slice none 0 0, .int .i64 0, .int .i64 (0 : Nat), f] w fun e w' => e = .returned (.tuple #[]) ∧ w' = w := by
  go_enter Tryz.func181, Tryz.ntmps181
  go_wp2_with fail
  go_loopw [8] (fun i wr => i = .int .i64 1 ∧ wr = w) (fun _ _ => 0)
  case atStart => exact ⟨rfl, rfl⟩
  case round =>
    obtain ⟨rfl, rfl⟩ := hrel
    go_wp2_with fail
    exact bodyPost_end (v := .tuple #[]) (by simp [results, Tryz.results181, go_sem]) rfl ⟨rfl, rfl⟩
theorem sort88_any : ∀ (W : World) (v : Value) (base : Nat) (xs : List (ByteArray × Int)), base ≤ W.heap.size → xs.length ≤ 12 → ORow 62 2 labC base W v xs → Calls Tryz.prog 123 #[v, .func (.func 89) #[] #[]] W fun e w' => e = .returned (.tuple #[]) ∧ ∃ ys, ys.Perm xs ∧ ys.Pairwise (fun a b => ¬ cfL b a < 0) ∧ ORow 62 2 labC base w' v ys ∧ Below base W w' :=
  fun W v base xs hB hl h => sorts_small (fun x => len88 x) cfL swoL 123 (.func (.func 89) #[] #[]) (fun W => sort88_small none 0 0 _ (by omega) W _ (ins88_none _ W)) (fun W g cap d hH hd hg => sort88_small _ _ _ _ hd W _ (AnyQ.insertionSortCmpFunc Tryz.laysIns88 2 (fun w => Tryz.isAgg62 w) (fun w => Tryz.sizeOf62 w) labC len88 cell88 cfL 89 #[] g 0 cap 0 d.size d W (fun args w => enters_of Tryz.func89 (by kernel_rfl) rfl args w) (fun m os dk _ x y => cmp89_any x y _) hH hg (Nat.zero_le _) (Nat.le_refl _) (by omega))) W v base xs hB hl h
end Go.Proofs.YthfilnflgahcjaaGreatDoor

