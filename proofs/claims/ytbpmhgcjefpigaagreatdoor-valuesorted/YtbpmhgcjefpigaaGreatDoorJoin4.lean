/- When two values are equal. What Check does with a panic: the function that it defers. -/
import Derived.Test.YtbpmhgcjefpigaaGreatDoorOrders
import Derived.Test.YtbpmhgcjefpigaaGreatDoorJoin3
import Derived.RecoverIn
import Derived.LaidEql
import Derived.WideLaws
namespace Go.Proofs.YtbpmhgcjefpigaaGreatDoor
open Go.RowKit Go.Shelf
set_option linter.unusedVariables false
mutual
/-- Whether two values are equal, as the program has it. -/
def eqT : Tree → Tree → Int
  | .mk k b n s ks ts, .mk k' b' n' s' ks' ts' =>
    if k = 0 ∨ k' = 0 then 1
    else if k ≠ k' then 0
    else if k ≠ 4 ∧ k ≠ 5 then truthI (ordT (.mk k b n s ks ts) (.mk k' b' n' s' ks' ts') == 0)
    else if ts.length ≠ ts'.length ∨ agS ks ks' ≠ 0 then 0
    else eqL 2 ts ts'
def eqL : Int → List Tree → List Tree → Int
  | m, a :: r, b :: t => eqL (min m (eqT a b)) r t
  | m, _, _ => m
end
theorem eqL_snoc : ∀ (a b : List Tree) (m : Int) (x y : Tree), a.length = b.length → eqL m (a ++ [x]) (b ++ [y]) = min (eqL m a b) (eqT x y)
  | [], [], m, x, y, _ => by simp [eqL]
  | u :: a, v :: b, m, x, y, h => by
    simp only [List.cons_append, eqL]
    exact eqL_snoc a b _ x y (by simpa using h)
  | [], _ :: _, _, _, _, h => by simp at h
  | _ :: _, [], _, _, _, h => by simp at h
theorem eqL_take {a b : List Tree} {m : Int} {i : Nat} {x y : Tree} (h1 : a[i]? = some x) (h2 : b[i]? = some y) : eqL m (a.take (i + 1)) (b.take (i + 1)) = min (eqL m (a.take i) (b.take i)) (eqT x y) := by
  obtain ⟨l1, _⟩ := List.getElem?_eq_some_iff.1 h1
  obtain ⟨l2, _⟩ := List.getElem?_eq_some_iff.1 h2
  rw [List.take_add_one, List.take_add_one, h1, h2]
  exact eqL_snoc _ _ _ _ _ (by simp; omega)
set_option maxHeartbeats 4000000 in
theorem equal_lists (k : Int) (x : Bool) (n : Int) (s : ByteArray) (ks : List ByteArray) (ts : List Tree)
    (ih : ∀ t ∈ ts, ∀ (B : Nat) (v v' : Value) (T' : Tree) (w : World), B ≤ w.heap.size → Lies B w v t → Lies B w v' T' → Calls Tryz.prog 74 #[v, v'] w fun e w' => e = .returned (.int .i64 (eqT t T')) ∧ Below w.heap.size w w')
    (B : Nat) (x' : Bool) (n' : Int) (s' : ByteArray) (ks' : List ByteArray) (ts' : List Tree) (ka : Option Addr) (kc : Nat) (la : Option Addr) (lc : Nat) (ka' : Option Addr) (kc' : Nat) (la' : Option Addr) (lc' : Nat) (w : World) (hB : B ≤ w.heap.size)
    (hk : KeysLie B w ka ks) (ht : ListLies B w la ts) (hk' : KeysLie B w ka' ks') (ht' : ListLies B w la' ts') (hs2 : ks.length ≤ kc) (hs3 : kc ≤ maxLen) (hs4 : ts.length ≤ lc) (hs5 : lc ≤ maxLen)
    (gs2 : ks'.length ≤ kc') (gs3 : kc' ≤ maxLen) (gs4 : ts'.length ≤ lc') (gs5 : lc' ≤ maxLen) (e0 : (k == 0) = false) (z45 : (k != 4) = false ∨ ((k != 4) = true ∧ (k != 5) = false)) (res : Int)
    (hres : res = if ts.length ≠ ts'.length ∨ agS ks ks' ≠ 0 then 0 else eqL 2 ts ts') :
    Calls Tryz.prog 74 #[.agg #[.int .i64 k, .bool x, .int .i64 n, .string s, .slice ka ks.length kc, .slice la ts.length lc], .agg #[.int .i64 k, .bool x', .int .i64 n', .string s', .slice ka' ks'.length kc', .slice la' ts'.length lc']] w fun e w' => e = .returned (.int .i64 res) ∧ Below w.heap.size w w' := by
  obtain ⟨W2, hW2⟩ : ∃ W2, (w.alloc (.cells #[.int .i64 k, .bool x, .int .i64 n, .string s, .slice ka ks.length kc, .slice la ts.length lc] 26)).alloc (.cells #[.int .i64 k, .bool x', .int .i64 n', .string s', .slice ka' ks'.length kc', .slice la' ts'.length lc'] 26) = W2 := ⟨_, rfl⟩
  have HX : Hid (∀ W, Below W2.heap.size W2 W → Below w.heap.size w W ∧ W.cell? ⟨w.heap.size, 5, none⟩ = some (.slice la ts.length lc) ∧ W.cell? ⟨w.heap.size + 1, 5, none⟩ = some (.slice la' ts'.length lc')) := fun W hb => by
    rw [← hW2] at hb
    obtain ⟨h1, h2, h3⟩ := two_boxes hb
    exact ⟨h1, h2 5 _ rfl, h3 5 _ rfl⟩
  have hBW : Below w.heap.size w W2 := (HX.out W2 (Below.refl _ _)).1
  have HW2 := hidE hW2
  have HIH := hidE ih
  have HR := hidE hres
  clear ih hres hW2
  unfold maxLen at hs5 gs5
  by_cases hl : ts.length = ts'.length
  · have hl' : ((ts.length : Int) != (ts'.length : Int)) = false := by rw [hl]; simp
    have HL := hidE hl
    have hcall := against_texts B ka ka' kc kc' ks ks' W2 (hk.below (hBW.mono hB)) (hk'.below (hBW.mono hB)) hs2 hs3 gs2 gs3
    have HCL := hidE hcall
    clear hcall hl
    rcases z45 with e4 | ⟨e4, e5⟩
    all_goals
      go_enter Tryz.func74, Tryz.ntmps74
      go_wp2_with fail
      rw [HW2.out]
      refine HCL.out.mono ?_
      rintro e w4 ⟨rfl, q, rfl⟩
      generalize hag : agS ks ks' = ag at *
      by_cases a0 : ag = 0
      · have a0' : (ag != 0) = false := by simp [a0]
        have HR1 := hidE (HR.out.trans (if_neg (by intro h; rcases h with h | h; exact h HL.out; exact h a0)))
        have hb4 : Below W2.heap.size W2 (W2.drewN q) := below_drewN (Below.refl _ _) _
        have f5 := (HX.out _ hb4).2.1
        clear HR a0 hag HCL HW2
        go_wp2_with fail
        go_loopw [51, 5] (fun i u wr => ∃ j : Nat, j ≤ ts.length ∧ i = .int .i64 j ∧ u = .int .i64 (eqL 2 (ts.take j) (ts'.take j)) ∧ Below W2.heap.size W2 wr) (fun i _ _ => ts.length - (intOf i).toNat)
        case atStart => exact ⟨0, Nat.zero_le _, rfl, by simp [eqL], hb4⟩
        case round =>
          obtain ⟨j, hj, rfl, rfl, hbr⟩ := hrel
          obtain ⟨hbw, f5r, g5r⟩ := HX.out _ hbr
          by_cases hlt : j < ts.length
          · have hlt' : j < ts'.length := by have := HL.out; omega
            obtain ⟨bl, off, rfl, hbl, hkl⟩ := ht.resolve_left (by intro e; subst e; simp at hlt)
            obtain ⟨bl', off', rfl, hbl', hkl'⟩ := ht'.resolve_left (by intro e; subst e; simp at hlt')
            obtain ⟨⟨p0, p1, p2, p3, p4, p5⟩, hx⟩ : ∃ t, ts[j]? = some t := ⟨_, List.getElem?_eq_getElem hlt⟩
            obtain ⟨⟨r0, r1, r2, r3, r4, r5⟩, hy⟩ : ∃ t, ts'[j]? = some t := ⟨_, List.getElem?_eq_getElem hlt'⟩
            have HST := hidE (eqL_take (m := 2) hx hy)
            obtain ⟨ja, jc, jl, jd, ⟨c0, c1, c2, c3, c4, c5⟩, hlx⟩ := (hkl.below (hbw.mono hB) hbl).cells hx
            obtain ⟨ja', jc', jl', jd', ⟨d0, d1, d2, d3, d4, d5⟩, hly⟩ := (hkl'.below (hbw.mono hB) hbl').cells hy
            have HC := hidE (HIH.out _ (List.mem_of_getElem? hx) B _ _ _ wr.drew (show B ≤ wr.drew.heap.size from Nat.le_trans hB hbw.size) (hlx.below (Below.refl B wr).drew) (hly.below (Below.refl B wr).drew))
            clear hx hy hkl hkl' hlx hly f5
            generalize eqL 2 (ts.take j) (ts'.take j) = acc at *
            generalize eqT (.mk p0 p1 p2 p3 p4 p5) (.mk r0 r1 r2 r3 r4 r5) = et at *
            go_wp2_with fail
            go_region_with (go_at_call 74; refine HC.out.mono ?_; rintro e w' ⟨rfl, hk2⟩)
            all_goals
              have HB2 : Hid (Below W2.heap.size W2 w') := hbr.drew.trans (hk2.mono hbr.size)
              clear hk2 c0 c1 c2 c3 c4 c5 d0 d1 d2 d3 d4 d5
              go_wp2_with fail
              go_roundw
              case rel => exact ⟨j + 1, by omega, by go_num, by rw [HST.out], HB2.out⟩
              case measure => simp [intOf]; omega
          · have hje : ts.take j = ts := List.take_of_length_le (by omega)
            have hje' : ts'.take j = ts' := List.take_of_length_le (by have := HL.out; omega)
            have HR2 : Hid (res = eqL 2 (ts.take j) (ts'.take j)) := by show _ = _; rw [hje, hje']; exact HR1.out
            clear hje hje'
            go_wp2_with fail
            go_ret
            exact ⟨by rw [HR2.out]; rfl, hbw⟩
      · have a0' : (ag != 0) = true := by simp [a0]
        have HR1 := hidE (HR.out.trans (if_pos (.inr a0)))
        clear HR a0 hag HCL HW2
        go_wp2_with fail
        go_ret
        exact ⟨by rw [HR1.out]; rfl, below_drewN hBW _⟩
  · have hl' : ((ts.length : Int) != (ts'.length : Int)) = true := by rw [bne_iff_ne]; omega
    have HR1 := hidE (HR.out.trans (if_pos (.inl hl)))
    clear HR hl
    rcases z45 with e4 | ⟨e4, e5⟩
    all_goals
      go_enter Tryz.func74, Tryz.ntmps74
      go_wp2_with fail
      go_ret
      exact ⟨by rw [HR1.out]; rfl, ((Below.refl _ w).alloc (Nat.le_refl _) _).alloc (by simp) _⟩
set_option maxHeartbeats 4000000 in
theorem equal_any : ∀ (T : Tree) (B : Nat) (v v' : Value) (T' : Tree) (w : World), B ≤ w.heap.size → Lies B w v T → Lies B w v' T' →
    Calls Tryz.prog 74 #[v, v'] w fun e w' => e = .returned (.int .i64 (eqT T T')) ∧ Below w.heap.size w w' := by
  refine Tree.ind ?_
  intro k x n s ks ts ih B v v' T' w hB hv hv'
  obtain ⟨k', x', n', s', ks', ts'⟩ := T'
  have HV := hidE hv
  have HV' := hidE hv'
  simp only [Lies] at hv hv'
  obtain ⟨ka, kc, la, lc, rfl, ⟨hs1, hs2, hs3, hs4, hs5⟩, hk, ht⟩ := hv
  obtain ⟨ka', kc', la', lc', rfl, ⟨gs1, gs2, gs3, gs4, gs5⟩, hk', ht'⟩ := hv'
  have HIH := hidE ih
  clear ih
  have heq : eqT (.mk k x n s ks ts) (.mk k' x' n' s' ks' ts') = (if k = 0 ∨ k' = 0 then 1 else if k ≠ k' then 0 else if k ≠ 4 ∧ k ≠ 5 then truthI (ordT (.mk k x n s ks ts) (.mk k' x' n' s' ks' ts') == 0)
    else if ts.length ≠ ts'.length ∨ agS ks ks' ≠ 0 then 0 else eqL 2 ts ts') := by rw [eqT]
  have HE := hidE heq
  clear heq
  generalize eqT (.mk k x n s ks ts) (.mk k' x' n' s' ks' ts') = res at *
  have HW2 := hidE (((Below.refl _ w).alloc (Nat.le_refl _) (.cells #[.int .i64 k, .bool x, .int .i64 n, .string s, .slice ka ks.length kc, .slice la ts.length lc] 26)).alloc (by simp) (.cells #[.int .i64 k', .bool x', .int .i64 n', .string s', .slice ka' ks'.length kc', .slice la' ts'.length lc'] 26))
  by_cases z0 : k = 0
  · have e0 := eq_bool z0
    have HE1 := hidE (HE.out.trans (if_pos (.inl z0)))
    clear HE z0
    go_enter Tryz.func74, Tryz.ntmps74
    go_wp2_with fail
    go_ret
    exact ⟨by rw [HE1.out]; rfl, HW2.out⟩
  have e0 := ne_bool z0
  by_cases z1 : k' = 0
  · have e1 := eq_bool z1
    have HE1 := hidE (HE.out.trans (if_pos (.inr z1)))
    clear HE z0 z1
    go_enter Tryz.func74, Tryz.ntmps74
    go_wp2_with fail
    go_ret
    exact ⟨by rw [HE1.out]; rfl, HW2.out⟩
  have e1 := ne_bool z1
  have HE1 := hidE (HE.out.trans (if_neg (by intro h; rcases h with h | h; exact z0 h; exact z1 h)))
  clear HE z0 z1
  by_cases z2 : k = k'
  · subst z2
    have e2 : (k != k) = false := by simp
    have HE2 := hidE (HE1.out.trans (if_neg (by simp)))
    clear HE1
    by_cases z3 : k ≠ 4 ∧ k ≠ 5
    · have e4 : (k != 4) = true := by simp [z3.1]
      have e5 : (k != 5) = true := by simp [z3.2]
      have HE3 := hidE (HE2.out.trans (if_pos z3))
      clear HE2 z3
      go_enter Tryz.func74, Tryz.ntmps74
      go_wp2_with fail
      refine (order_any _ B _ _ _ _ (Nat.le_trans hB HW2.out.size) (HV.out.below (HW2.out.mono hB)) (HV'.out.below (HW2.out.mono hB))).mono ?_
      rintro e w5 ⟨rfl, hb5⟩
      generalize ordT (.mk k x n s ks ts) (.mk k x' n' s' ks' ts') = o at *
      have hfin := below_on HW2.out hb5
      clear hb5
      go_wp2_with fail
      refine (truth_any _ _).mono ?_
      rintro e w6 ⟨rfl, rfl⟩
      go_wp2_with fail
      go_ret
      exact ⟨by rw [HE3.out]; rfl, hfin⟩
    · have HE3 := hidE (HE2.out.trans (if_neg z3))
      have z45 : (k != 4) = false ∨ ((k != 4) = true ∧ (k != 5) = false) := by
        by_cases h4 : k = 4
        · exact .inl (by simp [h4])
        · exact .inr ⟨by simp [h4], by simp; omega⟩
      clear HE2 z3
      exact equal_lists k x n s ks ts HIH.out B x' n' s' ks' ts' ka kc la lc ka' kc' la' lc' w hB hk ht hk' ht' hs2 hs3 hs4 hs5 gs2 gs3 gs4 gs5 e0 z45 res HE3.out
  · have e2 : (k != k') = true := by simp [z2]
    have HE2 := hidE (HE1.out.trans (if_pos z2))
    clear HE1 z2
    go_enter Tryz.func74, Tryz.ntmps74
    go_wp2_with fail
    go_ret
    exact ⟨by rw [HE2.out]; rfl, HW2.out⟩
end Go.Proofs.YtbpmhgcjefpigaaGreatDoor

namespace Go.Proofs.YtbpmhgcjefpigaaGreatDoor
open Go.RowKit Go.Shelf
set_option linter.unusedVariables false
set_option maxRecDepth 100000 in
theorem under20 : ∃ ms, Tryz.prog.underlying 20 = some (.interface ms) := ⟨_, Tryz.underlying20⟩
set_option maxRecDepth 100000 in
theorem comp41 : (Tryz.prog.info? 35).map (·.comparable) = some true := by kernel_rfl
set_option maxRecDepth 100000 in
theorem eq_long (w : World) : (binOp .eql 20 (.iface 35 (.int .i64 3)) (.iface 35 (.int .i64 3))).run Tryz.prog w = .ok (.bool true) w := by
  obtain ⟨ms, h20⟩ := under20
  have h41 : ∃ i, Tryz.prog.info? 35 = some i ∧ i.comparable = true := by
    have := comp41
    cases h : Tryz.prog.info? 35 with
    | none => rw [h] at this; cases this
    | some i => rw [h] at this; exact ⟨i, rfl, by simpa using this⟩
  obtain ⟨i, hi, hc⟩ := h41
  have h : ∀ d : Nat, (Op.equalIn (d + 2) 20 (.iface 35 (.int .i64 3)) (.iface 35 (.int .i64 3))).run Tryz.prog w = .ok true w := fun d => by
    simp [Op.equalIn, run_underlying h20, run_underlying Tryz.underlying35, typeInfo, hi, hc]
  simp only [binOp]
  simp [Op.equal, Op.maxDepth, h 9998]
set_option maxRecDepth 100000 in
set_option maxHeartbeats 1000000 in
theorem catch_long (n : Nat) (p : Addr) (z : Int) (w : World) (hc : w.cell? p = some (.int .i64 z)) (hz : w.frozen? p = false) :
    CallsDIn Fence.wide n Tryz.prog 63 #[.pointer (some p)] (.panicking [{ v := .iface 35 (.int .i64 3), recovered := false }]) w fun e u' w' =>
      e = .returned (.tuple #[]) ∧ u' = .panicking [{ v := .iface 35 (.int .i64 3), recovered := true }] ∧ w' = w.setCell p (.int .i64 3) := by
  have he := eq_long w
  refine callsDIn_of_wpSIn Tryz.func63 rfl trivial fun c₀ cs hu => ?_
  apply wpSIn_seq
  apply wpSIn_region
  simp [wpOpsSIn, go_sem, recoverD, hu, Tryz.ntmps63, Exit.thenS, Oper.about, Fence.wide, Array.replicate_succ]
  refine wpSIn_of_wpIn rfl ?_
  gi_wp2
  exact ⟨rfl, _, rfl, _, (by simp [results, Tryz.results63]), rfl, rfl, rfl⟩
set_option maxRecDepth 100000 in
set_option maxHeartbeats 1000000 in
theorem catch_idle (n : Nat) (p : Addr) (w : World) :
    CallsDIn Fence.wide n Tryz.prog 63 #[.pointer (some p)] .returning w fun e u' w' => e = .returned (.tuple #[]) ∧ u' = .returning ∧ w' = w := by
  have he := run_eql_iface_nil_left (P := Tryz.prog) w 35 (.int .i64 3) Tryz.underlying20
  have hne := run_neq_nil_nil (P := Tryz.prog) w 20 (by kernel_rfl)
  refine callsDIn_of_wpSIn Tryz.func63 rfl trivial fun c₀ cs hu => ?_
  apply wpSIn_seq
  apply wpSIn_region
  simp [wpOpsSIn, go_sem, recoverD, hu, Tryz.ntmps63, Exit.thenS, Oper.about, Fence.wide, Array.replicate_succ]
  refine wpSIn_of_wpIn rfl ?_
  gi_wp2
  cases c₀
  simp only at hu
  subst hu
  exact ⟨rfl, _, rfl, _, (by simp [results, Tryz.results63]), rfl, rfl, rfl⟩
end Go.Proofs.YtbpmhgcjefpigaaGreatDoor

