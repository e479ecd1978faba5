/- Parts of rows, and what is put behind a row. Whether values are small enough together. works: a map is made, told, and held against another one. -/
import Derived.Test.YtbpmhgcjefpigaaGreatDoorMapd
import Derived.Test.YtbpmhgcjefpigaaGreatDoorJoin16
import Derived.Test.YtbpmhgcjefpigaaGreatDoorJoin6
namespace Go.Proofs.YtbpmhgcjefpigaaGreatDoor
open Go.RowKit Go.Shelf Go.WideShapes Go.Lib
set_option linter.unusedVariables false
set_option linter.unusedSimpArgs false
/-- A part of a row: n elements, their cells. -/
def SliceIs (w : World) (v : Value) (n : Nat) (ys : List Value) : Prop := ∃ ad cap, v = .slice ad n cap ∧ ((n = 0 ∧ ys = []) ∨ ∃ g off, ad = some ⟨g, off, none⟩ ∧ ∀ i u, ys[i]? = some u → w.cell? ⟨g, off + i, none⟩ = some u)
theorem SliceIs.keep {w w' : World} {v : Value} {n : Nat} {ys : List Value} (h : SliceIs w v n ys) (hb : Below w.heap.size w w') : SliceIs w' v n ys := by
  obtain ⟨ad, cap, e, h⟩ := h
  refine ⟨ad, cap, e, h.imp id fun ⟨g, off, e2, h2⟩ => ⟨g, off, e2, fun i u hu => ?_⟩⟩
  exact (hb.cell (p := ⟨g, off + i, none⟩) (lt_of_cell (h2 i u hu))).trans (h2 i u hu)
theorem owns_cell {base e size n m cap g : Nat} {w : World} {ys : List Value} (h : w.ownsRow base e size (.slice (some ⟨g, 0, none⟩) m cap) n ys) : ∀ i u, ys[i]? = some u → w.cell? ⟨g, i, none⟩ = some u := fun i u hu => by
  have := h.cells (g := g) rfl i u hu
  rwa [Lib.add_plain, Nat.zero_add] at this
section
variable {t e size : Nat} (ht : Tryz.prog.underlying t = some (.slice (Tryz.prog.elem t))) (hsz : ∀ w, (Go.sizeOf (Tryz.prog.elem t)).run Tryz.prog w = .ok size w)
include ht hsz
theorem slice_hi {w : World} {base n q : Nat} {kv : Value} {ys : List Value} (hown : w.ownsRow base e size kv n ys) (hq : q ≤ n) :
    ∃ v', (Instr.sliceAt t kv none (some (.int .i64 (q : Int))) none).run Tryz.prog w = .ok v' w ∧ SliceIs w v' q (ys.take (q * size)) := by
  rw [run_sliceAt_slice w t _ _ _ _ ht]
  rcases hown.2 with ⟨rfl, h0⟩ | ⟨g, cap, cur, rfl, hbg, hg, hnc, hcm, hcs, htake⟩
  · have hq0 : q = 0 := by omega
    subst hq0
    rw [run_slice_h w t none 0 0 ht .i64 ((0 : Nat) : Int) (by omega) (by omega), hsz]
    exact ⟨_, rfl, none, 0, by simp [sliced], .inl ⟨rfl, by simp⟩⟩
  · rw [run_slice_h w t (some ⟨g, 0, none⟩) n cap ht .i64 q (by omega) (by omega), hsz]
    refine ⟨_, rfl, some ⟨g, 0, none⟩, cap, by simp [sliced, Addr.add], .inr ⟨g, 0, rfl, fun i u hu => ?_⟩⟩
    rw [Nat.zero_add]
    rw [List.getElem?_take] at hu
    split at hu
    · exact owns_cell hown i u hu
    · cases hu
theorem slice_lo {w : World} {base n q : Nat} {kv : Value} {ys : List Value} (hown : w.ownsRow base e size kv n ys) (hq : q ≤ n) :
    ∃ v', (Instr.sliceAt t kv (some (.int .i64 (q : Int))) none none).run Tryz.prog w = .ok v' w ∧ SliceIs w v' (n - q) (ys.drop (q * size)) := by
  rw [run_sliceAt_slice w t _ _ _ _ ht]
  rcases hown.2 with ⟨rfl, h0⟩ | ⟨g, cap, cur, rfl, hbg, hg, hnc, hcm, hcs, htake⟩
  · have hq0 : q = 0 := by omega
    subst hq0 h0
    rw [run_slice_l w t none 0 0 ht .i64 ((0 : Nat) : Int) (by omega) (by omega), hsz]
    have hy : ys = [] := List.eq_nil_of_length_eq_zero (by rw [hown.1]; omega)
    exact ⟨_, rfl, none, 0, by simp [sliced], .inl ⟨rfl, by simp [hy]⟩⟩
  · rw [run_slice_l w t (some ⟨g, 0, none⟩) n cap ht .i64 q (by omega) (by omega), hsz]
    by_cases hc : cap = q
    · have hn : n - q = 0 := by omega
      have hy : ys.drop (q * size) = [] := by
        rw [List.drop_eq_nil_iff, hown.1]
        exact Nat.mul_le_mul_right _ (by omega)
      subst hc
      exact ⟨_, rfl, some ⟨g, 0, none⟩, cap - cap, by simp [sliced], .inl ⟨hn, hy⟩⟩
    · refine ⟨_, rfl, some ⟨g, q * size, none⟩, cap - q, by simp [sliced, hc, Addr.add]; intro h; exact h.symm, .inr ⟨g, q * size, rfl, fun i u hu => ?_⟩⟩
      rw [List.getElem?_drop] at hu
      exact owns_cell hown _ u hu
theorem op_slice_hi {ops : Array Oper} {rest : List Oper} {o : Oper} {a : Act} {Q : Exit → Act → World → Prop} (w : World) (hgd : o.guard = none) (sl hi : Operand) (ho : o.op = .slice t sl none (some hi) none) (base n q : Nat) (kv : Value) (ys : List Value) (hs : a.eval sl = kv) (hh : a.eval hi = .int .i64 (q : Int)) (hown : w.ownsRow base e size kv n ys) (hq : q ≤ n)
    (h : ∀ v', SliceIs w v' q (ys.take (q * size)) → wpList Tryz.prog ops Q rest (a.put o.dst v') w) : wpList Tryz.prog ops Q (o :: rest) a w := by
  refine wpList_plain hgd fun K hK => ?_
  obtain ⟨v', hr, hs'⟩ := slice_hi ht hsz hown hq
  unfold Oper.wp execOp
  simp only [ho, Option.map_none, Option.map_some, hs, hh, Sem.run_bind, Sem.run_pure, Result.andThen_ok, hr]
  exact hK _ _ (h v' hs')
theorem op_slice_lo {ops : Array Oper} {rest : List Oper} {o : Oper} {a : Act} {Q : Exit → Act → World → Prop} (w : World) (hgd : o.guard = none) (sl lo : Operand) (ho : o.op = .slice t sl (some lo) none none) (base n q : Nat) (kv : Value) (ys : List Value) (hs : a.eval sl = kv) (hh : a.eval lo = .int .i64 (q : Int)) (hown : w.ownsRow base e size kv n ys) (hq : q ≤ n)
    (h : ∀ v', SliceIs w v' (n - q) (ys.drop (q * size)) → wpList Tryz.prog ops Q rest (a.put o.dst v') w) : wpList Tryz.prog ops Q (o :: rest) a w := by
  refine wpList_plain hgd fun K hK => ?_
  obtain ⟨v', hr, hs'⟩ := slice_lo ht hsz hown hq
  unfold Oper.wp execOp
  simp only [ho, Option.map_none, Option.map_some, hs, hh, Sem.run_bind, Sem.run_pure, Result.andThen_ok, hr]
  exact hK _ _ (h v' hs')
end
/-- 'append(row, part...)', of values. -/
theorem op_append26 {ops : Array Oper} {rest : List Oper} {o : Oper} {a : Act} {Q : Exit → Act → World → Prop} (w : World) (hgd : o.guard = none) (sl x : Operand) (ho : o.op = .call { callee := .builtin .append, args := #[sl, x], argTypes := #[24, 24] }) (base n m : Nat) (v s : Value) (xs ys : List Value) (hs : a.eval sl = v) (hx : a.eval x = s)
    (hown : w.ownsRow base 26 6 v n xs) (hsl : SliceIs w s m ys) (hm : ys.length = m * 6) (hone : ∀ u ∈ ys, u.oneCell' = true) (hn : n + m ≤ 1000000) (hB : base ≤ w.heap.size)
    (h : ∀ v' w', w'.ownsRow base 26 6 v' (n + m) (xs ++ ys) → w.grownBy w' v.ownBlock → (v'.ownBlock = v.ownBlock ∨ v'.ownBlock = some w.heap.size) → wpList Tryz.prog ops Q rest (a.put o.dst v') w') : wpList Tryz.prog ops Q (o :: rest) a w := by
  refine wpList_plain hgd fun K hK => ?_
  have key : ∃ v' w', (Builtin.append_ #[24, 24] o.type #[v, s]).run Tryz.prog w = .ok v' w' ∧ w'.ownsRow base 26 6 v' (n + m) (xs ++ ys) ∧ w.grownBy w' v.ownBlock ∧ (v'.ownBlock = v.ownBlock ∨ v'.ownBlock = some w.heap.size) := by
    obtain ⟨ad, cap, rfl, hsl⟩ := hsl
    obtain ⟨i0, hi, hz0, hz1, hz2⟩ := info_parts Tryz.info26
    have hsome : ∀ g off, ad = some ⟨g, off, none⟩ → (∀ i u, ys[i]? = some u → w.cell? ⟨g, off + i, none⟩ = some u) → ∃ v' w', (Builtin.append_ #[24, 24] o.type #[v, .slice ad m cap]).run Tryz.prog w = .ok v' w' ∧ w'.ownsRow base 26 6 v' (n + m) (xs ++ ys) ∧ w.grownBy w' v.ownBlock ∧ (v'.ownBlock = v.ownBlock ∨ v'.ownBlock = some w.heap.size) := fun g off e hc => by
      subst e
      obtain ⟨v', w', hr, h2, h3, _, h5⟩ := run_append_own_at (P := Tryz.prog) w base 24 o.type 26 i0 _ 6 88 Tryz.underlying24 hi hz0 hz1 hz2 rfl (by decide) v n xs hown ⟨g, off, none⟩ m cap ys hm (fun i u hu => by rw [Lib.add_plain]; exact hc i u hu) hone (by unfold maxLen; omega) (by omega) hB
      exact ⟨v', w', hr, h2, h3, h5⟩
    rcases hsl with ⟨hm0, hy⟩ | ⟨g, off, e, hc⟩
    · subst hm0 hy
      cases ad with
      | none =>
        obtain ⟨v', w', ys', hr, h1, h2, h3, h4⟩ := append_values (B := 0) (ts := []) (la := none) (ty := o.type) (lc := cap) hown (.inl rfl) (by simpa using hn) hB
        cases h1
        exact ⟨v', w', hr, by simpa using h2, h3, h4⟩
      | some ad =>
        obtain ⟨v', w', hr, h2, h3, _, h5⟩ := run_append_own_at (P := Tryz.prog) w base 24 o.type 26 i0 _ 6 88 Tryz.underlying24 hi hz0 hz1 hz2 rfl (by decide) v n xs hown ad 0 cap [] rfl (fun i u hu => by simp at hu) hone (by unfold maxLen; omega) (by omega) hB
        exact ⟨v', w', hr, h2, h3, h5⟩
    · exact hsome g off e hc
  obtain ⟨v', w', hr, h2, h3, h5⟩ := key
  unfold Oper.wp execOp
  simp only [ho, resolve, invoke, builtin, Sem.run_bind, Sem.run_pure, Result.andThen_ok, List.map_toArray, List.map_cons, List.map_nil, hs, hx, hr]
  exact hK _ _ (h v' w' h2 h3 h5)
/-- 'append(row, part...)', of texts. -/
theorem op_append9 {ops : Array Oper} {rest : List Oper} {o : Oper} {a : Act} {Q : Exit → Act → World → Prop} (w : World) (hgd : o.guard = none) (sl x : Operand) (ho : o.op = .call { callee := .builtin .append, args := #[sl, x], argTypes := #[23, 23] }) (base n m : Nat) (v s : Value) (xs ys : List Value) (hs : a.eval sl = v) (hx : a.eval x = s)
    (hown : w.ownsRow base 9 1 v n xs) (hsl : SliceIs w s m ys) (hm : ys.length = m) (hone : ∀ u ∈ ys, u.oneCell' = true) (hn : n + m ≤ 1000000) (hB : base ≤ w.heap.size)
    (h : ∀ v' w', w'.ownsRow base 9 1 v' (n + m) (xs ++ ys) → w.grownBy w' v.ownBlock → (v'.ownBlock = v.ownBlock ∨ v'.ownBlock = some w.heap.size) → wpList Tryz.prog ops Q rest (a.put o.dst v') w') : wpList Tryz.prog ops Q (o :: rest) a w := by
  refine wpList_plain hgd fun K hK => ?_
  have key : ∃ v' w', (Builtin.append_ #[23, 23] o.type #[v, s]).run Tryz.prog w = .ok v' w' ∧ w'.ownsRow base 9 1 v' (n + m) (xs ++ ys) ∧ w.grownBy w' v.ownBlock ∧ (v'.ownBlock = v.ownBlock ∨ v'.ownBlock = some w.heap.size) := by
    obtain ⟨ad, cap, rfl, hsl⟩ := hsl
    obtain ⟨i0, hi, hz0, hz1, hz2⟩ := info_parts Tryz.info9
    rcases hsl with ⟨hm0, hy⟩ | ⟨g, off, rfl, hc⟩
    · subst hm0 hy
      cases ad with
      | none =>
        obtain ⟨v', w', hr, h2, h3, h4⟩ := append_keys (B := 0) (ks := []) (ka := none) (ty := o.type) (kc := cap) hown (.inl rfl) (by simpa using hn) hB
        exact ⟨v', w', hr, by simpa using h2, h3, h4⟩
      | some ad =>
        obtain ⟨v', w', hr, h2, h3, _, h5⟩ := run_append_own_at (P := Tryz.prog) w base 23 o.type 9 i0 _ 1 16 Tryz.underlying23 hi hz0 hz1 hz2 rfl (by decide) v n xs hown ad 0 cap [] rfl (fun i u hu => by simp at hu) hone (by unfold maxLen; omega) (by omega) hB
        exact ⟨v', w', hr, h2, h3, h5⟩
    · obtain ⟨v', w', hr, h2, h3, _, h5⟩ := run_append_own_at (P := Tryz.prog) w base 23 o.type 9 i0 _ 1 16 Tryz.underlying23 hi hz0 hz1 hz2 rfl (by decide) v n xs hown ⟨g, off, none⟩ m cap ys (by omega) (fun i u hu => by rw [Lib.add_plain]; exact hc i u hu) hone (by unfold maxLen; omega) (by omega) hB
      exact ⟨v', w', hr, h2, h3, h5⟩
  obtain ⟨v', w', hr, h2, h3, h5⟩ := key
  unfold Oper.wp execOp
  simp only [ho, resolve, invoke, builtin, Sem.run_bind, Sem.run_pure, Result.andThen_ok, List.map_toArray, List.map_cons, List.map_nil, hs, hx, hr]
  exact hK _ _ (h v' w' h2 h3 h5)
theorem under23 : Tryz.prog.underlying 23 = some (.slice (Tryz.prog.elem 23)) := by kernel_rfl
theorem under24 : Tryz.prog.underlying 24 = some (.slice (Tryz.prog.elem 24)) := by kernel_rfl
theorem size23 (w : World) : (Go.sizeOf (Tryz.prog.elem 23)).run Tryz.prog w = .ok 1 w := by
  have e : Tryz.prog.elem 23 = 9 := by kernel_rfl
  rw [e]; exact Tryz.sizeOf9 w
theorem size24 (w : World) : (Go.sizeOf (Tryz.prog.elem 24)).run Tryz.prog w = .ok 6 w := by
  have e : Tryz.prog.elem 24 = 26 := by kernel_rfl
  rw [e]; exact Tryz.sizeOf26 w
end Go.Proofs.YtbpmhgcjefpigaaGreatDoor

namespace Go.Proofs.YtbpmhgcjefpigaaGreatDoor
open Go.RowKit Go.Shelf
set_option linter.unusedVariables false
def smalls (ts : List Tree) : Int := (ts.map fun t => smallN t 2000).sum
theorem smalls_take {ts : List Tree} {j : Nat} {t : Tree} (h : ts[j]? = some t) : smalls (ts.take (j + 1)) = smalls (ts.take j) + smallN t 2000 := by
  rw [List.take_add_one, h]
  simp [smalls]
theorem smalls_pos : ∀ {ts : List Tree}, (∀ t ∈ ts, 0 ≤ smallN t 2000) → 0 ≤ smalls ts
  | [], _ => by simp [smalls]
  | t :: ts, h => by
    have h1 := h t (by simp)
    have h2 := smalls_pos (ts := ts) fun u hu => h u (by simp [hu])
    simp only [smalls, List.map_cons, List.sum_cons] at h2 ⊢
    omega
theorem smalls_take_le {ts : List Tree} (j : Nat) (h : ∀ t ∈ ts, 0 ≤ smallN t 2000) : smalls (ts.take j) ≤ smalls ts := by
  have e : smalls ts = smalls (ts.take j) + smalls (ts.drop j) := by
    have h0 : smalls (ts.take j ++ ts.drop j) = smalls (ts.take j) + smalls (ts.drop j) := by unfold smalls; rw [List.map_append, List.sum_append]
    rwa [List.take_append_drop] at h0
  have := smalls_pos (ts := ts.drop j) fun t ht => h t (List.mem_of_mem_drop ht)
  omega
set_option maxHeartbeats 1000000 in
theorem smalls_any (ts : List Tree) (B : Nat) (la : Option Addr) (lc : Nat) (w : World) (hB : B ≤ w.heap.size) (hl : ListLies B w la ts) (h1 : ts.length ≤ lc) (h2 : lc ≤ maxLen) (hs : ∀ t ∈ ts, Sane t) :
    Calls Tryz.prog 15 #[.slice la ts.length lc] w fun e w' => e = .returned (.bool (decide (smalls ts ≤ 2000))) ∧ Below w.heap.size w w' := by
  unfold maxLen at h2
  have HS := hidE hs
  have HPOS : Hid (∀ t ∈ ts, 0 ≤ smallN t 2000) := fun t _ => by have := smallN_pos t 2000; omega
  clear hs
  go_enter Tryz.func15, Tryz.ntmps15
  go_wp2_with fail
  go_loopw [3, 4] (fun n i wr => ∃ j : Nat, j ≤ ts.length ∧ i = .int .i64 j ∧ Below w.heap.size w wr ∧ n = .int .i64 (smalls (ts.take j))) (fun _ i _ => ts.length - (intOf i).toNat)
  case atStart => exact ⟨0, Nat.zero_le _, rfl, Below.refl _ _, by simp [smalls]⟩
  case round =>
    obtain ⟨j, hj, rfl, hbr, rfl⟩ := hrel
    have hp : 0 ≤ smalls (ts.take j) := smalls_pos fun t ht => HPOS.out t (List.mem_of_mem_take ht)
    have hle := smalls_take_le j HPOS.out
    obtain ⟨n, hn⟩ : ∃ n, smalls (ts.take j) = n := ⟨_, rfl⟩
    rw [hn] at hp hle ⊢
    have HN := hidE hn
    clear hn
    by_cases hlt : j < ts.length
    · by_cases hn2 : n ≤ 2000
      · obtain ⟨bl, off, rfl, hbl, hkl⟩ := hl.resolve_left (by intro e; subst e; simp at hlt)
        obtain ⟨⟨p0, p1, p2, p3, p4, p5⟩, hx⟩ : ∃ t, ts[j]? = some t := ⟨_, List.getElem?_eq_getElem hlt⟩
        obtain ⟨ja, jc, jl, jd, ⟨c0, c1, c2, c3, c4, c5⟩, hlx⟩ := (hkl.below (hbr.mono hB) hbl).cells hx
        have hsx := HS.out _ (List.mem_of_getElem? hx)
        have hup := smallN_le _ 2000 hsx (by omega)
        have hlo := smallN_pos (.mk p0 p1 p2 p3 p4 p5) 2000
        have HX := hidE (smalls_take hx)
        have HC := hidE (small_any (.mk p0 p1 p2 p3 p4 p5) B _ 2000 wr (Nat.le_trans hB hbr.size) hlx hsx (by omega) (by omega))
        clear hx hkl hlx hsx
        go_wp2_with fail
        refine HC.out.mono ?_
        rintro e w' ⟨rfl, hk2⟩
        have HB2 : Hid (Below w.heap.size w w') := below_on hbr hk2
        obtain ⟨m, hm⟩ : ∃ m, smallN (.mk p0 p1 p2 p3 p4 p5) 2000 = m := ⟨_, rfl⟩
        rw [hm] at hup hlo HX ⊢
        clear hk2 HC c0 c1 c2 c3 c4 c5 hm
        go_wp2_with fail
        go_roundw
        case rel =>
          refine ⟨j + 1, by omega, by go_num, HB2.out, ?_⟩
          rw [HX.out, HN.out]
        case measure => simp [intOf]; omega
      · have HR : Hid (decide (smalls ts ≤ 2000) = false) := by show _ = _; simp; omega
        go_wp2_with fail
        go_ret
        exact ⟨by rw [HR.out]; simp, hbr⟩
    · have HR : Hid (smalls ts = n) := by have := HN.out; rwa [List.take_of_length_le (by omega)] at this
      go_wp2_with fail
      go_ret
      exact ⟨by rw [HR.out]; rfl, hbr⟩
end Go.Proofs.YtbpmhgcjefpigaaGreatDoor

namespace Go.Proofs.YtbpmhgcjefpigaaGreatDoor
open Go.RowKit Go.Shelf Go.Lib
set_option linter.unusedVariables false
def leafT (k : Int) (b : Bool) (n : Int) : Tree := .mk k b n ⟨#[]⟩ [] []
def listT : Tree := .mk 4 false 0 ⟨#[]⟩ [] [leafT 0 false 0, leafT 1 true 0]
def mapT : Tree := .mk 5 false 0 ⟨#[]⟩ [⟨#[97, 32, 98]⟩, ⟨#[98]⟩] [listT, leafT 2 false 2]
theorem leaf_lies (k : Int) (b : Bool) (n : Int) (B : Nat) (w : World) : Lies B w (leaf k b n ⟨#[]⟩) (leafT k b n) := by
  unfold leafT leaf
  simp only [Lies]
  exact ⟨none, 0, none, 0, rfl, ⟨by show 0 ≤ _; omega, by simp, by unfold maxLen; omega, by simp, by unfold maxLen; omega⟩, .inl rfl, .inl trivial⟩
theorem keyOk_ab : KeyOk ⟨#[97, 32, 98]⟩ := ⟨by decide, by decide, by decide⟩
theorem keyOk_b : KeyOk ⟨#[98]⟩ := ⟨by decide, by decide, by decide⟩
theorem easy_leaf (k : Int) (b : Bool) (n : Int) (h2 : k = 2 → IntOk n) (h3 : k ≠ 3) (h5 : k ≠ 5) (h6 : k ≠ 6) (h7 : k ≠ 7) : Easy (leafT k b n) :=
  .mk h2 h3 h6 h7 (fun h => absurd h h5) (by simp)
theorem easy_map : Easy mapT := by
  refine .mk (fun h => absurd h (by decide)) (by decide) (by decide) (by decide) (fun _ => ⟨rfl, ?_⟩) ?_
  · intro x hx
    simp only [List.mem_cons, List.not_mem_nil, or_false] at hx
    rcases hx with rfl | rfl
    · exact keyOk_ab
    · exact keyOk_b
  · intro t ht
    simp only [List.mem_cons, List.not_mem_nil, or_false] at ht
    rcases ht with rfl | rfl
    · refine .mk (fun h => absurd h (by decide)) (by decide) (by decide) (by decide) (fun h => absurd h (by decide)) ?_
      intro t ht
      simp only [List.mem_cons, List.not_mem_nil, or_false] at ht
      rcases ht with rfl | rfl
      · exact easy_leaf _ _ _ (fun h => absurd h (by decide)) (by decide) (by decide) (by decide) (by decide)
      · exact easy_leaf _ _ _ (fun h => absurd h (by decide)) (by decide) (by decide) (by decide) (by decide)
    · exact easy_leaf _ _ _ (fun _ => intOk_two) (by decide) (by decide) (by decide) (by decide)
theorem tell_map : tellB mapT = [123, 96, 97, 32, 98, 96, 58, 32, 91, 110, 117, 108, 108, 44, 32, 116, 114, 117, 101, 93, 44, 32, 98, 58, 32, 50, 125] := by
  simp only [mapT, listT, leafT, tellB, tellAllB, itoa_two]
  decide
theorem check_map : checkN mapT = 0 := by kernel_rfl
theorem modest_map : Modest mapT := by
  constructor <;> decide
end Go.Proofs.YtbpmhgcjefpigaaGreatDoor

