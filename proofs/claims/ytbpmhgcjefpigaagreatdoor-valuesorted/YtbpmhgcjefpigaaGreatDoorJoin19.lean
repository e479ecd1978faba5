/- Values whose lists have one place more, which is laid; rows of keys are put behind others. Values in rows: what an append of values leaves. -/
import Derived.Test.YtbpmhgcjefpigaaGreatDoorJoin10
import Derived.Laws.OwnMore
namespace Go.Proofs.YtbpmhgcjefpigaaGreatDoor
open Go.RowKit Go.Shelf Go.WideShapes
set_option linter.unusedVariables false
set_option linter.unusedSimpArgs false

def spareB : ByteArray := ⟨#[115, 112, 97, 114, 101]⟩
mutual
/-- A value in registers, what is in it in blocks that are so, each list with one place more behind it. -/
def SpareP (p : Nat → Prop) (w : World) : Value → Tree → Prop
  | v, .mk k b n s ks ts => ∃ bk kc bl lc, v = .agg #[.int .i64 k, .bool b, .int .i64 n, .string s, .slice (some ⟨bk, 0, none⟩) ks.length kc, .slice (some ⟨bl, 0, none⟩) ts.length lc] ∧
      (s.size ≤ maxLen ∧ ks.length < kc ∧ kc ≤ maxLen ∧ ts.length < lc ∧ lc ≤ maxLen) ∧ (p bk ∧ p bl) ∧
      (∀ i, i < ks.length → w.cell? ⟨bk, i, none⟩ = some (.string (ks.getD i ⟨#[]⟩)) ∧ (ks.getD i ⟨#[]⟩).size ≤ maxLen) ∧ w.cell? ⟨bk, ks.length, none⟩ = some (.string spareB) ∧
      SpareKids p w bl 0 ts ∧ w.cell? ⟨bl, ts.length * 6, none⟩ = some (.int .i64 77)
def SpareKids (p : Nat → Prop) (w : World) (bl : Nat) : Nat → List Tree → Prop
  | _, [] => True
  | off, t :: ts => (∃ v0 v1 v2 v3 v4 v5, (w.cell? ⟨bl, off, none⟩ = some v0 ∧ w.cell? ⟨bl, off + 1, none⟩ = some v1 ∧ w.cell? ⟨bl, off + 2, none⟩ = some v2 ∧ w.cell? ⟨bl, off + 3, none⟩ = some v3 ∧
      w.cell? ⟨bl, off + 4, none⟩ = some v4 ∧ w.cell? ⟨bl, off + 5, none⟩ = some v5) ∧ SpareP p w (.agg #[v0, v1, v2, v3, v4, v5]) t) ∧ SpareKids p w bl (off + 6) ts
end
/-- The blocks that are so stay. -/
def Stay (p : Nat → Prop) (w w' : World) : Prop := ∀ b i, p b → w'.cell? ⟨b, i, none⟩ = w.cell? ⟨b, i, none⟩
theorem Stay.cell {p : Nat → Prop} {w w' : World} (h : Stay p w w') {b i : Nat} (hb : p b) : w'.cell? ⟨b, i, none⟩ = w.cell? ⟨b, i, none⟩ := h b i hb
mutual
theorem SpareP.keep {p : Nat → Prop} {w w' : World} (h : Stay p w w') : ∀ {v : Value} {T : Tree}, SpareP p w v T → SpareP p w' v T
  | v, .mk k b n s ks ts, hl => by
    simp only [SpareP] at hl ⊢
    obtain ⟨bk, kc, bl, lc, hv, hb, ⟨h1, h2⟩, hk, hs, ht, hx⟩ := hl
    exact ⟨bk, kc, bl, lc, hv, hb, ⟨h1, h2⟩, fun i hi => ⟨(h.cell h1).trans (hk i hi).1, (hk i hi).2⟩, (h.cell h1).trans hs, SpareKids.keep h h2 ht, (h.cell h2).trans hx⟩
theorem SpareKids.keep {p : Nat → Prop} {w w' : World} (h : Stay p w w') {bl : Nat} (hlt : p bl) : ∀ {off : Nat} {ts : List Tree}, SpareKids p w bl off ts → SpareKids p w' bl off ts
  | off, [], hl => by simp only [SpareKids]
  | off, t :: ts, hl => by
    simp only [SpareKids] at hl ⊢
    obtain ⟨⟨v0, v1, v2, v3, v4, v5, ⟨c0, c1, c2, c3, c4, c5⟩, hv⟩, hr⟩ := hl
    exact ⟨⟨v0, v1, v2, v3, v4, v5, ⟨(h.cell hlt).trans c0, (h.cell hlt).trans c1, (h.cell hlt).trans c2, (h.cell hlt).trans c3, (h.cell hlt).trans c4, (h.cell hlt).trans c5⟩, SpareP.keep h hv⟩, SpareKids.keep h hlt hr⟩
end
mutual
theorem SpareP.mono {p q : Nat → Prop} {w : World} (h : ∀ b, p b → q b) : ∀ {v : Value} {T : Tree}, SpareP p w v T → SpareP q w v T
  | v, .mk k b n s ks ts, hl => by
    simp only [SpareP] at hl ⊢
    obtain ⟨bk, kc, bl, lc, hv, hb, ⟨h1, h2⟩, hk, hs, ht, hx⟩ := hl
    exact ⟨bk, kc, bl, lc, hv, hb, ⟨h _ h1, h _ h2⟩, hk, hs, SpareKids.mono h ht, hx⟩
theorem SpareKids.mono {p q : Nat → Prop} {w : World} (h : ∀ b, p b → q b) {bl : Nat} : ∀ {off : Nat} {ts : List Tree}, SpareKids p w bl off ts → SpareKids q w bl off ts
  | off, [], hl => by simp only [SpareKids]
  | off, t :: ts, hl => by
    simp only [SpareKids] at hl ⊢
    obtain ⟨⟨v0, v1, v2, v3, v4, v5, hc, hv⟩, hr⟩ := hl
    exact ⟨⟨v0, v1, v2, v3, v4, v5, hc, SpareP.mono h hv⟩, SpareKids.mono h hr⟩
end
/-- In blocks below B. -/
abbrev Spare (B : Nat) (w : World) (v : Value) (T : Tree) : Prop := SpareP (· < B) w v T
theorem Spare.below {B : Nat} {w w' : World} {v : Value} {T : Tree} (h : Below B w w') (hs : Spare B w v T) : Spare B w' v T := SpareP.keep (fun b i hb => h.cell (p := ⟨b, i, none⟩) hb) hs
theorem Spare.mono {B B' : Nat} {w : World} {v : Value} {T : Tree} (h : B ≤ B') (hs : Spare B w v T) : Spare B' w v T := SpareP.mono (fun b hb => Nat.lt_of_lt_of_le hb h) hs
mutual
theorem Spare.lies {B : Nat} {w : World} : ∀ {v : Value} {T : Tree}, SpareP (· < B) w v T → Lies B w v T
  | v, .mk k b n s ks ts, hl => by
    simp only [SpareP] at hl
    simp only [Lies]
    obtain ⟨bk, kc, bl, lc, hv, ⟨g1, g2, g3, g4, g5⟩, ⟨h1, h2⟩, hk, hs, ht, hx⟩ := hl
    exact ⟨_, kc, _, lc, hv, ⟨g1, by omega, g3, by omega, g5⟩, .inr ⟨bk, 0, rfl, h1, fun i hi => by rw [Nat.zero_add]; exact hk i hi⟩, .inr ⟨bl, 0, rfl, h2, SpareKids.lies ht⟩⟩
theorem SpareKids.lies {B : Nat} {w : World} {bl : Nat} : ∀ {off : Nat} {ts : List Tree}, SpareKids (· < B) w bl off ts → KidsLie B w bl off ts
  | off, [], hl => by simp only [KidsLie]
  | off, t :: ts, hl => by
    simp only [SpareKids] at hl
    simp only [KidsLie]
    obtain ⟨⟨v0, v1, v2, v3, v4, v5, hc, hv⟩, hr⟩ := hl
    exact ⟨⟨v0, v1, v2, v3, v4, v5, hc, Spare.lies hv⟩, SpareKids.lies hr⟩
end
theorem SpareKids.at {p : Nat → Prop} {w : World} {bl : Nat} : ∀ {ts : List Tree} {off : Nat}, SpareKids p w bl off ts → ∀ {i : Nat} {t : Tree}, ts[i]? = some t →
    ∃ v0 v1 v2 v3 v4 v5, (w.cell? ⟨bl, off + i * 6, none⟩ = some v0 ∧ w.cell? ⟨bl, off + i * 6 + 1, none⟩ = some v1 ∧ w.cell? ⟨bl, off + i * 6 + 2, none⟩ = some v2 ∧ w.cell? ⟨bl, off + i * 6 + 3, none⟩ = some v3 ∧
      w.cell? ⟨bl, off + i * 6 + 4, none⟩ = some v4 ∧ w.cell? ⟨bl, off + i * 6 + 5, none⟩ = some v5) ∧ SpareP p w (.agg #[v0, v1, v2, v3, v4, v5]) t
  | [], off, _, i, t, h => by simp at h
  | t :: ts, off, hl, 0, u, h => by
    simp only [SpareKids] at hl
    simp at h; subst h
    simpa using hl.1
  | t :: ts, off, hl, i + 1, u, h => by
    simp only [SpareKids] at hl
    have := SpareKids.at hl.2 (i := i) (t := u) (by simpa using h)
    rw [show off + 6 + i * 6 = off + (i + 1) * 6 from by omega] at this
    exact this
/-- Values in a row of cells, not yet laid. -/
def Row6 (p : Nat → Prop) (w : World) : List Value → List Tree → Prop
  | [], [] => True
  | c0 :: c1 :: c2 :: c3 :: c4 :: c5 :: r, t :: ts => SpareP p w (.agg #[c0, c1, c2, c3, c4, c5]) t ∧ Row6 p w r ts
  | _, _ => False
theorem Row6.snoc {p : Nat → Prop} {w : World} {c0 c1 c2 c3 c4 c5 : Value} {t : Tree} (ht : SpareP p w (.agg #[c0, c1, c2, c3, c4, c5]) t) : ∀ {xs : List Value} {ts : List Tree}, Row6 p w xs ts → Row6 p w (xs ++ [c0, c1, c2, c3, c4, c5]) (ts ++ [t])
  | [], [], _ => by simp only [List.nil_append, Row6]; exact ⟨ht, trivial⟩
  | d0 :: d1 :: d2 :: d3 :: d4 :: d5 :: r, u :: us, h => by
    simp only [Row6] at h
    simp only [List.cons_append, Row6]
    exact ⟨h.1, Row6.snoc ht h.2⟩
  | [], _ :: _, h => by simp [Row6] at h
  | _ :: _, [], h => by simp [Row6] at h
  | [_], _ :: _, h => by simp [Row6] at h
  | [_, _], _ :: _, h => by simp [Row6] at h
  | [_, _, _], _ :: _, h => by simp [Row6] at h
  | [_, _, _, _], _ :: _, h => by simp [Row6] at h
  | [_, _, _, _, _], _ :: _, h => by simp [Row6] at h
theorem Row6.keep {p q : Nat → Prop} {w w' : World} (hs : Stay p w w') (h : ∀ b, p b → q b) : ∀ {xs : List Value} {ts : List Tree}, Row6 p w xs ts → Row6 q w' xs ts
  | [], [], _ => by simp only [Row6]
  | d0 :: d1 :: d2 :: d3 :: d4 :: d5 :: r, u :: us, hr => by
    simp only [Row6] at hr ⊢
    exact ⟨(hr.1.keep hs).mono h, Row6.keep hs h hr.2⟩
  | [], _ :: _, h => by simp [Row6] at h
  | _ :: _, [], h => by simp [Row6] at h
  | [_], _ :: _, h => by simp [Row6] at h
  | [_, _], _ :: _, h => by simp [Row6] at h
  | [_, _, _], _ :: _, h => by simp [Row6] at h
  | [_, _, _, _], _ :: _, h => by simp [Row6] at h
  | [_, _, _, _, _], _ :: _, h => by simp [Row6] at h
theorem Row6.kids {p : Nat → Prop} {w : World} {g : Nat} : ∀ {xs : List Value} {ts : List Tree} {off : Nat}, Row6 p w xs ts → (∀ j u, xs[j]? = some u → w.cell? ⟨g, off + j, none⟩ = some u) → SpareKids p w g off ts
  | [], [], _, _, _ => by simp only [SpareKids]
  | d0 :: d1 :: d2 :: d3 :: d4 :: d5 :: r, u :: us, off, hr, hc => by
    simp only [Row6] at hr
    simp only [SpareKids]
    refine ⟨⟨d0, d1, d2, d3, d4, d5, ⟨hc 0 _ rfl, hc 1 _ rfl, hc 2 _ rfl, hc 3 _ rfl, hc 4 _ rfl, hc 5 _ rfl⟩, hr.1⟩, Row6.kids hr.2 fun j v hv => ?_⟩
    have := hc (j + 6) v (by simpa using hv)
    rwa [show off + (j + 6) = off + 6 + j from by omega] at this
  | [], _ :: _, _, h, _ => by simp [Row6] at h
  | _ :: _, [], _, h, _ => by simp [Row6] at h
  | [_], _ :: _, _, h, _ => by simp [Row6] at h
  | [_, _], _ :: _, _, h, _ => by simp [Row6] at h
  | [_, _, _], _ :: _, _, h, _ => by simp [Row6] at h
  | [_, _, _, _], _ :: _, _, h, _ => by simp [Row6] at h
  | [_, _, _, _, _], _ :: _, _, h, _ => by simp [Row6] at h

theorem strings_get (ks : List ByteArray) {j : Nat} {u : Value} (h : (ks.map Value.string)[j]? = some u) : j < ks.length ∧ u = .string (ks.getD j ⟨#[]⟩) := by
  rw [List.getElem?_map] at h
  obtain ⟨x, h1, rfl⟩ := Option.map_eq_some_iff.1 h
  obtain ⟨h2, h3⟩ := List.getElem?_eq_some_iff.1 h1
  exact ⟨h2, by rw [List.getD_eq_getElem?_getD, h1]; rfl⟩

/-- A row of keys is put behind a row of the call's own. -/
theorem append_keys {ty : TypeId} {base n B kc : Nat} {v : Value} {xs : List Value} {w : World} {ka : Option Addr} {ks : List ByteArray} (hown : w.ownsRow base 9 1 v n xs) (hk : KeysLie B w ka ks) (hn : n + ks.length ≤ 1000000) (hb : base ≤ w.heap.size) :
    ∃ v' w', (Builtin.append_ #[23, 23] ty #[v, .slice ka ks.length kc]).run Tryz.prog w = .ok v' w' ∧ w'.ownsRow base 9 1 v' (n + ks.length) (xs ++ ks.map .string) ∧ w.grownBy w' v.ownBlock ∧ (v'.ownBlock = v.ownBlock ∨ v'.ownBlock = some w.heap.size) := by
  obtain ⟨i0, hi, hz0, hz1, hz2⟩ := info_parts Tryz.info9
  cases ka with
  | none =>
    have hks : ks = [] := by
      rcases hk with h | ⟨_, _, h, _⟩
      · exact h
      · cases h
    subst hks
    refine ⟨v, w, ?_, by simpa using hown, ⟨rfl, rfl, rfl, Nat.le_refl _, fun _ _ _ => rfl⟩, .inl rfl⟩
    rcases hown.2 with ⟨rfl, rfl⟩ | ⟨g, cap, cur, rfl, _, _, hnc, _⟩
    · simp [Builtin.append_, run_underlying Tryz.underlying23, sizeOf, typeInfo, hi, Builtin.lenOf, Builtin.firstCells]
    · simp [Builtin.append_, run_underlying Tryz.underlying23, sizeOf, typeInfo, hi, Builtin.lenOf, Builtin.firstCells, hnc, storeCells]
  | some ad =>
    obtain ⟨v', w', hr, h2, h3, _, h5⟩ := run_append_own_at (P := Tryz.prog) w base 23 ty 9 i0 (.string ⟨#[]⟩) 1 16 Tryz.underlying23 hi hz0 hz1 hz2 rfl (by decide) v n xs hown ad ks.length kc (ks.map .string) (by simp) (fun j u hu => by
        obtain ⟨hj, rfl⟩ := strings_get ks hu
        rcases hk with h | ⟨b, off, h, _, hc⟩
        · subst h; simp at hj
        · obtain rfl : ad = ⟨b, off, none⟩ := Option.some.inj h
          rw [add_plain]; exact (hc j hj).1) (fun u hu => by
        obtain ⟨x, _, rfl⟩ := List.mem_map.1 hu; rfl) (by unfold maxLen; omega) (by omega) hb
    exact ⟨v', w', hr, h2, h3, h5⟩
end Go.Proofs.YtbpmhgcjefpigaaGreatDoor

namespace Go.Proofs.YtbpmhgcjefpigaaGreatDoor
open Go.RowKit Go.Shelf Go.WideShapes
set_option linter.unusedVariables false

/-- Cells in a row, six a value. -/
inductive RowL (B : Nat) (w : World) : List Value → List Tree → Prop
  | nil : RowL B w [] []
  | cons {c0 c1 c2 c3 c4 c5 : Value} {r : List Value} {t : Tree} {ts : List Tree} (h : Lies B w (.agg #[c0, c1, c2, c3, c4, c5]) t) (k : RowL B w r ts) : RowL B w (c0 :: c1 :: c2 :: c3 :: c4 :: c5 :: r) (t :: ts)

variable {B : Nat} {w : World} {xs ys : List Value} {ts us : List Tree}
theorem RowL.append (h : RowL B w xs ts) (k : RowL B w ys us) : RowL B w (xs ++ ys) (ts ++ us) := by
  induction h with
  | nil => exact k
  | cons h _ ih => exact .cons h ih
theorem RowL.length (h : RowL B w xs ts) : xs.length = ts.length * 6 := by
  induction h with
  | nil => rfl
  | cons _ _ ih => simp only [List.length_cons, ih]; omega
theorem RowL.stay {w' : World} (hb : Below B w w') (h : RowL B w xs ts) : RowL B w' xs ts := by
  induction h with
  | nil => exact .nil
  | cons h _ ih => exact .cons (h.below hb) ih
theorem RowL.mono {B' : Nat} (hb : B ≤ B') (h : RowL B w xs ts) : RowL B' w xs ts := by
  induction h with
  | nil => exact .nil
  | cons h _ ih => exact .cons (h.mono hb) ih
theorem RowL.one (h : RowL B w xs ts) : ∀ u ∈ xs, u.oneCell' = true := by
  induction h with
  | nil => intro u hu; cases hu
  | @cons c0 c1 c2 c3 c4 c5 r t ts h _ ih =>
    obtain ⟨k, b, n, s, ks, us⟩ := t
    simp only [Lies] at h
    obtain ⟨ka, kc, la, lc, e, _⟩ := h
    simp only [Value.agg.injEq, Array.mk.injEq, List.cons.injEq, and_true] at e
    obtain ⟨rfl, rfl, rfl, rfl, rfl, rfl⟩ := e
    intro u hu
    simp only [List.mem_cons] at hu
    rcases hu with rfl | rfl | rfl | rfl | rfl | rfl | hu
    any_goals rfl
    exact ih u hu
theorem RowL.kids {g : Nat} (h : RowL B w xs ts) : ∀ {w' : World} {off : Nat}, (∀ j u, xs[j]? = some u → w'.cell? ⟨g, off + j, none⟩ = some u) → RowL B w' xs ts → KidsLie B w' g off ts := by
  induction h with
  | nil => intro w' off _ _; simp only [KidsLie]
  | cons h _ ih =>
    intro w' off hc hr
    cases hr with
    | cons h' k' =>
      simp only [KidsLie]
      refine ⟨⟨_, _, _, _, _, _, ⟨hc 0 _ rfl, hc 1 _ rfl, hc 2 _ rfl, hc 3 _ rfl, hc 4 _ rfl, hc 5 _ rfl⟩, h'⟩, ih (fun j v hv => ?_) k'⟩
      have := hc (j + 6) v (by simpa using hv)
      rwa [show off + (j + 6) = off + 6 + j from by omega] at this
theorem KidsLie.row {bl : Nat} : ∀ {ts : List Tree} {off : Nat}, KidsLie B w bl off ts → ∃ xs, RowL B w xs ts ∧ ∀ j u, xs[j]? = some u → w.cell? ⟨bl, off + j, none⟩ = some u
  | [], off, _ => ⟨[], .nil, fun j u h => by simp at h⟩
  | t :: ts, off, h => by
    simp only [KidsLie] at h
    obtain ⟨⟨v0, v1, v2, v3, v4, v5, ⟨c0, c1, c2, c3, c4, c5⟩, hl⟩, hr⟩ := h
    obtain ⟨xs, hx, hc⟩ := KidsLie.row hr
    refine ⟨_, .cons hl hx, fun j u hj => ?_⟩
    match j, hj with
    | 0, hj => simp at hj; subst hj; exact c0
    | 1, hj => simp at hj; subst hj; exact c1
    | 2, hj => simp at hj; subst hj; exact c2
    | 3, hj => simp at hj; subst hj; exact c3
    | 4, hj => simp at hj; subst hj; exact c4
    | 5, hj => simp at hj; subst hj; exact c5
    | j + 6, hj =>
      have := hc j u (by simpa using hj)
      rwa [show off + 6 + j = off + (j + 6) from by omega] at this

/-- A row of values is put behind a row of the call's own. -/
theorem append_values {ty : TypeId} {base n lc : Nat} {v : Value} {la : Option Addr} (hown : w.ownsRow base 26 6 v n xs) (hl : ListLies B w la ts) (hn : n + ts.length ≤ 1000000) (hb : base ≤ w.heap.size) :
    ∃ v' w' ys, (Builtin.append_ #[24, 24] ty #[v, .slice la ts.length lc]).run Tryz.prog w = .ok v' w' ∧ RowL B w ys ts ∧ w'.ownsRow base 26 6 v' (n + ts.length) (xs ++ ys) ∧ w.grownBy w' v.ownBlock ∧ (v'.ownBlock = v.ownBlock ∨ v'.ownBlock = some w.heap.size) := by
  obtain ⟨i0, hi, hz0, hz1, hz2⟩ := info_parts Tryz.info26
  cases la with
  | none =>
    have hks : ts = [] := by
      rcases hl with h | ⟨_, _, h, _⟩
      · exact h
      · cases h
    subst hks
    refine ⟨v, w, [], ?_, .nil, by simpa using hown, ⟨rfl, rfl, rfl, Nat.le_refl _, fun _ _ _ => rfl⟩, .inl rfl⟩
    rcases hown.2 with ⟨rfl, rfl⟩ | ⟨g, cap, cur, rfl, _, _, hnc, _⟩
    · simp [Builtin.append_, run_underlying Tryz.underlying24, sizeOf, typeInfo, hi, Builtin.lenOf, Builtin.firstCells]
    · simp [Builtin.append_, run_underlying Tryz.underlying24, sizeOf, typeInfo, hi, Builtin.lenOf, Builtin.firstCells, hnc, storeCells]
  | some ad =>
    obtain ⟨ys, hy, hc⟩ : ∃ ys, RowL B w ys ts ∧ ∀ j u, ys[j]? = some u → w.cell? (ad.add j) = some u := by
      rcases hl with h | ⟨bl, off, h, _, hk⟩
      · subst h; exact ⟨[], .nil, fun j u h => by simp at h⟩
      · obtain rfl : ad = ⟨bl, off, none⟩ := Option.some.inj h
        obtain ⟨ys, hy, hc⟩ := hk.row
        exact ⟨ys, hy, fun j u hj => by rw [add_plain]; exact hc j u hj⟩
    obtain ⟨v', w', hr, h2, h3, _, h5⟩ := run_append_own_at (P := Tryz.prog) w base 24 ty 26 i0 _ 6 88 Tryz.underlying24 hi hz0 hz1 hz2 rfl (by decide) v n xs hown ad ts.length lc ys hy.length hc hy.one (by unfold maxLen; omega) (by omega) hb
    exact ⟨v', w', ys, hr, hy, h2, h3, h5⟩
end Go.Proofs.YtbpmhgcjefpigaaGreatDoor

