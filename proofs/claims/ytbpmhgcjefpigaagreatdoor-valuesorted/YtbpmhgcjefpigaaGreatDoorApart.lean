/- Copies in a row, each in blocks of its own: apart from the row, and from each other. -/
import Derived.Test.YtbpmhgcjefpigaaGreatDoorFcopy
namespace Go.Proofs.YtbpmhgcjefpigaaGreatDoor
open Go.RowKit Go.Shelf Go.WideShapes
set_option linter.unusedVariables false
/-- A copy in a row: its six cells, the value, and the blocks from lo up to hi in which it lies. -/
structure Ent where
  c0 : Value
  c1 : Value
  c2 : Value
  c3 : Value
  c4 : Value
  c5 : Value
  t : Tree
  lo : Nat
  hi : Nat
def Ent.cells (e : Ent) : List Value := [e.c0, e.c1, e.c2, e.c3, e.c4, e.c5]
def Ent.val (e : Ent) : Value := .agg #[e.c0, e.c1, e.c2, e.c3, e.c4, e.c5]
def Ent.apart (a b : Ent) : Prop := a.hi ≤ b.lo ∨ b.hi ≤ a.lo
theorem Ent.apart_symm {a b : Ent} (h : a.apart b) : b.apart a := Or.symm h
structure EntOk (A : Nat) (g : Option Nat) (w : World) (e : Ent) : Prop where
  lies : LiesF e.lo e.hi w e.val e.t
  start : A ≤ e.lo
  le : e.lo ≤ e.hi
  upto : e.hi ≤ w.heap.size
  row : ∀ q, g = some q → q < e.lo ∨ e.hi ≤ q
structure Ents (A : Nat) (g : Option Nat) (w : World) (es : List Ent) : Prop where
  ok : ∀ e ∈ es, EntOk A g w e
  ap : es.Pairwise Ent.apart
theorem keepsF_of {lo hi : Nat} {w w' : World} (hk : ∀ b, lo ≤ b → b < hi → w'.heap[b]? = w.heap[b]?) : KeepsF lo hi w w' := fun b o h1 h2 =>
  ⟨World.cell?_of_block (a := ⟨b, o, none⟩) (hk b h1 h2), World.frozen?_of_block (a := ⟨b, o, none⟩) (hk b h1 h2)⟩
theorem EntOk.keep {A : Nat} {g g' : Option Nat} {w w' : World} {e : Ent} (h : EntOk A g w e) (hk : ∀ b, e.lo ≤ b → b < e.hi → w'.heap[b]? = w.heap[b]?) (hs : w.heap.size ≤ w'.heap.size)
    (hg : g' = g ∨ ∃ q, g' = some q ∧ w.heap.size ≤ q) : EntOk A g' w' e := by
  refine ⟨h.lies.keep (keepsF_of hk), h.start, h.le, Nat.le_trans h.upto hs, fun q hq => ?_⟩
  rcases hg with e1 | ⟨q', e1, hq'⟩
  · exact h.row q (e1 ▸ hq)
  · rw [e1] at hq
    have : q' = q := by simpa using hq
    have := h.upto
    omega
theorem Ents.step {A : Nat} {g g' : Option Nat} {w w' : World} {es : List Ent} (h : Ents A g w es) (hk : ∀ b, A ≤ b → b < w.heap.size → some b ≠ g → w'.heap[b]? = w.heap[b]?) (hs : w.heap.size ≤ w'.heap.size)
    (hg : g' = g ∨ ∃ q, g' = some q ∧ w.heap.size ≤ q) : Ents A g' w' es := by
  refine ⟨fun e he => ?_, h.ap⟩
  have o := h.ok e he
  refine o.keep (fun b h1 h2 => hk b (Nat.le_trans o.start h1) (Nat.lt_of_lt_of_le h2 o.upto) fun e1 => ?_) hs hg
  have := o.row b e1.symm
  omega
theorem Ents.snoc {A : Nat} {g : Option Nat} {w w' : World} {es : List Ent} {e : Ent} (h : Ents A g w es) (ho : EntOk A g w' e) (hk : ∀ b, A ≤ b → b < w.heap.size → some b ≠ g → w'.heap[b]? = w.heap[b]?) (hs : w.heap.size ≤ w'.heap.size) (hl : w.heap.size ≤ e.lo) : Ents A g w' (es ++ [e]) := by
  have h' := h.step hk hs (.inl rfl)
  refine ⟨fun x hx => ?_, ?_⟩
  · rcases List.mem_append.1 hx with hx | hx
    · exact h'.ok x hx
    · simp only [List.mem_cons, List.not_mem_nil, or_false] at hx
      exact hx ▸ ho
  · rw [List.pairwise_append]
    refine ⟨h.ap, by simp, fun a ha b hb => ?_⟩
    simp only [List.mem_cons, List.not_mem_nil, or_false] at hb
    subst hb
    exact .inl (Nat.le_trans (h.ok a ha).upto hl)
/-- The cells of the row. -/
def RowAt (g : Nat) (w : World) (es : List Ent) : Prop := ∀ j e, es[j]? = some e → ∀ q v, e.cells[q]? = some v → w.cell? ⟨g, j * 6 + q, none⟩ = some v
/-- The values of a row lie there. -/
theorem RowAt.kids {A g B : Nat} {o : Option Nat} {w : World} : ∀ {es : List Ent} {off : Nat}, (∀ j e, es[j]? = some e → ∀ q v, e.cells[q]? = some v → w.cell? ⟨g, off + (j * 6 + q), none⟩ = some v) → (∀ e ∈ es, EntOk A o w e) → w.heap.size ≤ B → KidsLie B w g off (es.map Ent.t)
  | [], off, _, _, _ => by simp only [List.map_nil, KidsLie]
  | e :: r, off, h, hok, hB => by
    simp only [List.map_cons, KidsLie]
    refine ⟨⟨e.c0, e.c1, e.c2, e.c3, e.c4, e.c5, ?_, ?_⟩, RowAt.kids (es := r) (off := off + 6) (fun j e' he q v hv => ?_) (fun e' he => hok e' (List.mem_cons_of_mem _ he)) hB⟩
    · have h0 := h 0 e rfl
      exact ⟨by simpa using h0 0 _ rfl, by simpa using h0 1 _ rfl, by simpa using h0 2 _ rfl, by simpa using h0 3 _ rfl, by simpa using h0 4 _ rfl, by simpa using h0 5 _ rfl⟩
    · have o := hok e (List.mem_cons_self ..)
      exact (o.lies.mono (Nat.le_refl _) (Nat.le_trans o.upto hB)).lie
    · have := h (j + 1) e' (by simpa using he) q v hv
      rwa [show off + 6 + (j * 6 + q) = off + ((j + 1) * 6 + q) by omega]
/-- What copies has laid so far. -/
structure CopAt (g : Nat) (wr : World) (us : List Tree) (es : List Ent) : Prop where
  ts : es.map Ent.t = us
  cells : RowAt g wr es
  ents : Ents (g + 1) (some g) wr es
theorem six_heap {w : World} {b o : Nat} {v0 v1 v2 v3 v4 v5 : Value} {q : Nat} (h : q ≠ b) : (six w b o v0 v1 v2 v3 v4 v5).heap[q]? = w.heap[q]? := by
  rw [← six_eq]
  repeat rw [Below.heap_setCell _ _ _ _ h]
theorem cop_step {ts : List Tree} {t : Tree} {g j lo : Nat} {wr w2 : World} {es : List Ent} (hx : ts[j]? = some t) (hg : g < wr.heap.size) (hb : Below wr.heap.size wr w2) (hk : CopAt g wr (ts.take j) es) {v0 v1 v2 v3 v4 v5 : Value}
    (hlo : wr.heap.size ≤ lo) (hl2 : lo ≤ w2.heap.size) (hv : LiesF lo w2.heap.size w2 (.agg #[v0, v1, v2, v3, v4, v5]) t) (hr : ∀ q, q < 6 → (w2.cell? ⟨g, j * 6 + q, none⟩).isSome = true) :
    CopAt g (six w2 g (j * 6) v0 v1 v2 v3 v4 v5) (ts.take (j + 1)) (es ++ [⟨v0, v1, v2, v3, v4, v5, t, lo, w2.heap.size⟩]) := by
  have hjl : j < ts.length := (List.getElem?_eq_some_iff.1 hx).1
  have hel : es.length = j := by
    have := congrArg List.length hk.ts
    simp at this; omega
  have hheap : ∀ b, g + 1 ≤ b → (six w2 g (j * 6) v0 v1 v2 v3 v4 v5).heap[b]? = w2.heap[b]? := fun b h => six_heap (by omega)
  refine ⟨?_, ?_, ?_⟩
  · rw [List.map_append, hk.ts, take_snoc hx]; rfl
  · intro i e he q v hq
    have hq6 : q < 6 := by have := (List.getElem?_eq_some_iff.1 hq).1; simpa [Ent.cells] using this
    by_cases hi : i < es.length
    · rw [List.getElem?_append_left hi] at he
      rw [six_out (fun _ => .inl (by omega)), hb.cell (p := ⟨g, _, none⟩) hg]
      exact hk.cells i e he q v hq
    · rw [List.getElem?_append_right (by omega)] at he
      have hi0 : i - es.length = 0 := by
        have := (List.getElem?_eq_some_iff.1 he).1
        simp at this; omega
      rw [hi0] at he
      simp only [List.getElem?_cons_zero, Option.some.injEq] at he
      subst he
      obtain rfl : i = j := by omega
      obtain ⟨c0, c1, c2, c3, c4, c5⟩ := six_in (w := w2) (b := g) (o := i * 6) (v0 := v0) (v1 := v1) (v2 := v2) (v3 := v3) (v4 := v4) (v5 := v5) hr
      match q, hq6 with
      | 0, _ => simp only [Ent.cells, List.getElem?_cons_zero, Option.some.injEq] at hq; subst hq; exact c0
      | 1, _ => simp only [Ent.cells, List.getElem?_cons_zero, List.getElem?_cons_succ, Option.some.injEq] at hq; subst hq; exact c1
      | 2, _ => simp only [Ent.cells, List.getElem?_cons_zero, List.getElem?_cons_succ, Option.some.injEq] at hq; subst hq; exact c2
      | 3, _ => simp only [Ent.cells, List.getElem?_cons_zero, List.getElem?_cons_succ, Option.some.injEq] at hq; subst hq; exact c3
      | 4, _ => simp only [Ent.cells, List.getElem?_cons_zero, List.getElem?_cons_succ, Option.some.injEq] at hq; subst hq; exact c4
      | 5, _ => simp only [Ent.cells, List.getElem?_cons_zero, List.getElem?_cons_succ, Option.some.injEq] at hq; subst hq; exact c5
  · refine hk.ents.snoc ⟨hv.keep (keepsF_of fun b h1 _ => hheap b (by omega)), by show g + 1 ≤ lo; omega, hl2, by rw [six_size]; exact Nat.le_refl _, fun q hq => .inl ?_⟩ (fun b h1 h2 _ => (hheap b h1).trans (hb.block b h2)) (by rw [six_size]; exact hb.size) hlo
    simp only [Option.some.injEq] at hq
    subst hq
    show g < lo
    omega
set_option maxRecDepth 100000 in
set_option maxHeartbeats 2000000 in
theorem copies_someO (ts : List Tree) (ih : ∀ t ∈ ts, CopyOkF t) (B : Nat) (a : Addr) (lc : Nat) (w : World) (hB : B ≤ w.heap.size) (hl : ListLies B w (some a) ts) (h1 : ts.length ≤ lc) (h2 : lc ≤ maxLen) (htot : Tree.totalL ts ≤ 1000000) :
    Calls Tryz.prog 61 #[.slice (some a) ts.length lc] w fun e w' => ∃ es, e = .returned (.slice (some ⟨w.heap.size, 0, none⟩) ts.length ts.length) ∧ CopAt w.heap.size w' ts es ∧ Room w' w.heap.size ts.length ∧ w.heap.size < w'.heap.size ∧ Below w.heap.size w w' := by
  unfold maxLen at h2
  obtain ⟨i0, hi, hz0, hz1, hz2⟩ := info_parts Tryz.info26
  have hlen := totalL_len ts
  have hmk : ∀ W : World, (Instr.makeSlice 24 (.int .i64 (ts.length : Int)) (.int .i64 (ts.length : Int))).run Tryz.prog W = .ok (.slice (some ⟨W.heap.size, 0, none⟩) ts.length ts.length) (W.alloc (.cells (madeCells #[.int .i64 0, .bool false, .int .i64 0, .string ⟨#[]⟩, .slice none 0 0, .slice none 0 0] (ts.length * 6)) 26)) := fun W => by
    have := run_makeSlice (P := Tryz.prog) W 24 26 i0 _ Tryz.underlying24 hi hz0 .i64 .i64 (ts.length : Int) (ts.length : Int) (by omega) (by omega) (by rw [hz1]; omega) (by rw [hz2]; omega) (by omega)
    simpa [hz1, Value.cells] using this
  have heq : ∀ W : World, (binOp .eql 24 (.slice (some a) ts.length lc) (.slice none 0 0)).run Tryz.prog W = .ok (.bool false) W := fun W => by
    have := Lib.run_eql_slice_nil (P := Tryz.prog) W 24 26 (some a) ts.length lc 0 0 Tryz.underlying24
    simpa using this
  obtain ⟨W1, hW1⟩ : ∃ W1, w.alloc (.cells (madeCells #[.int .i64 0, .bool false, .int .i64 0, .string ⟨#[]⟩, .slice none 0 0, .slice none 0 0] (ts.length * 6)) 26) = W1 := ⟨_, rfl⟩
  have hb1 : Below w.heap.size w W1 := hW1 ▸ (Below.refl _ _).alloc (Nat.le_refl _) _
  have hg1 : w.heap.size < W1.heap.size := by rw [← hW1]; simp
  have hroom : Room W1 w.heap.size ts.length := by
    intro o ho
    rw [← hW1]
    have hs : (madeCells #[.int .i64 0, .bool false, .int .i64 0, .string ⟨#[]⟩, .slice none 0 0, .slice none 0 0] (ts.length * 6)).size = ts.length * 6 := size_madeCells _ _
    refine ⟨?_, ?_⟩
    · rw [cell_new _ _ _ o _ (Array.getElem?_eq_getElem (by rw [hs]; exact ho))]; rfl
    · have hn := World.alloc_heap_new w (.cells (madeCells #[.int .i64 0, .bool false, .int .i64 0, .string ⟨#[]⟩, .slice none 0 0, .slice none 0 0] (ts.length * 6)) 26)
      unfold World.frozen?
      simp only [hn]
      simp
  have HLL := hidE hl
  have HIH := hidE ih
  have HW1 := hidE hW1
  have HTOT := hidE htot
  clear hl ih hW1 htot
  go_enter Tryz.func61, Tryz.ntmps61
  go_wp2_with fail
  rw [HW1.out]
  clear hmk heq HW1
  go_loopw [13] (fun i wr => ∃ j : Nat, j ≤ ts.length ∧ i = .int .i64 j ∧ Below w.heap.size w wr ∧ w.heap.size < wr.heap.size ∧ Room wr w.heap.size ts.length ∧ (∃ es, CopAt w.heap.size wr (ts.take j) es)) (fun i _ => ts.length - (intOf i).toNat)
  case atStart => exact ⟨0, Nat.zero_le _, rfl, hb1, hg1, hroom, [], rfl, fun j e h => by simp at h, fun e h => by simp at h, .nil⟩
  case round =>
    obtain ⟨j, hj, rfl, hbr, hgr, hrm, es, hkids⟩ := hrel
    have HBR := hidE hbr
    have HRM := hidE hrm
    have HKI := hidE hkids
    clear hbr hrm hkids
    by_cases hlt : j < ts.length
    · obtain ⟨bl, off, ha, hbl, hkk⟩ := (HLL.out.below (HBR.out.mono hB)).resolve_left (by intro e; subst e; simp at hlt)
      obtain rfl : a = ⟨bl, off, none⟩ := by simpa using ha
      obtain ⟨⟨p0, p1, p2, p3, p4, p5⟩, hx⟩ : ∃ t, ts[j]? = some t := ⟨_, List.getElem?_eq_getElem hlt⟩
      obtain ⟨ja, jc, jl, jd, ⟨c0, c1, c2, c3, c4, c5⟩, hlx⟩ := hkk.cells hx
      have HX := hidE hx
      have hm := totalL_mem (List.mem_of_getElem? hx)
      have HC := hidE (HIH.out _ (List.mem_of_getElem? hx) B _ (wr.alloc (.cells #[.int .i64 p0, .bool p1, .int .i64 p2, .string p3, .slice ja p4.length jc, .slice jl p5.length jd] 26)) (by have := HBR.out.size; simp; omega)
        (hlx.below (((Below.refl _ wr).alloc (Nat.le_refl _) _).mono (Nat.le_trans hB HBR.out.size))) (by have := HTOT.out; omega))
      clear hkk hlx hx hm
      go_wp2_with fail
      refine HC.out.mono ?_
      rintro e w2 ⟨v2, rfl, hv2, hb2⟩
      have HBA := hidE (below_alloc hb2)
      have hsz2 : wr.heap.size < w2.heap.size := by have := hb2.size; simp at this; omega
      obtain ⟨k0, b0, n0, s0, l0, l1⟩ := (show Tree from .mk p0 p1 p2 p3 p4 p5)
      have hv2' := hv2
      simp only [LiesF] at hv2'
      obtain ⟨ka', kc', la', lc', rfl, -⟩ := hv2'
      have HV2 := hidE hv2
      have hrm2 := HRM.out.below HBA.out hgr
      obtain ⟨u0, d0⟩ := Option.isSome_iff_exists.1 (hrm2 (j * 6) (by omega)).1
      obtain ⟨u1, d1⟩ := Option.isSome_iff_exists.1 (hrm2 (j * 6 + 1) (by omega)).1
      obtain ⟨u2, d2⟩ := Option.isSome_iff_exists.1 (hrm2 (j * 6 + 2) (by omega)).1
      obtain ⟨u3, d3⟩ := Option.isSome_iff_exists.1 (hrm2 (j * 6 + 3) (by omega)).1
      obtain ⟨u4, d4⟩ := Option.isSome_iff_exists.1 (hrm2 (j * 6 + 4) (by omega)).1
      obtain ⟨u5, d5⟩ := Option.isSome_iff_exists.1 (hrm2 (j * 6 + 5) (by omega)).1
      have f0 := (hrm2 (j * 6) (by omega)).2
      have f1 := (hrm2 (j * 6 + 1) (by omega)).2
      have f2 := (hrm2 (j * 6 + 2) (by omega)).2
      have f3 := (hrm2 (j * 6 + 3) (by omega)).2
      have f4 := (hrm2 (j * 6 + 4) (by omega)).2
      have f5 := (hrm2 (j * 6 + 5) (by omega)).2
      have HR2 := hidE hrm2
      clear hv2 hb2 hrm2 c0 c1 c2 c3 c4 c5 HC
      go_wp2_with fail
      clear d0 d1 d2 d3 d4 d5 f0 f1 f2 f3 f4 f5
      rw [six_eq]
      go_roundw
      case rel =>
        refine ⟨j + 1, by omega, by go_num, six_below (HBR.out.trans (HBA.out.mono HBR.out.size)) (Nat.le_refl _) _ _ _ _ _ _, by rw [six_size]; omega, HR2.out.six (by omega) _ _ _ _ _ _, ?_⟩
        exact ⟨_, cop_step HX.out hgr HBA.out HKI.out (by simp) (by simp; omega) HV2.out (fun q hq => (HR2.out _ (by omega)).1)⟩
      case measure => simp [intOf]; omega
    · have HT : Hid (ts.take j = ts) := List.take_of_length_le (by omega)
      have HK2 : Hid (CopAt w.heap.size wr ts es) := by have := HKI.out; rwa [HT.out] at this
      go_wp2_with fail
      go_ret
      exact ⟨es, rfl, HK2.out, HRM.out, hgr, HBR.out⟩
end Go.Proofs.YtbpmhgcjefpigaaGreatDoor
