/- Copies in a row, each in blocks of its own: apart from the row, and from each other. Values whose lists have one place more, which is laid; rows of keys are put behind others. -/
import Derived.Test.YtbpmhgcjefpigaaGreatDoorFcopy
import Derived.Test.YtbpmhgcjefpigaaGreatDoorMap11
import Derived.Laws.OwnMore
namespace Go.Proofs.YtbpmhgcjefpigaaGreatDoor
open Go.RowKit Go.Shelf Go.WideShapes
set_option linter.unusedVariables false
structure Ent where
 c0 : Value
 c1 : Value
 c2 : Value
 c3 : Value
 c4 : Value
 c5 : Value
 t : Tree
 lo : Nat
 hi : Nat
def Ent.cells (e : Ent) : List Value := [e.c0, e.c1, e.c2, e.c3, e.c4, e.c5]
def Ent.val (e : Ent) : Value := .agg #[e.c0, e.c1, e.c2, e.c3, e.c4, e.c5]
def Ent.apart (a b : Ent) : Prop := a.hi ≤ b.lo ∨ b.hi ≤ a.lo
theorem Ent.apart_symm {a b : Ent} (h : a.apart b) : b.apart a := Or.symm h
structure EntOk (A : Nat) (g : Option Nat) (w : World) (e : Ent) : Prop where
 lies : LiesF e.lo e.hi w e.val e.t
 start : A ≤ e.lo
 le : e.lo ≤ e.hi
 upto : e.hi ≤ w.heap.size
 row : ∀ q, g = some q → q < e.lo ∨ e.hi ≤ q
structure Ents (A : Nat) (g : Option Nat) (w : World) (es : List Ent) : Prop where
 ok : ∀ e ∈ es, EntOk A g w e
 ap : es.Pairwise Ent.apart
theorem keepsF_of {lo hi : Nat} {w w' : World} (hk : ∀ b, lo ≤ b → b < hi → w'.heap[b]? = w.heap[b]?) : KeepsF lo hi w w' := fun b o h1 h2 =>
 ⟨World.cell?_of_block (a := ⟨b, o, none⟩) (hk b h1 h2), World.frozen?_of_block (a := ⟨b, o, none⟩) (hk b h1 h2)⟩
theorem EntOk.keep {A : Nat} {g g' : Option Nat} {w w' : World} {e : Ent} (h : EntOk A g w e) (hk : ∀ b, e.lo ≤ b → b < e.hi → w'.heap[b]? = w.heap[b]?) (hs : w.heap.size ≤ w'.heap.size)
  (hg : g' = g ∨ ∃ q, g' = some q ∧ w.heap.size ≤ q) : EntOk A g' w' e := by
 refine ⟨h.lies.keep (keepsF_of hk), h.start, h.le, Nat.le_trans h.upto hs, fun q hq => ?_⟩
 rcases hg with e1 | ⟨q', e1, hq'⟩
 ·exact h.row q (e1 ▸ hq)
 ·rw [e1] at hq
  have : q' = q := by simpa using hq
  have := h.upto
  omega
theorem Ents.step {A : Nat} {g g' : Option Nat} {w w' : World} {es : List Ent} (h : Ents A g w es) (hk : ∀ b, A ≤ b → b < w.heap.size → some b ≠ g → w'.heap[b]? = w.heap[b]?) (hs : w.heap.size ≤ w'.heap.size)
  (hg : g' = g ∨ ∃ q, g' = some q ∧ w.heap.size ≤ q) : Ents A g' w' es := by
 refine ⟨fun e he => ?_, h.ap⟩
 have o := h.ok e he
 refine o.keep (fun b h1 h2 => hk b (Nat.le_trans o.start h1) (Nat.lt_of_lt_of_le h2 o.upto) fun e1 => ?_) hs hg
 have := o.row b e1.symm
 omega
theorem Ents.snoc {A : Nat} {g : Option Nat} {w w' : World} {es : List Ent} {e : Ent} (h : Ents A g w es) (ho : EntOk A g w' e) (hk : ∀ b, A ≤ b → b < w.heap.size → some b ≠ g → w'.heap[b]? = w.heap[b]?) (hs : w.heap.size ≤ w'.heap.size) (hl : w.heap.size ≤ e.lo) : Ents A g w' (es ++ [e]) := by
 have h' := h.step hk hs (.inl rfl)
 refine ⟨fun x hx => ?_, ?_⟩
 ·rcases List.mem_append.1 hx with hx | hx
  ·exact h'.ok x hx
  ·simp only [List.mem_cons, List.not_mem_nil, or_false] at hx
   exact hx ▸ ho
 ·rw [List.pairwise_append]
  refine ⟨h.ap, by simp, fun a ha b hb => ?_⟩
  simp only [List.mem_cons, List.not_mem_nil, or_false] at hb
  subst hb
  exact .inl (Nat.le_trans (h.ok a ha).upto hl)
def RowAt (g : Nat) (w : World) (es : List Ent) : Prop := ∀ j e, es[j]? = some e → ∀ q v, e.cells[q]? = some v → w.cell? ⟨g, j * 6 + q, none⟩ = some v
theorem flat_at : ∀ {es : List Ent} {j : Nat} {e : Ent}, es[j]? = some e → ∀ {q : Nat} {v : Value}, e.cells[q]? = some v → (es.flatMap Ent.cells)[j * 6 + q]? = some v
 | x :: r, 0, e, h, q, v, hv => by
  simp only [List.getElem?_cons_zero, Option.some.injEq] at h
  subst h
  rw [List.flatMap_cons, List.getElem?_append_left (by have := (List.getElem?_eq_some_iff.1 hv).1; simpa using this)]
  simpa using hv
 | x :: r, j + 1, e, h, q, v, hv => by
  rw [List.flatMap_cons, List.getElem?_append_right (by simp [Ent.cells]; omega)]
  have := flat_at (es := r) (j := j) (by simpa using h) hv
  rwa [show (j + 1) * 6 + q - x.cells.length = j * 6 + q by simp [Ent.cells]; omega]
theorem RowAt.kids {A g B : Nat} {o : Option Nat} {w : World} : ∀ {es : List Ent} {off : Nat}, (∀ j e, es[j]? = some e → ∀ q v, e.cells[q]? = some v → w.cell? ⟨g, off + (j * 6 + q), none⟩ = some v) → (∀ e ∈ es, EntOk A o w e) → w.heap.size ≤ B → KidsLie B w g off (es.map Ent.t)
 | [], off, _, _, _ => by simp only [List.map_nil, KidsLie]
 | e :: r, off, h, hok, hB => by
  simp only [List.map_cons, KidsLie]
  refine ⟨⟨e.c0, e.c1, e.c2, e.c3, e.c4, e.c5, ?_, ?_⟩, RowAt.kids (es := r) (off := off + 6) (fun j e' he q v hv => ?_) (fun e' he => hok e' (List.mem_cons_of_mem _ he)) hB⟩
  ·have h0 := h 0 e rfl
   exact ⟨by simpa using h0 0 _ rfl, by simpa using h0 1 _ rfl, by simpa using h0 2 _ rfl, by simpa using h0 3 _ rfl, by simpa using h0 4 _ rfl, by simpa using h0 5 _ rfl⟩
  ·have o := hok e (List.mem_cons_self ..)
   exact (o.lies.mono (Nat.le_refl _) (Nat.le_trans o.upto hB)).lie
  ·have := h (j + 1) e' (by simpa using he) q v hv
   rwa [show off + 6 + (j * 6 + q) = off + ((j + 1) * 6 + q) by omega]
structure CopAt (g : Nat) (wr : World) (us : List Tree) (es : List Ent) : Prop where
 ts : es.map Ent.t = us
 cells : RowAt g wr es
 ents : Ents (g + 1) (some g) wr es
theorem six_heap {w : World} {b o : Nat} {v0 v1 v2 v3 v4 v5 : Value} {q : Nat} (h : q ≠ b) : (six w b o v0 v1 v2 v3 v4 v5).heap[q]? = w.heap[q]? := by
 rw [← six_eq]
 repeat rw [Below.heap_setCell _ _ _ _ h]
theorem cop_step {ts : List Tree} {t : Tree} {g j lo : Nat} {wr w2 : World} {es : List Ent} (hx : ts[j]? = some t) (hg : g < wr.heap.size) (hb : Below wr.heap.size wr w2) (hk : CopAt g wr (ts.take j) es) {v0 v1 v2 v3 v4 v5 : Value}
  (hlo : wr.heap.size ≤ lo) (hl2 : lo ≤ w2.heap.size) (hv : LiesF lo w2.heap.size w2 (.agg #[v0, v1, v2, v3, v4, v5]) t) (hr : ∀ q, q < 6 → (w2.cell? ⟨g, j * 6 + q, none⟩).isSome = true) :
  CopAt g (six w2 g (j * 6) v0 v1 v2 v3 v4 v5) (ts.take (j + 1)) (es ++ [⟨v0, v1, v2, v3, v4, v5, t, lo, w2.heap.size⟩]) := by
 have hjl : j < ts.length := (List.getElem?_eq_some_iff.1 hx).1
 have hel : es.length = j := by
  have := congrArg List.length hk.ts
  simp at this; omega
 have hheap : ∀ b, g + 1 ≤ b → (six w2 g (j * 6) v0 v1 v2 v3 v4 v5).heap[b]? = w2.heap[b]? := fun b h => six_heap (by omega)
 refine ⟨?_, ?_, ?_⟩
 ·rw [List.map_append, hk.ts, take_snoc hx]; rfl
 ·intro i e he q v hq
  have hq6 : q < 6 := by have := (List.getElem?_eq_some_iff.1 hq).1; simpa [Ent.cells] using this
  by_cases hi : i < es.length
  ·rw [List.getElem?_append_left hi] at he
   rw [six_out (fun _ => .inl (by omega)), hb.cell (p := ⟨g, _, none⟩) hg]
   exact hk.cells i e he q v hq
  ·rw [List.getElem?_append_right (by omega)] at he
   have hi0 : i - es.length = 0 := by
    have := (List.getElem?_eq_some_iff.1 he).1
    simp at this; omega
   rw [hi0] at he
   simp only [List.getElem?_cons_zero, Option.some.injEq] at he
   subst he
   obtain rfl : i = j := by omega
   obtain ⟨c0, c1, c2, c3, c4, c5⟩ := six_in (w := w2) (b := g) (o := i * 6) (v0 := v0) (v1 := v1) (v2 := v2) (v3 := v3) (v4 := v4) (v5 := v5) hr
   match q, hq6 with
   | 0, _ => simp only [Ent.cells, List.getElem?_cons_zero, Option.some.injEq] at hq; subst hq; exact c0
   | 1, _ => simp only [Ent.cells, List.getElem?_cons_zero, List.getElem?_cons_succ, Option.some.injEq] at hq; subst hq; exact c1
   | 2, _ => simp only [Ent.cells, List.getElem?_cons_zero, List.getElem?_cons_succ, Option.some.injEq] at hq; subst hq; exact c2
   | 3, _ => simp only [Ent.cells, List.getElem?_cons_zero, List.getElem?_cons_succ, Option.some.injEq] at hq; subst hq; exact c3
   | 4, _ => simp only [Ent.cells, List.getElem?_cons_zero, List.getElem?_cons_succ, Option.some.injEq] at hq; subst hq; exact c4
   | 5, _ => simp only [Ent.cells, List.getElem?_cons_zero, List.getElem?_cons_succ, Option.some.injEq] at hq; subst hq; exact c5
 ·refine hk.ents.snoc ⟨hv.keep (keepsF_of fun b h1 _ => hheap b (by omega)), by show g + 1 ≤ lo; omega, hl2, by rw [six_size]; exact Nat.le_refl _, fun q hq => .inl ?_⟩ (fun b h1 h2 _ => (hheap b h1).trans (hb.block b h2)) (by rw [six_size]; exact hb.size) hlo
  simp only [Option.some.injEq] at hq
  subst hq
  show g < lo
  omega
set_option maxRecDepth 100000 in
set_option maxHeartbeats 2000000 in
theorem copies_someO (ts : List Tree) (ih : ∀ t ∈ ts, CopyOkF t) (B : Nat) (a : Addr) (lc : Nat) (w : World) (hB : B ≤ w.heap.size) (hl : ListLies B w (some a) ts) (h1 : ts.length ≤ lc) (h2 : lc ≤ maxLen) (htot : Tree.totalL ts ≤ 1000000) :
  Calls Tryz.prog 61 #[.slice (some a) ts.length lc] w fun e w' => ∃ es, e = .returned (.slice (some ⟨w.heap.size, 0, none⟩) ts.length ts.length) ∧ CopAt w.heap.size w' ts es ∧ Room w' w.heap.size ts.length ∧ w.heap.size < w'.heap.size ∧ Below w.heap.size w w' := by
 unfold maxLen at h2
 obtain ⟨i0, hi, hz0, hz1, hz2⟩ := info_parts Tryz.info26
 have hlen := totalL_len ts
 have hmk : ∀ W : World, (Instr.makeSlice 24 (.int .i64 (ts.length : Int)) (.int .i64 (ts.length : Int))).run Tryz.prog W = .ok (.slice (some ⟨W.heap.size, 0, none⟩) ts.length ts.length) (W.alloc (.cells (madeCells #[.int .i64 0, .bool false, .int .i64 0, .string ⟨#[]⟩, .slice none 0 0, .slice none 0 0] (ts.length * 6)) 26)) := fun W => by
  have := run_makeSlice (P := Tryz.prog) W 24 26 i0 _ Tryz.underlying24 hi hz0 .i64 .i64 (ts.length : Int) (ts.length : Int) (by omega) (by omega) (by rw [hz1]; omega) (by rw [hz2]; omega) (by omega)
  simpa [hz1, Value.cells] using this
 have heq : ∀ W : World, (binOp .eql 24 (.slice (some a) ts.length lc) (.slice none 0 0)).run Tryz.prog W = .ok (.bool false) W := fun W => by
  have := Lib.run_eql_slice_nil (P := Tryz.prog) W 24 26 (some a) ts.length lc 0 0 Tryz.underlying24
  simpa using this
 obtain ⟨W1, hW1⟩ : ∃ W1, w.alloc (.cells (madeCells #[.int .i64 0, .bool false, .int .i64 0, .string ⟨#[]⟩, .slice none 0 0, .slice none 0 0] (ts.length * 6)) 26) = W1 := ⟨_, rfl⟩
 have hb1 : Below w.heap.size w W1 := hW1 ▸ (Below.refl _ _).alloc (Nat.le_refl _) _
 have hg1 : w.heap.size < W1.heap.size := by rw [← hW1]; simp
 have hroom : Room W1 w.heap.size ts.length := by
  intro o ho
  rw [← hW1]
  have hs : (madeCells #[.int .i64 0, .bool false, .int .i64 0, .string ⟨#[]⟩, .slice none 0 0, .slice none 0 0] (ts.length * 6)).size = ts.length * 6 := size_madeCells _ _
  refine ⟨?_, ?_⟩
  ·rw [cell_new _ _ _ o _ (Array.getElem?_eq_getElem (by rw [hs]; exact ho))]; rfl
  ·have hn := World.alloc_heap_new w (.cells (madeCells #[.int .i64 0, .bool false, .int .i64 0, .string ⟨#[]⟩, .slice none 0 0, .slice none 0 0] (ts.length * 6)) 26)
   unfold World.frozen?
   simp only [hn]
   simp
 have HLL := hidE hl
 have HIH := hidE ih
 have HW1 := hidE hW1
 have HTOT := hidE htot
 clear hl ih hW1 htot
 go_enter Tryz.func61, Tryz.ntmps61
 go_wp2_with fail
 rw [HW1.out]
 clear hmk heq HW1
 go_loopw [13] (fun i wr => ∃ j : Nat, j ≤ ts.length ∧ i = .int .i64 j ∧ Below w.heap.size w wr ∧ w.heap.size < wr.heap.size ∧ Room wr w.heap.size ts.length ∧ (∃ es, CopAt w.heap.size wr (ts.take j) es)) (fun i _ => ts.length - (intOf i).toNat)
 case atStart => exact ⟨0, Nat.zero_le _, rfl, hb1, hg1, hroom, [], rfl, fun j e h => by simp at h, fun e h => by simp at h, .nil⟩
 case round =>
  obtain ⟨j, hj, rfl, hbr, hgr, hrm, es, hkids⟩ := hrel
  have HBR := hidE hbr
  have HRM := hidE hrm
  have HKI := hidE hkids
  clear hbr hrm hkids
  by_cases hlt : j < ts.length
  ·obtain ⟨bl, off, ha, hbl, hkk⟩ := (HLL.out.below (HBR.out.mono hB)).resolve_left (by intro e; subst e; simp at hlt)
   obtain rfl : a = ⟨bl, off, none⟩ := by simpa using ha
   obtain ⟨⟨p0, p1, p2, p3, p4, p5⟩, hx⟩ : ∃ t, ts[j]? = some t := ⟨_, List.getElem?_eq_getElem hlt⟩
   obtain ⟨ja, jc, jl, jd, ⟨c0, c1, c2, c3, c4, c5⟩, hlx⟩ := hkk.cells hx
   have HX := hidE hx
   have hm := totalL_mem (List.mem_of_getElem? hx)
   have HC := hidE (HIH.out _ (List.mem_of_getElem? hx) B _ (wr.alloc (.cells #[.int .i64 p0, .bool p1, .int .i64 p2, .string p3, .slice ja p4.length jc, .slice jl p5.length jd] 26)) (by have := HBR.out.size; simp; omega)
    (hlx.below (((Below.refl _ wr).alloc (Nat.le_refl _) _).mono (Nat.le_trans hB HBR.out.size))) (by have := HTOT.out; omega))
   clear hkk hlx hx hm
   go_wp2_with fail
   refine HC.out.mono ?_
   rintro e w2 ⟨v2, rfl, hv2, hb2⟩
   have HBA := hidE (below_alloc hb2)
   have hsz2 : wr.heap.size < w2.heap.size := by have := hb2.size; simp at this; omega
   obtain ⟨k0, b0, n0, s0, l0, l1⟩ := (show Tree from .mk p0 p1 p2 p3 p4 p5)
   have hv2' := hv2
   simp only [LiesF] at hv2'
   obtain ⟨ka', kc', la', lc', rfl, -⟩ := hv2'
   have HV2 := hidE hv2
   have hrm2 := HRM.out.below HBA.out hgr
   obtain ⟨u0, d0⟩ := Option.isSome_iff_exists.1 (hrm2 (j * 6) (by omega)).1
   obtain ⟨u1, d1⟩ := Option.isSome_iff_exists.1 (hrm2 (j * 6 + 1) (by omega)).1
   obtain ⟨u2, d2⟩ := Option.isSome_iff_exists.1 (hrm2 (j * 6 + 2) (by omega)).1
   obtain ⟨u3, d3⟩ := Option.isSome_iff_exists.1 (hrm2 (j * 6 + 3) (by omega)).1
   obtain ⟨u4, d4⟩ := Option.isSome_iff_exists.1 (hrm2 (j * 6 + 4) (by omega)).1
   obtain ⟨u5, d5⟩ := Option.isSome_iff_exists.1 (hrm2 (j * 6 + 5) (by omega)).1
   have f0 := (hrm2 (j * 6) (by omega)).2
   have f1 := (hrm2 (j * 6 + 1) (by omega)).2
   have f2 := (hrm2 (j * 6 + 2) (by omega)).2
   have f3 := (hrm2 (j * 6 + 3) (by omega)).2
   have f4 := (hrm2 (j * 6 + 4) (by omega)).2
   have f5 := (hrm2 (j * 6 + 5) (by omega)).2
   have HR2 := hidE hrm2
   clear hv2 hb2 hrm2 c0 c1 c2 c3 c4 c5 HC
   go_wp2_with fail
   clear d0 d1 d2 d3 d4 d5 f0 f1 f2 f3 f4 f5
   rw [six_eq]
   go_roundw
   case rel =>
    refine ⟨j + 1, by omega, by go_num, six_below (HBR.out.trans (HBA.out.mono HBR.out.size)) (Nat.le_refl _) _ _ _ _ _ _, by rw [six_size]; omega, HR2.out.six (by omega) _ _ _ _ _ _, ?_⟩
    exact ⟨_, cop_step HX.out hgr HBA.out HKI.out (by simp) (by simp; omega) HV2.out (fun q hq => (HR2.out _ (by omega)).1)⟩
   case measure => simp [intOf]; omega
  ·have HT : Hid (ts.take j = ts) := List.take_of_length_le (by omega)
   have HK2 : Hid (CopAt w.heap.size wr ts es) := by have := HKI.out; rwa [HT.out] at this
   go_wp2_with fail
   go_ret
   exact ⟨es, rfl, HK2.out, HRM.out, hgr, HBR.out⟩
end Go.Proofs.YtbpmhgcjefpigaaGreatDoor

namespace Go.Proofs.YtbpmhgcjefpigaaGreatDoor
open Go.RowKit Go.Shelf Go.WideShapes
set_option linter.unusedVariables false
set_option linter.unusedSimpArgs false
def spareB : ByteArray := ⟨#[115, 112, 97, 114, 101]⟩
mutual
def SpareP (p : Nat → Prop) (w : World) : Value → Tree → Prop
 | v, .mk k b n s ks ts => ∃ bk kc bl lc, v = .agg #[.int .i64 k, .bool b, .int .i64 n, .string s, .slice (some ⟨bk, 0, none⟩) ks.length kc, .slice (some ⟨bl, 0, none⟩) ts.length lc] ∧
   (s.size ≤ maxLen ∧ ks.length < kc ∧ kc ≤ maxLen ∧ ts.length < lc ∧ lc ≤ maxLen) ∧ (p bk ∧ p bl) ∧
   (∀ i, i < ks.length → w.cell? ⟨bk, i, none⟩ = some (.string (ks.getD i ⟨#[]⟩)) ∧ (ks.getD i ⟨#[]⟩).size ≤ maxLen) ∧ w.cell? ⟨bk, ks.length, none⟩ = some (.string spareB) ∧
   SpareKids p w bl 0 ts ∧ w.cell? ⟨bl, ts.length * 6, none⟩ = some (.int .i64 77)
def SpareKids (p : Nat → Prop) (w : World) (bl : Nat) : Nat → List Tree → Prop
 | _, [] => True
 | off, t :: ts => (∃ v0 v1 v2 v3 v4 v5, (w.cell? ⟨bl, off, none⟩ = some v0 ∧ w.cell? ⟨bl, off + 1, none⟩ = some v1 ∧ w.cell? ⟨bl, off + 2, none⟩ = some v2 ∧ w.cell? ⟨bl, off + 3, none⟩ = some v3 ∧
   w.cell? ⟨bl, off + 4, none⟩ = some v4 ∧ w.cell? ⟨bl, off + 5, none⟩ = some v5) ∧ SpareP p w (.agg #[v0, v1, v2, v3, v4, v5]) t) ∧ SpareKids p w bl (off + 6) ts
end
def Stay (p : Nat → Prop) (w w' : World) : Prop := ∀ b i, p b → w'.cell? ⟨b, i, none⟩ = w.cell? ⟨b, i, none⟩
theorem Stay.cell {p : Nat → Prop} {w w' : World} (h : Stay p w w') {b i : Nat} (hb : p b) : w'.cell? ⟨b, i, none⟩ = w.cell? ⟨b, i, none⟩ := h b i hb
mutual
theorem SpareP.keep {p : Nat → Prop} {w w' : World} (h : Stay p w w') : ∀ {v : Value} {T : Tree}, SpareP p w v T → SpareP p w' v T
 | v, .mk k b n s ks ts, hl => by
  simp only [SpareP] at hl ⊢
  obtain ⟨bk, kc, bl, lc, hv, hb, ⟨h1, h2⟩, hk, hs, ht, hx⟩ := hl
  exact ⟨bk, kc, bl, lc, hv, hb, ⟨h1, h2⟩, fun i hi => ⟨(h.cell h1).trans (hk i hi).1, (hk i hi).2⟩, (h.cell h1).trans hs, SpareKids.keep h h2 ht, (h.cell h2).trans hx⟩
theorem SpareKids.keep {p : Nat → Prop} {w w' : World} (h : Stay p w w') {bl : Nat} (hlt : p bl) : ∀ {off : Nat} {ts : List Tree}, SpareKids p w bl off ts → SpareKids p w' bl off ts
 | off, [], hl => by simp only [SpareKids]
 | off, t :: ts, hl => by
  simp only [SpareKids] at hl ⊢
  obtain ⟨⟨v0, v1, v2, v3, v4, v5, ⟨c0, c1, c2, c3, c4, c5⟩, hv⟩, hr⟩ := hl
  exact ⟨⟨v0, v1, v2, v3, v4, v5, ⟨(h.cell hlt).trans c0, (h.cell hlt).trans c1, (h.cell hlt).trans c2, (h.cell hlt).trans c3, (h.cell hlt).trans c4, (h.cell hlt).trans c5⟩, SpareP.keep h hv⟩, SpareKids.keep h hlt hr⟩
end
mutual
theorem SpareP.mono {p q : Nat → Prop} {w : World} (h : ∀ b, p b → q b) : ∀ {v : Value} {T : Tree}, SpareP p w v T → SpareP q w v T
 | v, .mk k b n s ks ts, hl => by
  simp only [SpareP] at hl ⊢
  obtain ⟨bk, kc, bl, lc, hv, hb, ⟨h1, h2⟩, hk, hs, ht, hx⟩ := hl
  exact ⟨bk, kc, bl, lc, hv, hb, ⟨h _ h1, h _ h2⟩, hk, hs, SpareKids.mono h ht, hx⟩
theorem SpareKids.mono {p q : Nat → Prop} {w : World} (h : ∀ b, p b → q b) {bl : Nat} : ∀ {off : Nat} {ts : List Tree}, SpareKids p w bl off ts → SpareKids q w bl off ts
 | off, [], hl => by simp only [SpareKids]
 | off, t :: ts, hl => by
  simp only [SpareKids] at hl ⊢
  obtain ⟨⟨v0, v1, v2, v3, v4, v5, hc, hv⟩, hr⟩ := hl
  exact ⟨⟨v0, v1, v2, v3, v4, v5, hc, SpareP.mono h hv⟩, SpareKids.mono h hr⟩
end
abbrev Spare (B : Nat) (w : World) (v : Value) (T : Tree) : Prop := SpareP (· < B) w v T
theorem Spare.below {B : Nat} {w w' : World} {v : Value} {T : Tree} (h : Below B w w') (hs : Spare B w v T) : Spare B w' v T := SpareP.keep (fun b i hb => h.cell (p := ⟨b, i, none⟩) hb) hs
theorem Spare.mono {B B' : Nat} {w : World} {v : Value} {T : Tree} (h : B ≤ B') (hs : Spare B w v T) : Spare B' w v T := SpareP.mono (fun b hb => Nat.lt_of_lt_of_le hb h) hs
mutual
theorem Spare.lies {B : Nat} {w : World} : ∀ {v : Value} {T : Tree}, SpareP (· < B) w v T → Lies B w v T
 | v, .mk k b n s ks ts, hl => by
  simp only [SpareP] at hl
  simp only [Lies]
  obtain ⟨bk, kc, bl, lc, hv, ⟨g1, g2, g3, g4, g5⟩, ⟨h1, h2⟩, hk, hs, ht, hx⟩ := hl
  exact ⟨_, kc, _, lc, hv, ⟨g1, by omega, g3, by omega, g5⟩, .inr ⟨bk, 0, rfl, h1, fun i hi => by rw [Nat.zero_add]; exact hk i hi⟩, .inr ⟨bl, 0, rfl, h2, SpareKids.lies ht⟩⟩
theorem SpareKids.lies {B : Nat} {w : World} {bl : Nat} : ∀ {off : Nat} {ts : List Tree}, SpareKids (· < B) w bl off ts → KidsLie B w bl off ts
 | off, [], hl => by simp only [KidsLie]
 | off, t :: ts, hl => by
  simp only [SpareKids] at hl
  simp only [KidsLie]
  obtain ⟨⟨v0, v1, v2, v3, v4, v5, hc, hv⟩, hr⟩ := hl
  exact ⟨⟨v0, v1, v2, v3, v4, v5, hc, Spare.lies hv⟩, SpareKids.lies hr⟩
end
theorem SpareKids.at {p : Nat → Prop} {w : World} {bl : Nat} : ∀ {ts : List Tree} {off : Nat}, SpareKids p w bl off ts → ∀ {i : Nat} {t : Tree}, ts[i]? = some t →
  ∃ v0 v1 v2 v3 v4 v5, (w.cell? ⟨bl, off + i * 6, none⟩ = some v0 ∧ w.cell? ⟨bl, off + i * 6 + 1, none⟩ = some v1 ∧ w.cell? ⟨bl, off + i * 6 + 2, none⟩ = some v2 ∧ w.cell? ⟨bl, off + i * 6 + 3, none⟩ = some v3 ∧
   w.cell? ⟨bl, off + i * 6 + 4, none⟩ = some v4 ∧ w.cell? ⟨bl, off + i * 6 + 5, none⟩ = some v5) ∧ SpareP p w (.agg #[v0, v1, v2, v3, v4, v5]) t
 | [], off, _, i, t, h => by simp at h
 | t :: ts, off, hl, 0, u, h => by
  simp only [SpareKids] at hl
  simp at h; subst h
  simpa using hl.1
 | t :: ts, off, hl, i + 1, u, h => by
  simp only [SpareKids] at hl
  have := SpareKids.at hl.2 (i := i) (t := u) (by simpa using h)
  rw [show off + 6 + i * 6 = off + (i + 1) * 6 from by omega] at this
  exact this
def Row6 (p : Nat → Prop) (w : World) : List Value → List Tree → Prop
 | [], [] => True
 | c0 :: c1 :: c2 :: c3 :: c4 :: c5 :: r, t :: ts => SpareP p w (.agg #[c0, c1, c2, c3, c4, c5]) t ∧ Row6 p w r ts
 | _, _ => False
theorem Row6.snoc {p : Nat → Prop} {w : World} {c0 c1 c2 c3 c4 c5 : Value} {t : Tree} (ht : SpareP p w (.agg #[c0, c1, c2, c3, c4, c5]) t) : ∀ {xs : List Value} {ts : List Tree}, Row6 p w xs ts → Row6 p w (xs ++ [c0, c1, c2, c3, c4, c5]) (ts ++ [t])
 | [], [], _ => by simp only [List.nil_append, Row6]; exact ⟨ht, trivial⟩
 | d0 :: d1 :: d2 :: d3 :: d4 :: d5 :: r, u :: us, h => by
  simp only [Row6] at h
  simp only [List.cons_append, Row6]
  exact ⟨h.1, Row6.snoc ht h.2⟩
 | [], _ :: _, h => by simp [Row6] at h
 | _ :: _, [], h => by simp [Row6] at h
 | [_], _ :: _, h => by simp [Row6] at h
 | [_, _], _ :: _, h => by simp [Row6] at h
 | [_, _, _], _ :: _, h => by simp [Row6] at h
 | [_, _, _, _], _ :: _, h => by simp [Row6] at h
 | [_, _, _, _, _], _ :: _, h => by simp [Row6] at h
theorem Row6.keep {p q : Nat → Prop} {w w' : World} (hs : Stay p w w') (h : ∀ b, p b → q b) : ∀ {xs : List Value} {ts : List Tree}, Row6 p w xs ts → Row6 q w' xs ts
 | [], [], _ => by simp only [Row6]
 | d0 :: d1 :: d2 :: d3 :: d4 :: d5 :: r, u :: us, hr => by
  simp only [Row6] at hr ⊢
  exact ⟨(hr.1.keep hs).mono h, Row6.keep hs h hr.2⟩
 | [], _ :: _, h => by simp [Row6] at h
 | _ :: _, [], h => by simp [Row6] at h
 | [_], _ :: _, h => by simp [Row6] at h
 | [_, _], _ :: _, h => by simp [Row6] at h
 | [_, _, _], _ :: _, h => by simp [Row6] at h
 | [_, _, _, _], _ :: _, h => by simp [Row6] at h
 | [_, _, _, _, _], _ :: _, h => by simp [Row6] at h
theorem Row6.kids {p : Nat → Prop} {w : World} {g : Nat} : ∀ {xs : List Value} {ts : List Tree} {off : Nat}, Row6 p w xs ts → (∀ j u, xs[j]? = some u → w.cell? ⟨g, off + j, none⟩ = some u) → SpareKids p w g off ts
 | [], [], _, _, _ => by simp only [SpareKids]
 | d0 :: d1 :: d2 :: d3 :: d4 :: d5 :: r, u :: us, off, hr, hc => by
  simp only [Row6] at hr
  simp only [SpareKids]
  refine ⟨⟨d0, d1, d2, d3, d4, d5, ⟨hc 0 _ rfl, hc 1 _ rfl, hc 2 _ rfl, hc 3 _ rfl, hc 4 _ rfl, hc 5 _ rfl⟩, hr.1⟩, Row6.kids hr.2 fun j v hv => ?_⟩
  have := hc (j + 6) v (by simpa using hv)
  rwa [show off + (j + 6) = off + 6 + j from by omega] at this
 | [], _ :: _, _, h, _ => by simp [Row6] at h
 | _ :: _, [], _, h, _ => by simp [Row6] at h
 | [_], _ :: _, _, h, _ => by simp [Row6] at h
 | [_, _], _ :: _, _, h, _ => by simp [Row6] at h
 | [_, _, _], _ :: _, _, h, _ => by simp [Row6] at h
 | [_, _, _, _], _ :: _, _, h, _ => by simp [Row6] at h
 | [_, _, _, _, _], _ :: _, _, h, _ => by simp [Row6] at h
theorem strings_get (ks : List ByteArray) {j : Nat} {u : Value} (h : (ks.map Value.string)[j]? = some u) : j < ks.length ∧ u = .string (ks.getD j ⟨#[]⟩) := by
 rw [List.getElem?_map] at h
 obtain ⟨x, h1, rfl⟩ := Option.map_eq_some_iff.1 h
 obtain ⟨h2, h3⟩ := List.getElem?_eq_some_iff.1 h1
 exact ⟨h2, by rw [List.getD_eq_getElem?_getD, h1]; rfl⟩
theorem append_keys {ty : TypeId} {base n B kc : Nat} {v : Value} {xs : List Value} {w : World} {ka : Option Addr} {ks : List ByteArray} (hown : w.ownsRow base 9 1 v n xs) (hk : KeysLie B w ka ks) (hn : n + ks.length ≤ 1000000) (hb : base ≤ w.heap.size) :
  ∃ v' w', (Builtin.append_ #[23, 23] ty #[v, .slice ka ks.length kc]).run Tryz.prog w = .ok v' w' ∧ w'.ownsRow base 9 1 v' (n + ks.length) (xs ++ ks.map .string) ∧ w.grownBy w' v.ownBlock ∧ (v'.ownBlock = v.ownBlock ∨ v'.ownBlock = some w.heap.size) := by
 obtain ⟨i0, hi, hz0, hz1, hz2⟩ := info_parts Tryz.info9
 cases ka with
 | none =>
  have hks : ks = [] := by
   rcases hk with h | ⟨_, _, h, _⟩
   ·exact h
   ·cases h
  subst hks
  refine ⟨v, w, ?_, by simpa using hown, ⟨rfl, rfl, rfl, Nat.le_refl _, fun _ _ _ => rfl⟩, .inl rfl⟩
  rcases hown.2 with ⟨rfl, rfl⟩ | ⟨g, cap, cur, rfl, _, _, hnc, _⟩
  ·simp [Builtin.append_, run_underlying Tryz.underlying23, sizeOf, typeInfo, hi, Builtin.lenOf, Builtin.firstCells]
  ·simp [Builtin.append_, run_underlying Tryz.underlying23, sizeOf, typeInfo, hi, Builtin.lenOf, Builtin.firstCells, hnc, storeCells]
 | some ad =>
  obtain ⟨v', w', hr, h2, h3, _, h5⟩ := run_append_own_at (P := Tryz.prog) w base 23 ty 9 i0 (.string ⟨#[]⟩) 1 16 Tryz.underlying23 hi hz0 hz1 hz2 rfl (by decide) v n xs hown ad ks.length kc (ks.map .string) (by simp) (fun j u hu => by
    obtain ⟨hj, rfl⟩ := strings_get ks hu
    rcases hk with h | ⟨b, off, h, _, hc⟩
    ·subst h; simp at hj
    ·obtain rfl : ad = ⟨b, off, none⟩ := Option.some.inj h
     rw [add_plain]; exact (hc j hj).1) (fun u hu => by
    obtain ⟨x, _, rfl⟩ := List.mem_map.1 hu; rfl) (by unfold maxLen; omega) (by omega) hb
  exact ⟨v', w', hr, h2, h3, h5⟩
end Go.Proofs.YtbpmhgcjefpigaaGreatDoor

