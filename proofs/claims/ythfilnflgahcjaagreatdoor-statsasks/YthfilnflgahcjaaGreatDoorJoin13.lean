/- A value is weighed: too great a one gives up. The shelf's contracts at this dump: whether a text is UTF-8, and where a byte stands. The shelf's contracts at this dump: comparing texts, copying lists of texts. Whether a value may be, as far as it can be told without what is in its list: blank, rising, shaped. -/
import Derived.Test.YthfilnflgahcjaaGreatDoorJoin12
import Derived.Shelf.Unicode.ValidAny
import Derived.Shelf.Small.Strs
import Derived.Test.YthfilnflgahcjaaGreatDoorProg
import Derived.Ground.NamesProg
import Derived.Ground.Names2Prog
import Derived.Shelf.Slices.Clone
import Derived.Test.YthfilnflgahcjaaGreatDoorJoin4
namespace Go.Proofs.YthfilnflgahcjaaGreatDoor
open Go.RowKit Go.Shelf
set_option linter.unusedVariables false
attribute [local go_sem] Oper.semAt_some
def keyBytes (ks : List ByteArray) : Int := (ks.map fun k => (k.size : Int)).sum
/-- The bytes of a value's own text and keys. -/
def Tree.bytes (t : Tree) : Int := t.text.size + keyBytes t.keys
/-- Is a value in a row of values too great, with so many bytes ahead? -/
def heavy : Int → List (Int × Tree) → Bool
  | _, [] => false
  | a, (d, t) :: r => decide (64 < d ∨ 65536 < t.kids.length ∨ 1048576 < a + t.bytes) || heavy (a + t.bytes) r
def bytesOf (l : List (Int × Tree)) : Int := (l.map fun x => x.2.bytes).sum
theorem heavy_snoc (l : List (Int × Tree)) : ∀ (a d : Int) (t : Tree), heavy a (l ++ [(d, t)]) = (heavy a l || decide (64 < d ∨ 65536 < t.kids.length ∨ 1048576 < a + bytesOf l + t.bytes)) := by
  induction l with
  | nil => intro a d t; simp [heavy, bytesOf]
  | cons x r ih =>
    intro a d t
    obtain ⟨e, u⟩ := x
    simp only [List.cons_append, heavy, ih, bytesOf, List.map_cons, List.sum_cons, Bool.or_assoc]
    congr 2
    rw [show a + (u.bytes + (r.map fun x => x.2.bytes).sum) + t.bytes = a + u.bytes + (r.map fun x => x.2.bytes).sum + t.bytes from by omega]
    rfl
theorem heavy_prefix {p l : List (Int × Tree)} (h : p <+: l) : ∀ a, heavy a p = true → heavy a l = true := by
  obtain ⟨r, rfl⟩ := h
  induction p with
  | nil => intro a h; simp [heavy] at h
  | cons x p ih =>
    intro a h
    obtain ⟨d, t⟩ := x
    simp only [List.cons_append, heavy, Bool.or_eq_true] at h ⊢
    exact h.imp id (ih _)
theorem keyBytes_nonneg (ks : List ByteArray) : 0 ≤ keyBytes ks := by
  induction ks with
  | nil => simp [keyBytes]
  | cons k r ih => simp only [keyBytes, List.map_cons, List.sum_cons] at ih ⊢; omega
theorem bytes_nonneg (t : Tree) : 0 ≤ t.bytes := by have := keyBytes_nonneg t.keys; unfold Tree.bytes; omega
theorem bytesOf_append (a b : List (Int × Tree)) : bytesOf (a ++ b) = bytesOf a + bytesOf b := by simp [bytesOf]
theorem bytesOf_one (d : Int) (k : Int) (b : Bool) (n : Int) (s : ByteArray) (ks : List ByteArray) (ts : List Tree) : bytesOf [(d, .mk k b n s ks ts)] = s.size + keyBytes ks := by simp [bytesOf, Tree.bytes, Tree.text, Tree.keys]
theorem bytesOf_nonneg (l : List (Int × Tree)) : 0 ≤ bytesOf l := by
  induction l with
  | nil => simp [bytesOf]
  | cons x r ih => have := bytes_nonneg x.2; simp only [bytesOf, List.map_cons, List.sum_cons] at ih ⊢; omega
theorem bytesOf_prefix {p l : List (Int × Tree)} (h : p <+: l) : bytesOf p ≤ bytesOf l := by
  obtain ⟨r, rfl⟩ := h
  have := bytesOf_nonneg r
  rw [bytesOf_append]; omega
theorem keyBytes_take (ks : List ByteArray) (j : Nat) (h : j < ks.length) : keyBytes (ks.take (j + 1)) = keyBytes (ks.take j) + (ks.getD j ⟨#[]⟩).size := by
  rw [List.take_add_one, List.getD_eq_getElem?_getD, List.getElem?_eq_getElem h]; simp only [keyBytes, Option.toList_some, List.map_append, List.sum_append, List.map_cons, List.map_nil, List.sum_cons, List.sum_nil, Option.getD_some]; omega
theorem keyBytes_le (ks : List ByteArray) (j : Nat) : keyBytes (ks.take j) ≤ keyBytes ks := by
  have h : keyBytes ks = keyBytes (ks.take j) + keyBytes (ks.drop j) := by
    have := congrArg keyBytes (List.take_append_drop j ks)
    rw [← this]; simp [keyBytes, -List.take_append_drop]
  have := keyBytes_nonneg (ks.drop j); omega
set_option maxRecDepth 100000 in
set_option maxHeartbeats 1000000 in
theorem weigh_any {F : Fence} (hd : F.depth = none) (hro : F.round = none) (h48 : F.fn 200) (h45 : F.fn 197) (h57 : F.fn 234) (h58 : F.fn 235) (hex : ∀ f, F.fn f → ∃ fn, Tryz.prog.funcs[f]? = some fn) (m : Nat) (v : Value) (T : Tree) (w : World)
    (hv : Lies w.heap.size w v T) (hh : T.height < 100000000) (hb : bytesOf (T.pre 1) < 4611686018427387904) :
    CallsIn F m Tryz.prog 200 #[v] w fun e w' => Below w.heap.size w w' ∧ ((heavy 0 (T.pre 1) = false ∧ ∃ x, e = .returned x) ∨ (heavy 0 (T.pre 1) = true ∧ e = .panicked [{ v := .iface 34 (.int .i64 3), recovered := false }])) := by
  obtain ⟨k, b, n, s, ks, ts⟩ := T
  have hv0 := hv
  simp only [Lies] at hv
  obtain ⟨ka, kc, la, lc, rfl, ⟨hs1, hs2, hs3, hs4, hs5⟩, hk, ht⟩ := hv
  refine callsIn_of_wp_marks Tryz.func200 rfl h48 ?_ hro
  simp only [Tryz.ntmps200, List.size_toArray, List.length_cons, List.length_nil, Nat.reduceAdd, Nat.reduceSub, Array.replicate_succ, Array.replicate_zero, List.push_toArray, List.append_toArray, List.nil_append, List.cons_append]
  gi_wp2_with (gi_at_call 197; refine (within_any h45 hro _ _ _ _ _ _ _ _ _ _ _ _).mono ?_; rintro e w' ⟨rfl, rfl⟩)
  refine range_wp hro hd (gf := 234) (lb := #[.pointer (some ⟨w.heap.size + 1 + 1, 0, none⟩)]) rfl h57 (enters_of Tryz.func234 (by kernel_rfl) rfl) ?_
  intro fn hfn
  generalize hrec : Loop.mk _ _ _ _ _ _ _ _ = rec
  simp only [World.size_alloc]
  generalize hW0 : World.alloc _ (Obj.loop rec) = W0
  have hsz : W0.heap.size = w.heap.size + 5 := by rw [← hW0]; simp
  have b1 : W0.heap[w.heap.size + 1]? = some (.cells #[.int .i64 0] 3 (0, 0)) := by rw [← hW0]; simp only [heap_alloc_at, World.size_alloc]; repeat (first | rw [if_pos trivial] | rw [if_pos (by omega)] | rw [if_neg (by omega)])
  have b2 : W0.heap[w.heap.size + 2]? = some (.cells #[.int .i64 k, .bool b, .int .i64 n, .string s, .slice ka ks.length kc, .slice la ts.length lc] 88 (0, 0)) := by rw [← hW0]; simp only [heap_alloc_at, World.size_alloc]; repeat (first | rw [if_pos trivial] | rw [if_pos (by omega)] | rw [if_neg (by omega)])
  have b3 : W0.heap[w.heap.size + 3]? = some (.deferred (some [])) := by rw [← hW0]; simp only [heap_alloc_at, World.size_alloc]; repeat (first | rw [if_pos trivial] | rw [if_pos (by omega)] | rw [if_neg (by omega)])
  have b4 : W0.heap[w.heap.size + 4]? = some (.loop rec) := by rw [← hW0]; simp only [heap_alloc_at, World.size_alloc]; repeat (first | rw [if_pos trivial] | rw [if_pos (by omega)] | rw [if_neg (by omega)])
  have hbl : Below w.heap.size w W0 := by
    rw [← hW0]; exact (((((Below.refl _ w).alloc (Nat.le_refl _) _).alloc (by simp) _).alloc (by simp; omega) _).alloc (by simp; omega) _).alloc (by simp; omega) _
  clear hW0
  have R : Rounds F (w.heap.size + 4) w.heap.size (w.heap.size + 5) w ((Tree.mk k b n s ks ts).pre 1)
      (fun pre W => W.heap[w.heap.size + 4]? = some (.loop rec) ∧ W.heap[w.heap.size + 3]? = some (.deferred (some [])) ∧ W.heap[w.heap.size + 1]? = some (.cells #[.int .i64 (bytesOf pre)] 3 (0, 0)) ∧
        Below w.heap.size w W ∧ w.heap.size + 5 ≤ W.heap.size ∧ heavy 0 pre = false)
      (fun _ => False)
      (fun ch W => ch = [{ v := .iface 34 (.int .i64 3), recovered := false }] ∧ W.heap[w.heap.size + 3]? = some (.deferred (some [])) ∧ Below w.heap.size w W ∧ heavy 0 ((Tree.mk k b n s ks ts).pre 1) = true) := by
    refine ⟨?_, ?_, ?_⟩
    · rintro pre W ⟨_, _, _, h4, h5, _⟩
      exact ⟨h4, by omega, h5⟩
    · rintro pre W W' ⟨h1, h2, h3, h4, h5, h6⟩ hb
      exact ⟨(hb.block _ (by omega)).trans h1, (hb.block _ (by omega)).trans h2, (hb.block _ (by omega)).trans h3, h4.trans (hb.mono (by omega)), by have := hb.size; omega, h6⟩
    · rintro m' pre d ⟨k', b', n', s', ks', us⟩ v W ⟨h1, h2, h3, h4, h5, h6⟩ hlv hpre
      simp only [Lies] at hlv
      obtain ⟨ka', kc', la', lc', rfl, ⟨g1, g2, g3, g4, g5⟩, hk', ht'⟩ := hlv
      have ea := congrArg Loop.assign hrec
      have eb := congrArg Loop.body hrec
      have et := congrArg Loop.tmps hrec
      have ep := congrArg Loop.params hrec
      have es := congrArg Loop.state hrec
      have ef := congrArg Loop.fn hrec
      have hr0 : asReady rec = rec := by rw [← hrec]; rfl
      dsimp only at ea eb et ep es ef
      clear hrec
      refine yield_round (by rw [← ef]; exact hfn) ea eb et ep h1 es.symm (by rw [← ep]; rfl) ?_
      clear ea eb et ep es
      gi_wp2_with fail
      refine ⟨(Below.heap_alloc _ _ _ (by omega)).trans h1, ?_⟩
      unfold maxLen at g1 g3 g5
      generalize hW2 : World.putObj _ _ _ = W2
      have a1 : W2.heap[w.heap.size + 4]? = some (.loop (asBusy rec)) := by rw [← hW2]; refine World.putObj_heap_same ?_; simp; omega
      have a2 : Boxed W2 (w.heap.size + 1) 3 (.int .i64 (bytesOf pre)) := by rw [← hW2]; show _ = _; rw [World.putObj_heap_other (by omega), Below.heap_alloc _ _ _ (by omega)]; exact h3
      have a3 : W2.heap[w.heap.size + 3]? = some (.deferred (some [])) := by rw [← hW2, World.putObj_heap_other (by omega), Below.heap_alloc _ _ _ (by omega)]; exact h2
      have a4 : W2.heap[W.heap.size]? = some (.cells #[.int .i64 k', .bool b', .int .i64 n', .string s', .slice ka' ks'.length kc', .slice la' us.length lc'] 88 (0, 0)) := by
        rw [← hW2]; exact (World.putObj_heap_other (by omega)).trans (World.alloc_heap_new _ _)
      have a5 : Below w.heap.size w W2 := by rw [← hW2]; exact (But.putObj _ _).below ((h4.alloc (by omega) _)) (by omega)
      have a6 : W2.heap.size = W.heap.size + 1 := by rw [← hW2]; simp
      have a7 : Above (w.heap.size + 5) W W2 := ⟨by omega, fun i hi hl => by rw [← hW2]; exact (World.putObj_heap_other (by omega)).trans (Below.heap_alloc _ _ _ hl)⟩
      clear hW2 h1 h2 h3
      have cb := a2.cell
      have fb := a2.frozen
      have x3 : W2.cell? ⟨W.heap.size, 3, none⟩ = some (.string s') := by unfold World.cell?; simp only [a4]; rfl
      have x4 : W2.cell? ⟨W.heap.size, 4, none⟩ = some (.slice ka' ks'.length kc') := by unfold World.cell?; simp only [a4]; rfl
      have hne : ¬ (W.heap.size = w.heap.size + 1) := by omega
      have hnb := bytesOf_nonneg pre
      have hbb := bytesOf_prefix hpre
      rw [bytesOf_append, bytesOf_one] at hbb
      have hkb := keyBytes_nonneg ks'
      gi_wp2_with fail
      gi_loopw [19] (fun i wr => ∃ j : Nat, j ≤ ks'.length ∧ i = .int .i64 j ∧ But (w.heap.size + 1) W2 wr ∧ Boxed wr (w.heap.size + 1) 3 (.int .i64 (bytesOf pre + s'.size + keyBytes (ks'.take j)))) (fun i _ => ks'.length - (intOf i).toNat)
      case atStart => exact ⟨0, Nat.zero_le _, rfl, (But.refl _ _).setCell (p := ⟨w.heap.size + 1, 0, none⟩) rfl _, by simpa [keyBytes] using a2.set _⟩
      case round =>
        obtain ⟨j, hj, rfl, hbut, hbx⟩ := hrel
        have kj := keyBytes_nonneg (ks'.take j)
        have kl := keyBytes_le ks' j
        have cb' := hbx.cell
        have fb' := hbx.frozen
        clear cb fb x3 x4
        by_cases hlt : j < ks'.length
        · obtain ⟨bk, off, rfl, hbk, hkey⟩ := hk'.resolve_left (by intro e; subst e; simp at hlt)
          have hc := hkey j hlt
          have hck : wr.cell? ⟨bk, off + j, none⟩ = some (.string (ks'.getD j ⟨#[]⟩)) := ((hbut.cell (p := ⟨bk, off + j, none⟩) (by show bk ≠ _; omega)).trans (a5.cell (p := ⟨bk, off + j, none⟩) hbk)).trans hc.1
          have HS : Hid (keyBytes (ks'.take (j + 1)) = keyBytes (ks'.take j) + (ks'.getD j ⟨#[]⟩).size) := keyBytes_take ks' j hlt
          have kl2 := keyBytes_le ks' (j + 1)
          rw [HS.out] at kl2
          have hsz := hc.2
          unfold maxLen at hsz
          generalize ks'.getD j ⟨#[]⟩ = kx at *
          clear hkey hc
          gi_wp2_with fail
          go_roundw
          case rel => exact ⟨j + 1, by omega, by go_num, hbut.setCell (p := ⟨w.heap.size + 1, 0, none⟩) rfl _, by rw [HS.out, ← Int.add_assoc]; exact hbx.set _⟩
          case measure => simp [intOf]; omega
        · rw [List.take_of_length_le (by omega)] at hbx kj kl cb'
          have x5 : wr.cell? ⟨W.heap.size, 5, none⟩ = some (.slice la' us.length lc') := (hbut.cell (p := ⟨W.heap.size, 5, none⟩) (by show W.heap.size ≠ _; omega)).trans (by unfold World.cell?; simp only [a4]; rfl)
          have HH : Hid (heavy 0 (pre ++ [(d, .mk k' b' n' s' ks' us)]) = decide (64 < d ∨ 65536 < us.length ∨ 1048576 < bytesOf pre + s'.size + keyBytes ks')) := by
            show _ = _
            rw [heavy_snoc, h6]; simp [Tree.kids, Tree.bytes, Tree.text, Tree.keys, Int.add_assoc]
          have HB : Hid (bytesOf (pre ++ [(d, .mk k' b' n' s' ks' us)]) = bytesOf pre + s'.size + keyBytes ks') := by show _ = _; rw [bytesOf_append, bytesOf_one]; omega
          have HW : Hid (wr.heap[w.heap.size + 4]? = some (.loop (asBusy rec))) := (hbut.block _ (by omega)).trans a1
          have HD : Hid (wr.heap[w.heap.size + 3]? = some (.deferred (some []))) := (hbut.block _ (by omega)).trans a3
          have HBel : Below w.heap.size w wr := hbut.below a5 (by omega)
          have hs2 := hbut.size
          clear h6 a1 a2 a3 a4
          have HX : Hid (∃ fn, Tryz.prog.funcs[rec.fn]? = some fn) := hex _ (by rw [← ef]; exact hfn)
          by_cases q1 : 64 < d
          · gi_wp2_with fail
            have HP := heavy_prefix hpre 0 (HH.out.trans (by simp [q1]))
            first | exact ⟨rfl, HX.out, .inr (.inr ⟨_, rfl, rfl, HD.out, HBel, HP⟩)⟩ | exact ⟨rfl, HX.out, .inr ⟨_, rfl, rfl, HD.out, HBel, HP⟩⟩
          · by_cases q2 : 65536 < us.length
            · have q2' : (65536 : Int) < us.length := by omega
              gi_wp2_with fail
              have HP := heavy_prefix hpre 0 (HH.out.trans (by simp [q2]))
              first | exact ⟨rfl, HX.out, .inr (.inr ⟨_, rfl, rfl, HD.out, HBel, HP⟩)⟩ | exact ⟨rfl, HX.out, .inr ⟨_, rfl, rfl, HD.out, HBel, HP⟩⟩
            · have q2' : ¬ (65536 : Int) < us.length := by omega
              by_cases q3 : 1048576 < bytesOf pre + s'.size + keyBytes ks'
              · gi_wp2_with fail
                have HP := heavy_prefix hpre 0 (HH.out.trans (by simp [q3]))
                first | exact ⟨rfl, HX.out, .inr (.inr ⟨_, rfl, rfl, HD.out, HBel, HP⟩)⟩ | exact ⟨rfl, HX.out, .inr ⟨_, rfl, rfl, HD.out, HBel, HP⟩⟩
              · gi_wp2_with fail
                have hlt4 : w.heap.size + 4 < wr.heap.size := by omega
                refine ⟨HW.out, .inl ⟨rfl, ⟨?_, ?_, ?_, ?_, ?_, ?_⟩, ?_⟩⟩
                · rw [hr0]; exact World.putObj_heap_same hlt4
                · rw [World.putObj_heap_other (by omega)]; exact HD.out
                · rw [World.putObj_heap_other (by omega), HB.out]; exact hbx
                · exact (But.putObj _ _).below HBel (by omega)
                · rw [World.putObj_size]; omega
                · exact HH.out.trans (by simp [q1, q2, q3])
                · refine a7.trans ⟨by rw [World.putObj_size]; omega, fun i hi hl => ?_⟩
                  rw [World.putObj_heap_other (by omega)]; exact hbut.block i (by omega)
  refine (within1_any hd h57 h58 hro R (m - 1) (w.heap.size + 1 + 1) W0 hv0 ⟨b4, b3, b1, hbl, by omega, rfl⟩ (by simp only [Tree.height] at hh; omega)
    (by unfold World.cell?; simp only [b2]; rfl) (by unfold World.cell?; simp only [b2]; rfl) (by unfold World.cell?; simp only [b2]; rfl) (by unfold World.cell?; simp only [b2]; rfl) (by unfold World.cell?; simp only [b2]; rfl) (by unfold World.cell?; simp only [b2]; rfl)).mono ?_
  rintro e W' (⟨⟨x, rfl⟩, ⟨h1, h2, h3, h4, h5, h6⟩ | hx⟩ | ⟨ch, rfl, rfl, h2, h4, h6⟩)
  · have hp : rec.pending = none := by rw [← hrec]
    have hst : rec.state ≠ .busy := by rw [← hrec]; simp
    clear hrec
    refine ⟨rec, h1, hst, ?_⟩
    simp only [hp]
    show LeavesInM _ _ _ _ _ _ [_] _ _
    refine ⟨by simp, .inl ⟨_, _, rfl, run_takeDeferred ((World.putObj_heap_other (by omega)).trans h2), ?_⟩⟩
    refine ⟨_, by simp [results, Tryz.results200, go_sem]; rfl, ?_⟩
    exact ⟨(But.putObj _ _).below ((But.putObj _ _).below h4 (by omega)) (by omega), .inl ⟨h6, _, rfl⟩⟩
  · exact hx.elim
  · show LeavesInM _ _ _ _ _ _ [_] _ _
    refine ⟨by simp, .inl ⟨_, _, rfl, run_takeDeferred h2, ?_⟩⟩
    exact ⟨(But.putObj _ _).below h4 (by omega), .inr ⟨h6, rfl⟩⟩
end Go.Proofs.YthfilnflgahcjaaGreatDoor

namespace Go.Proofs
open Go.Shelf
def Tryz.laysValid_ren : Go.Shelf.Ren := ⟨fun | 196 => 116 | 259 => 141 | n => n, fun | 9 => 9 | 4 => 4 | 3 => 3 | 5 => 5 | 12 => 12 | 119 => 204 | 0 => 0 | 46 => 171 | 139 => 207 | 138 => 206 | 53 => 106 | n => n, fun | 3 => 0 | 4 => 1 | n => n⟩
theorem Tryz.laysValid : Go.Proofs.Lays.n196 Tryz.prog Tryz.laysValid_ren := {
  mixed := by kernel_rfl
  f196 := Tryz.func116.trans (congrArg some (by kernel_rfl))
  f259 := Tryz.func141.trans (congrArg some (by kernel_rfl))
  t0 := Tryz.underlying0
  a0 := Tryz.isAgg0
  z0 := Tryz.sizeOf0
  v0 := Tryz.zeroValue0
  t3 := Tryz.underlying3
  a3 := Tryz.isAgg3
  z3 := Tryz.sizeOf3
  v3 := Tryz.zeroValue3
  t4 := Tryz.underlying4
  a4 := Tryz.isAgg4
  z4 := Tryz.sizeOf4
  v4 := Tryz.zeroValue4
  t5 := Tryz.underlying5
  a5 := Tryz.isAgg5
  z5 := Tryz.sizeOf5
  v5 := Tryz.zeroValue5
  t9 := Tryz.underlying9
  a9 := Tryz.isAgg9
  z9 := Tryz.sizeOf9
  v9 := Tryz.zeroValue9
  t12 := Tryz.underlying12
  a12 := Tryz.isAgg12
  z12 := Tryz.sizeOf12
  v12 := Tryz.zeroValue12
  t46 := Tryz.underlying171
  a46 := Tryz.isAgg171
  z46 := Tryz.sizeOf171
  v46 := Tryz.zeroValue171
  t53 := Tryz.underlying106
  a53 := Tryz.isAgg106
  z53 := Tryz.sizeOf106
  v53 := Tryz.zeroValue106
  t119 := Tryz.underlying204
  a119 := Tryz.isAgg204
  z119 := Tryz.sizeOf204
  t138 := Tryz.underlying206
  a138 := Tryz.isAgg206
  z138 := Tryz.sizeOf206
  v138 := Tryz.zeroValue206
  t139 := Tryz.underlying207
  a139 := Tryz.isAgg207
  z139 := Tryz.sizeOf207
  v139 := Tryz.zeroValue207
  g3 := by kernel_rfl
  g4 := by kernel_rfl }
def Tryz.lays137_ren : Go.Shelf.Ren := ⟨fun | 137 => 157 | 217 => 214 | 266 => 244 | n => n, fun | 9 => 9 | 5 => 5 | 3 => 3 | n => n, fun | n => n⟩
theorem Tryz.lays137 : Go.Proofs.Lays.n137 Tryz.prog Tryz.lays137_ren := {
  mixed := by kernel_rfl
  f137 := Tryz.func157.trans (congrArg some (by kernel_rfl))
  f217 := Tryz.func214.trans (congrArg some (by kernel_rfl))
  f266 := Tryz.func244.trans (congrArg some (by kernel_rfl))
  t3 := Tryz.underlying3
  a3 := Tryz.isAgg3
  z3 := Tryz.sizeOf3
  v3 := Tryz.zeroValue3
  t5 := Tryz.underlying5
  a5 := Tryz.isAgg5
  z5 := Tryz.sizeOf5
  v5 := Tryz.zeroValue5
  t9 := Tryz.underlying9
  a9 := Tryz.isAgg9
  z9 := Tryz.sizeOf9
  v9 := Tryz.zeroValue9 }
open Go.RowKit in
/-- strings.IndexByte: "IndexByte returns the index of the first instance of c in s, or -1 if c is not present in s.": IT RETURNS 'Lib.indexByte s c'; the world is as it was. (LAID: no walk: one application.) -/
theorem Tryz.strings_IndexByte (s : ByteArray) (c : Int) (w : World) :
    Calls Tryz.prog 157 #[.string s, .int .u8 c] w fun e w' => e = .returned (.int .i64 (Lib.indexByte s.data.toList c.toNat.toUInt8)) ∧ w' = w := Any.strings_IndexByte Tryz.lays137 s c w
end Go.Proofs

namespace Go.Proofs
open Go.Shelf
open Go.Shelf
def Tryz.lays106_ren : Go.Shelf.Ren := ⟨fun | 106 => 86 | 213 => 122 | 265 => 148 | n => n, fun | 9 => 9 | 3 => 3 | n => n, fun | n => n⟩
theorem Tryz.lays106 : Go.Proofs.Lays.n106 Tryz.prog Tryz.lays106_ren := {
  mixed := by kernel_rfl
  f106 := Tryz.func86.trans (congrArg some (by kernel_rfl))
  f213 := Tryz.func122.trans (congrArg some (by kernel_rfl))
  f265 := Tryz.func148.trans (congrArg some (by kernel_rfl))
  t3 := Tryz.underlying3
  a3 := Tryz.isAgg3
  z3 := Tryz.sizeOf3
  v3 := Tryz.zeroValue3
  t9 := Tryz.underlying9
  a9 := Tryz.isAgg9
  z9 := Tryz.sizeOf9
  v9 := Tryz.zeroValue9 }
open Go.RowKit in
theorem Tryz.strings_Compare (a b : ByteArray) (w : World) :
    Calls Tryz.prog 86 #[.string a, .string b] w fun e w' => e = .returned (.int .i64 (Lib.compareBytes a.data.toList b.data.toList)) ∧ w' = w := Any.strings_Compare Tryz.lays106 a b w
end Go.Proofs

namespace Go.Proofs.YthfilnflgahcjaaGreatDoor
open Go.RowKit Go.Shelf
set_option linter.unusedVariables false
/-- The tables of utf8 lie in the world. -/
def Tabs (w : World) : Prop := Lib.Utf8Tabs (Tryz.laysValid_ren.g 3) (Tryz.laysValid_ren.g 4) w
theorem Tabs.below {w w' : World} (h : Tabs w) (hb : Below w.heap.size w w') : Tabs w' :=
  ⟨fun c hc => cell_below hb (Nat.le_refl _) (h.1 c hc), fun i hi => ⟨cell_below hb (Nat.le_refl _) (h.2 i hi).1, cell_below hb (Nat.le_refl _) (h.2 i hi).2⟩⟩
theorem vvalid_any (s : ByteArray) (w : World) (hs : s.size ≤ maxLen) (hT : Tabs w) :
    Calls Tryz.prog 116 #[.string s] w fun e w' => e = .returned (.bool (Lib.validD s.data.toList)) ∧ Below w.heap.size w w' :=
  Any.utf8_ValidString Tryz.laysValid s w (by unfold maxLen at hs; omega) hT
def blankB (b : Bool) (n : Int) (s : ByteArray) (kl ll : Nat) : Bool := !b && (n == 0 && (s.toList.isEmpty && (kl == 0 && ll == 0)))
set_option maxHeartbeats 400000 in
theorem blank_any (k : Int) (b : Bool) (n : Int) (s : ByteArray) (ka : Option Addr) (kl kc : Nat) (la : Option Addr) (ll lc : Nat) (w : World) :
    Calls Tryz.prog 237 #[.agg #[.int .i64 k, .bool b, .int .i64 n, .string s, .slice ka kl kc, .slice la ll lc]] w fun e w' => e = .returned (.bool (blankB b n s kl ll)) ∧ Below w.heap.size w w' := by
  have hB : Below w.heap.size w (w.alloc (.cells #[.int .i64 k, .bool b, .int .i64 n, .string s, .slice ka kl kc, .slice la ll lc] 88)) := (Below.refl _ _).alloc (Nat.le_refl _) _
  unfold blankB
  cases b with
  | true =>
    go_enter Tryz.func237, Tryz.ntmps237
    go_wp2
    go_ret
    exact ⟨rfl, hB⟩
  | false =>
    cases h1 : (n == 0) with
    | false =>
      go_enter Tryz.func237, Tryz.ntmps237
      go_wp2
      go_ret
      exact ⟨rfl, hB⟩
    | true =>
      cases h2 : s.toList.isEmpty with
      | false =>
        go_enter Tryz.func237, Tryz.ntmps237
        go_wp2
        go_ret
        exact ⟨rfl, hB⟩
      | true =>
        by_cases h3 : kl = 0
        · subst h3
          by_cases h4 : ll = 0
          · subst h4
            go_enter Tryz.func237, Tryz.ntmps237
            go_wp2
            go_ret
            exact ⟨rfl, hB⟩
          · have h4' : ((ll : Int) == 0) = false := beq_eq_false_iff_ne.2 (by omega)
            have h4'' : (ll == 0) = false := beq_eq_false_iff_ne.2 h4
            go_enter Tryz.func237, Tryz.ntmps237
            go_wp2
            go_ret
            exact ⟨by simp [h4], hB⟩
        · have h3' : ((kl : Int) == 0) = false := beq_eq_false_iff_ne.2 (by omega)
          have h3'' : (kl == 0) = false := beq_eq_false_iff_ne.2 h3
          go_enter Tryz.func237, Tryz.ntmps237
          go_wp2
          go_ret
          exact ⟨by simp [h3], hB⟩
def risesAt (ks : List ByteArray) (i : Nat) : Bool :=
  Lib.validD (ks.getD i ⟨#[]⟩).data.toList && !(decide (0 < i) && decide (0 ≤ Lib.compareBytes (ks.getD (i - 1) ⟨#[]⟩).data.toList (ks.getD i ⟨#[]⟩).data.toList))
def risingB (ks : List ByteArray) : Bool := (List.range ks.length).all (risesAt ks)
theorem rising_false {ks : List ByteArray} {i : Nat} (h : i < ks.length) (hf : risesAt ks i = false) : risingB ks = false := by
  unfold risingB
  rw [Bool.eq_false_iff]
  intro ha
  rw [List.all_eq_true] at ha
  have := ha i (List.mem_range.2 h)
  rw [hf] at this; cases this
theorem rising_true {ks : List ByteArray} (h : ∀ i, i < ks.length → risesAt ks i = true) : risingB ks = true := by
  unfold risingB
  rw [List.all_eq_true]
  intro i hi
  exact h i (List.mem_range.1 hi)
set_option maxHeartbeats 1000000 in
theorem rising_any (B : Nat) (ka : Option Addr) (kc : Nat) (ks : List ByteArray) (w : World) (hk : KeysLie B w ka ks) (h1 : ks.length ≤ kc) (h2 : kc ≤ maxLen) (hT : Tabs w) :
    Calls Tryz.prog 236 #[.slice ka ks.length kc] w fun e w' => e = .returned (.bool (risingB ks)) ∧ Below w.heap.size w w' := by
  unfold maxLen at h2
  go_enter Tryz.func236, Tryz.ntmps236
  go_wp2_with fail
  go_loopw [7] (fun i wr => ∃ j : Nat, j ≤ ks.length ∧ i = .int .i64 j ∧ Below w.heap.size w wr ∧ ∀ x, x < j → risesAt ks x = true) (fun i _ => ks.length - (intOf i).toNat)
  case atStart => exact ⟨0, Nat.zero_le _, rfl, Below.refl _ _, fun x hx => by omega⟩
  case round =>
    obtain ⟨j, hj, rfl, hb, hup⟩ := hrel
    have HU : Hid (∀ x, x < j → risesAt ks x = true) := hup
    clear hup
    by_cases hlt : j < ks.length
    · obtain ⟨bk, off, rfl, hbk, hkey⟩ := hk.resolve_left (by intro e; subst e; simp at hlt)
      have hc := cell_below hb (Nat.le_refl _) (hkey j hlt).1
      have hsz := (hkey j hlt).2
      have hTr := hT.below hb
      have HAt : Hid (risesAt ks j = (Lib.validD (ks.getD j ⟨#[]⟩).data.toList && !(decide (0 < j) && decide (0 ≤ Lib.compareBytes (ks.getD (j - 1) ⟨#[]⟩).data.toList (ks.getD j ⟨#[]⟩).data.toList)))) := rfl
      have HC : Hid (0 < j → w.cell? ⟨bk, off + (j - 1), none⟩ = some (.string (ks.getD (j - 1) ⟨#[]⟩))) := fun h0 => (hkey (j - 1) (by omega)).1
      generalize ks.getD j ⟨#[]⟩ = kx at *
      generalize ks.getD (j - 1) ⟨#[]⟩ = kp at *
      have cV := vvalid_any kx wr hsz hTr
      clear hkey hsz hTr
      generalize hV : Lib.validD kx.data.toList = V at *
      have HV : Hid (Lib.validD kx.data.toList = V) := hV
      clear hV
      cases V with
      | false =>
        go_wp2_with fail
        refine cV.mono ?_
        rintro e w1 ⟨rfl, hb1⟩
        clear cV
        go_wp2_with fail
        go_ret
        refine ⟨?_, hb.trans (hb1.mono hb.size)⟩
        rw [rising_false hlt (HAt.out.trans (by simp))]; rfl
      | true =>
        by_cases h0 : j = 0
        · have h0' : ¬ (0 : Int) < (j : Int) := by omega
          have H0 : Hid (j = 0) := h0
          clear h0
          go_wp2_with fail
          refine cV.mono ?_
          rintro e w1 ⟨rfl, hb1⟩
          have HB1 : Hid (Below w.heap.size w w1) := hb.trans (hb1.mono hb.size)
          clear cV hb1
          go_wp2_with fail
          go_roundw
          case rel =>
            refine ⟨j + 1, by omega, by go_num, HB1.out, fun x hx => ?_⟩
            obtain rfl : x = j := by have := H0.out; omega
            exact HAt.out.trans (by simp [H0.out])
          case measure => simp [intOf]; omega
        · have h0' : (0 : Int) < (j : Int) := by omega
          have hcp := HC.out (by omega)
          go_wp2_with fail
          refine cV.mono ?_
          rintro e w1 ⟨rfl, hb1⟩
          have HB1 : Hid (Below w.heap.size w w1) := hb.trans (hb1.mono hb.size)
          have hcp1 : w1.cell? ⟨bk, off + (j - 1), none⟩ = some (.string kp) := cell_below HB1.out (Nat.le_refl _) hcp
          clear cV hb1
          go_wp2_with fail
          refine (Tryz.strings_Compare _ _ _).mono ?_
          rintro e w2 ⟨rfl, rfl⟩
          generalize hcmp : Lib.compareBytes kp.data.toList kx.data.toList = cm at *
          have HCm : Hid (Lib.compareBytes kp.data.toList kx.data.toList = cm) := hcmp
          clear hcmp
          by_cases h1 : 0 ≤ cm
          · go_wp2_with fail
            go_ret
            refine ⟨?_, HB1.out⟩
            rw [rising_false hlt (HAt.out.trans (by simp [h1]; omega))]; rfl
          · go_wp2_with fail
            go_roundw
            case rel =>
              refine ⟨j + 1, by omega, by go_num, HB1.out, fun x hx => ?_⟩
              by_cases hxj : x = j
              · subst hxj
                exact HAt.out.trans (by simp; omega)
              · exact HU.out x (by omega)
            case measure => simp [intOf]; omega
    · go_wp2_with fail
      go_ret
      refine ⟨?_, hb⟩
      rw [rising_true fun i hi => HU.out i (by omega)]; rfl
/-- What is asked of a value besides what is in its list. -/
def shapedB : Tree → Bool
  | .mk k b n s ks ts =>
    (if k = 0 then blankB b n s ks.length ts.length
     else if k = 1 then blankB false n s ks.length ts.length
     else if k = 2 then blankB b 0 s ks.length ts.length
     else if k = 6 ∨ k = 7 then blankB b (min n 0) s ks.length ts.length
     else if k = 3 then blankB b n ⟨#[]⟩ ks.length ts.length
     else if k = 5 then (ks.length == ts.length && risingB ks) && blankB b n s 0 0
     else if k = 4 then blankB b n s ks.length 0
     else false) && Lib.validD s.data.toList
theorem two_alloc {w w1 : World} {A A' : Array Value} {v : Value} (hb : Below ((w.alloc (.cells A 88)).alloc (.cells A' 88)).heap.size ((w.alloc (.cells A 88)).alloc (.cells A' 88)) w1) (h3 : A[3]? = some v) : Below w.heap.size w w1 ∧ w1.cell? ⟨w.heap.size, 3, none⟩ = some v := by
  simp only [World.size_alloc] at hb
  refine ⟨(((Below.refl _ w).alloc (Nat.le_refl _) _).alloc (by simp) _).trans (hb.mono (by omega)), (hb.cell (p := ⟨w.heap.size, 3, none⟩) (by show w.heap.size < _; omega)).trans ?_⟩
  have : ((w.alloc (.cells A 88)).alloc (.cells A' 88)).cell? ⟨w.heap.size, 3, none⟩ = (w.alloc (.cells A 88)).cell? ⟨w.heap.size, 3, none⟩ := World.cell?_of_block (Below.heap_alloc _ _ _ (by simp))
  rw [this]
  exact cell_new _ _ _ _ _ h3
set_option maxHeartbeats 1000000 in
theorem shaped_0 (k : Int) (b : Bool) (n : Int) (s : ByteArray) (ka : Option Addr) (kc : Nat) (la : Option Addr) (lc : Nat) (ks : List ByteArray) (ts : List Tree) (w : World) (hs1 : s.size ≤ maxLen) (hT : Tabs w) (hk0 : k = 0) :
    Calls Tryz.prog 198 #[.agg #[.int .i64 k, .bool b, .int .i64 n, .string s, .slice ka ks.length kc, .slice la ts.length lc]] w fun e w' => e = .returned (.bool (shapedB (.mk k b n s ks ts))) ∧ Below w.heap.size w w' := by
  have hsh : shapedB (.mk k b n s ks ts) = (blankB b n s ks.length ts.length && Lib.validD s.data.toList) := by subst hk0; rfl
  have e0 : (k == 0) = true := eq_bool hk0
  clear hk0
  go_enter Tryz.func198, Tryz.ntmps198
  go_wp2_with fail
  refine (blank_any _ _ _ _ _ _ _ _ _ _ _).mono ?_
  rintro e w1 ⟨rfl, hb1⟩
  obtain ⟨hB1, c3⟩ := two_alloc (v := .string s) hb1 rfl
  clear hb1
  have hT1 := hT.below hB1
  cases hbl : blankB b n s ks.length ts.length with
  | false =>
    have HS : Hid (shapedB (.mk k b n s ks ts) = false) := by unfold Hid; rw [hsh, hbl]; rfl
    clear hbl hsh
    go_wp2_with fail
    go_ret
    exact ⟨by rw [HS.out]; rfl, hB1⟩
  | true =>
    have HS : Hid (shapedB (.mk k b n s ks ts) = Lib.validD s.data.toList) := by unfold Hid; rw [hsh, hbl]; rfl
    clear hbl hsh
    go_wp2_with fail
    refine (vvalid_any _ _ hs1 hT1).mono ?_
    rintro e w2 ⟨rfl, hb2⟩
    go_wp2_with fail
    go_ret
    exact ⟨by rw [HS.out]; rfl, hB1.trans (hb2.mono hB1.size)⟩
set_option maxHeartbeats 1000000 in
theorem shaped_1 (k : Int) (b : Bool) (n : Int) (s : ByteArray) (ka : Option Addr) (kc : Nat) (la : Option Addr) (lc : Nat) (ks : List ByteArray) (ts : List Tree) (w : World) (hs1 : s.size ≤ maxLen) (hT : Tabs w) (hk0 : k = 1) :
    Calls Tryz.prog 198 #[.agg #[.int .i64 k, .bool b, .int .i64 n, .string s, .slice ka ks.length kc, .slice la ts.length lc]] w fun e w' => e = .returned (.bool (shapedB (.mk k b n s ks ts))) ∧ Below w.heap.size w w' := by
  have hsh : shapedB (.mk k b n s ks ts) = (blankB false n s ks.length ts.length && Lib.validD s.data.toList) := by subst hk0; rfl
  have e0 : (k == 0) = false := ne_bool (by omega)
  have e1 : (k == 1) = true := eq_bool hk0
  clear hk0
  go_enter Tryz.func198, Tryz.ntmps198
  go_wp2_with fail
  refine (blank_any _ _ _ _ _ _ _ _ _ _ _).mono ?_
  rintro e w1 ⟨rfl, hb1⟩
  obtain ⟨hB1, c3⟩ := two_alloc (v := .string s) hb1 rfl
  clear hb1
  have hT1 := hT.below hB1
  cases hbl : blankB false n s ks.length ts.length with
  | false =>
    have HS : Hid (shapedB (.mk k b n s ks ts) = false) := by unfold Hid; rw [hsh, hbl]; rfl
    clear hbl hsh
    go_wp2_with fail
    go_ret
    exact ⟨by rw [HS.out]; rfl, hB1⟩
  | true =>
    have HS : Hid (shapedB (.mk k b n s ks ts) = Lib.validD s.data.toList) := by unfold Hid; rw [hsh, hbl]; rfl
    clear hbl hsh
    go_wp2_with fail
    refine (vvalid_any _ _ hs1 hT1).mono ?_
    rintro e w2 ⟨rfl, hb2⟩
    go_wp2_with fail
    go_ret
    exact ⟨by rw [HS.out]; rfl, hB1.trans (hb2.mono hB1.size)⟩
set_option maxHeartbeats 1000000 in
theorem shaped_2 (k : Int) (b : Bool) (n : Int) (s : ByteArray) (ka : Option Addr) (kc : Nat) (la : Option Addr) (lc : Nat) (ks : List ByteArray) (ts : List Tree) (w : World) (hs1 : s.size ≤ maxLen) (hT : Tabs w) (hk0 : k = 2) :
    Calls Tryz.prog 198 #[.agg #[.int .i64 k, .bool b, .int .i64 n, .string s, .slice ka ks.length kc, .slice la ts.length lc]] w fun e w' => e = .returned (.bool (shapedB (.mk k b n s ks ts))) ∧ Below w.heap.size w w' := by
  have hsh : shapedB (.mk k b n s ks ts) = (blankB b 0 s ks.length ts.length && Lib.validD s.data.toList) := by subst hk0; rfl
  have e0 : (k == 0) = false := ne_bool (by omega)
  have e1 : (k == 1) = false := ne_bool (by omega)
  have e2 : (k == 2) = true := eq_bool hk0
  clear hk0
  go_enter Tryz.func198, Tryz.ntmps198
  go_wp2_with fail
  refine (blank_any _ _ _ _ _ _ _ _ _ _ _).mono ?_
  rintro e w1 ⟨rfl, hb1⟩
  obtain ⟨hB1, c3⟩ := two_alloc (v := .string s) hb1 rfl
  clear hb1
  have hT1 := hT.below hB1
  cases hbl : blankB b 0 s ks.length ts.length with
  | false =>
    have HS : Hid (shapedB (.mk k b n s ks ts) = false) := by unfold Hid; rw [hsh, hbl]; rfl
    clear hbl hsh
    go_wp2_with fail
    go_ret
    exact ⟨by rw [HS.out]; rfl, hB1⟩
  | true =>
    have HS : Hid (shapedB (.mk k b n s ks ts) = Lib.validD s.data.toList) := by unfold Hid; rw [hsh, hbl]; rfl
    clear hbl hsh
    go_wp2_with fail
    refine (vvalid_any _ _ hs1 hT1).mono ?_
    rintro e w2 ⟨rfl, hb2⟩
    go_wp2_with fail
    go_ret
    exact ⟨by rw [HS.out]; rfl, hB1.trans (hb2.mono hB1.size)⟩
set_option maxHeartbeats 1000000 in
theorem shaped_6 (k : Int) (b : Bool) (n : Int) (s : ByteArray) (ka : Option Addr) (kc : Nat) (la : Option Addr) (lc : Nat) (ks : List ByteArray) (ts : List Tree) (w : World) (hs1 : s.size ≤ maxLen) (hT : Tabs w) (hk0 : k = 6) :
    Calls Tryz.prog 198 #[.agg #[.int .i64 k, .bool b, .int .i64 n, .string s, .slice ka ks.length kc, .slice la ts.length lc]] w fun e w' => e = .returned (.bool (shapedB (.mk k b n s ks ts))) ∧ Below w.heap.size w w' := by
  have hsh : shapedB (.mk k b n s ks ts) = (blankB b (min n 0) s ks.length ts.length && Lib.validD s.data.toList) := by subst hk0; rfl
  have e0 : (k == 0) = false := ne_bool (by omega)
  have e1 : (k == 1) = false := ne_bool (by omega)
  have e2 : (k == 2) = false := ne_bool (by omega)
  have e6 : (k == 6) = true := eq_bool hk0
  have hmin : True := trivial
  clear hk0
  go_enter Tryz.func198, Tryz.ntmps198
  go_wp2_with fail
  refine (blank_any _ _ _ _ _ _ _ _ _ _ _).mono ?_
  rintro e w1 ⟨rfl, hb1⟩
  obtain ⟨hB1, c3⟩ := two_alloc (v := .string s) hb1 rfl
  clear hb1
  have hT1 := hT.below hB1
  cases hbl : blankB b (min n 0) s ks.length ts.length with
  | false =>
    have HS : Hid (shapedB (.mk k b n s ks ts) = false) := by unfold Hid; rw [hsh, hbl]; rfl
    clear hbl hsh
    go_wp2_with fail
    go_ret
    exact ⟨by rw [HS.out]; rfl, hB1⟩
  | true =>
    have HS : Hid (shapedB (.mk k b n s ks ts) = Lib.validD s.data.toList) := by unfold Hid; rw [hsh, hbl]; rfl
    clear hbl hsh
    go_wp2_with fail
    refine (vvalid_any _ _ hs1 hT1).mono ?_
    rintro e w2 ⟨rfl, hb2⟩
    go_wp2_with fail
    go_ret
    exact ⟨by rw [HS.out]; rfl, hB1.trans (hb2.mono hB1.size)⟩
set_option maxHeartbeats 1000000 in
theorem shaped_7 (k : Int) (b : Bool) (n : Int) (s : ByteArray) (ka : Option Addr) (kc : Nat) (la : Option Addr) (lc : Nat) (ks : List ByteArray) (ts : List Tree) (w : World) (hs1 : s.size ≤ maxLen) (hT : Tabs w) (hk0 : k = 7) :
    Calls Tryz.prog 198 #[.agg #[.int .i64 k, .bool b, .int .i64 n, .string s, .slice ka ks.length kc, .slice la ts.length lc]] w fun e w' => e = .returned (.bool (shapedB (.mk k b n s ks ts))) ∧ Below w.heap.size w w' := by
  have hsh : shapedB (.mk k b n s ks ts) = (blankB b (min n 0) s ks.length ts.length && Lib.validD s.data.toList) := by subst hk0; rfl
  have e0 : (k == 0) = false := ne_bool (by omega)
  have e1 : (k == 1) = false := ne_bool (by omega)
  have e2 : (k == 2) = false := ne_bool (by omega)
  have e6 : (k == 6) = false := ne_bool (by omega)
  have e7 : (k == 7) = true := eq_bool hk0
  have hmin : True := trivial
  clear hk0
  go_enter Tryz.func198, Tryz.ntmps198
  go_wp2_with fail
  refine (blank_any _ _ _ _ _ _ _ _ _ _ _).mono ?_
  rintro e w1 ⟨rfl, hb1⟩
  obtain ⟨hB1, c3⟩ := two_alloc (v := .string s) hb1 rfl
  clear hb1
  have hT1 := hT.below hB1
  cases hbl : blankB b (min n 0) s ks.length ts.length with
  | false =>
    have HS : Hid (shapedB (.mk k b n s ks ts) = false) := by unfold Hid; rw [hsh, hbl]; rfl
    clear hbl hsh
    go_wp2_with fail
    go_ret
    exact ⟨by rw [HS.out]; rfl, hB1⟩
  | true =>
    have HS : Hid (shapedB (.mk k b n s ks ts) = Lib.validD s.data.toList) := by unfold Hid; rw [hsh, hbl]; rfl
    clear hbl hsh
    go_wp2_with fail
    refine (vvalid_any _ _ hs1 hT1).mono ?_
    rintro e w2 ⟨rfl, hb2⟩
    go_wp2_with fail
    go_ret
    exact ⟨by rw [HS.out]; rfl, hB1.trans (hb2.mono hB1.size)⟩
set_option maxHeartbeats 1000000 in
theorem shaped_3 (k : Int) (b : Bool) (n : Int) (s : ByteArray) (ka : Option Addr) (kc : Nat) (la : Option Addr) (lc : Nat) (ks : List ByteArray) (ts : List Tree) (w : World) (hs1 : s.size ≤ maxLen) (hT : Tabs w) (hk0 : k = 3) :
    Calls Tryz.prog 198 #[.agg #[.int .i64 k, .bool b, .int .i64 n, .string s, .slice ka ks.length kc, .slice la ts.length lc]] w fun e w' => e = .returned (.bool (shapedB (.mk k b n s ks ts))) ∧ Below w.heap.size w w' := by
  have hsh : shapedB (.mk k b n s ks ts) = (blankB b n ⟨#[]⟩ ks.length ts.length && Lib.validD s.data.toList) := by subst hk0; rfl
  have e0 : (k == 0) = false := ne_bool (by omega)
  have e1 : (k == 1) = false := ne_bool (by omega)
  have e2 : (k == 2) = false := ne_bool (by omega)
  have e6 : (k == 6) = false := ne_bool (by omega)
  have e7 : (k == 7) = false := ne_bool (by omega)
  have e3 : (k == 3) = true := eq_bool hk0
  clear hk0
  go_enter Tryz.func198, Tryz.ntmps198
  go_wp2_with fail
  refine (blank_any _ _ _ _ _ _ _ _ _ _ _).mono ?_
  rintro e w1 ⟨rfl, hb1⟩
  obtain ⟨hB1, c3⟩ := two_alloc (v := .string s) hb1 rfl
  clear hb1
  have hT1 := hT.below hB1
  cases hbl : blankB b n ⟨#[]⟩ ks.length ts.length with
  | false =>
    have HS : Hid (shapedB (.mk k b n s ks ts) = false) := by unfold Hid; rw [hsh, hbl]; rfl
    clear hbl hsh
    go_wp2_with fail
    go_ret
    exact ⟨by rw [HS.out]; rfl, hB1⟩
  | true =>
    have HS : Hid (shapedB (.mk k b n s ks ts) = Lib.validD s.data.toList) := by unfold Hid; rw [hsh, hbl]; rfl
    clear hbl hsh
    go_wp2_with fail
    refine (vvalid_any _ _ hs1 hT1).mono ?_
    rintro e w2 ⟨rfl, hb2⟩
    go_wp2_with fail
    go_ret
    exact ⟨by rw [HS.out]; rfl, hB1.trans (hb2.mono hB1.size)⟩
set_option maxHeartbeats 1000000 in
theorem shaped_4 (k : Int) (b : Bool) (n : Int) (s : ByteArray) (ka : Option Addr) (kc : Nat) (la : Option Addr) (lc : Nat) (ks : List ByteArray) (ts : List Tree) (w : World) (hs1 : s.size ≤ maxLen) (hT : Tabs w) (hk0 : k = 4) :
    Calls Tryz.prog 198 #[.agg #[.int .i64 k, .bool b, .int .i64 n, .string s, .slice ka ks.length kc, .slice la ts.length lc]] w fun e w' => e = .returned (.bool (shapedB (.mk k b n s ks ts))) ∧ Below w.heap.size w w' := by
  have hsh : shapedB (.mk k b n s ks ts) = (blankB b n s ks.length 0 && Lib.validD s.data.toList) := by subst hk0; rfl
  have e0 : (k == 0) = false := ne_bool (by omega)
  have e1 : (k == 1) = false := ne_bool (by omega)
  have e2 : (k == 2) = false := ne_bool (by omega)
  have e6 : (k == 6) = false := ne_bool (by omega)
  have e7 : (k == 7) = false := ne_bool (by omega)
  have e3 : (k == 3) = false := ne_bool (by omega)
  have e5 : (k == 5) = false := ne_bool (by omega)
  have e4 : (k == 4) = true := eq_bool hk0
  clear hk0
  go_enter Tryz.func198, Tryz.ntmps198
  go_wp2_with fail
  refine (blank_any _ _ _ _ _ _ _ _ _ _ _).mono ?_
  rintro e w1 ⟨rfl, hb1⟩
  obtain ⟨hB1, c3⟩ := two_alloc (v := .string s) hb1 rfl
  clear hb1
  have hT1 := hT.below hB1
  cases hbl : blankB b n s ks.length 0 with
  | false =>
    have HS : Hid (shapedB (.mk k b n s ks ts) = false) := by unfold Hid; rw [hsh, hbl]; rfl
    clear hbl hsh
    go_wp2_with fail
    go_ret
    exact ⟨by rw [HS.out]; rfl, hB1⟩
  | true =>
    have HS : Hid (shapedB (.mk k b n s ks ts) = Lib.validD s.data.toList) := by unfold Hid; rw [hsh, hbl]; rfl
    clear hbl hsh
    go_wp2_with fail
    refine (vvalid_any _ _ hs1 hT1).mono ?_
    rintro e w2 ⟨rfl, hb2⟩
    go_wp2_with fail
    go_ret
    exact ⟨by rw [HS.out]; rfl, hB1.trans (hb2.mono hB1.size)⟩
end Go.Proofs.YthfilnflgahcjaaGreatDoor

