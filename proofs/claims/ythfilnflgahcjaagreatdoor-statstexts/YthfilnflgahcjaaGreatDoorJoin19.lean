/- A value is weighed: too great a one gives up. The shelf's contracts at this dump: comparing texts, copying lists of texts. -/
import Derived.Test.YthfilnflgahcjaaGreatDoorJoin18
import Derived.Shelf.Small.Strs
import Derived.Ground.NamesProg
import Derived.Ground.Names2Prog
import Derived.Shelf.Slices.Clone
import Derived.Test.YthfilnflgahcjaaGreatDoorProg
namespace Go.Proofs.YthfilnflgahcjaaGreatDoor
open Go.RowKit Go.Shelf
set_option linter.unusedVariables false
attribute [local go_sem] Oper.semAt_some
def keyBytes (ks : List ByteArray) : Int := (ks.map fun k => (k.size : Int)).sum
/-- The bytes of a value's own text and keys. -/
def Tree.bytes (t : Tree) : Int := t.text.size + keyBytes t.keys
/-- Is a value in a row of values too great, with so many bytes ahead? -/
def heavy : Int → List (Int × Tree) → Bool
  | _, [] => false
  | a, (d, t) :: r => decide (64 < d ∨ 65536 < t.kids.length ∨ 1048576 < a + t.bytes) || heavy (a + t.bytes) r
def bytesOf (l : List (Int × Tree)) : Int := (l.map fun x => x.2.bytes).sum
theorem heavy_snoc (l : List (Int × Tree)) : ∀ (a d : Int) (t : Tree), heavy a (l ++ [(d, t)]) = (heavy a l || decide (64 < d ∨ 65536 < t.kids.length ∨ 1048576 < a + bytesOf l + t.bytes)) := by
  induction l with
  | nil => intro a d t; simp [heavy, bytesOf]
  | cons x r ih =>
    intro a d t
    obtain ⟨e, u⟩ := x
    simp only [List.cons_append, heavy, ih, bytesOf, List.map_cons, List.sum_cons, Bool.or_assoc]
    congr 2
    rw [show a + (u.bytes + (r.map fun x => x.2.bytes).sum) + t.bytes = a + u.bytes + (r.map fun x => x.2.bytes).sum + t.bytes from by omega]
    rfl
theorem heavy_prefix {p l : List (Int × Tree)} (h : p <+: l) : ∀ a, heavy a p = true → heavy a l = true := by
  obtain ⟨r, rfl⟩ := h
  induction p with
  | nil => intro a h; simp [heavy] at h
  | cons x p ih =>
    intro a h
    obtain ⟨d, t⟩ := x
    simp only [List.cons_append, heavy, Bool.or_eq_true] at h ⊢
    exact h.imp id (ih _)
theorem keyBytes_nonneg (ks : List ByteArray) : 0 ≤ keyBytes ks := by
  induction ks with
  | nil => simp [keyBytes]
  | cons k r ih => simp only [keyBytes, List.map_cons, List.sum_cons] at ih ⊢; omega
theorem bytes_nonneg (t : Tree) : 0 ≤ t.bytes := by have := keyBytes_nonneg t.keys; unfold Tree.bytes; omega
theorem bytesOf_append (a b : List (Int × Tree)) : bytesOf (a ++ b) = bytesOf a + bytesOf b := by simp [bytesOf]
theorem bytesOf_one (d : Int) (k : Int) (b : Bool) (n : Int) (s : ByteArray) (ks : List ByteArray) (ts : List Tree) : bytesOf [(d, .mk k b n s ks ts)] = s.size + keyBytes ks := by simp [bytesOf, Tree.bytes, Tree.text, Tree.keys]
theorem bytesOf_nonneg (l : List (Int × Tree)) : 0 ≤ bytesOf l := by
  induction l with
  | nil => simp [bytesOf]
  | cons x r ih => have := bytes_nonneg x.2; simp only [bytesOf, List.map_cons, List.sum_cons] at ih ⊢; omega
theorem bytesOf_prefix {p l : List (Int × Tree)} (h : p <+: l) : bytesOf p ≤ bytesOf l := by
  obtain ⟨r, rfl⟩ := h
  have := bytesOf_nonneg r
  rw [bytesOf_append]; omega
theorem keyBytes_take (ks : List ByteArray) (j : Nat) (h : j < ks.length) : keyBytes (ks.take (j + 1)) = keyBytes (ks.take j) + (ks.getD j ⟨#[]⟩).size := by
  rw [List.take_add_one, List.getD_eq_getElem?_getD, List.getElem?_eq_getElem h]; simp only [keyBytes, Option.toList_some, List.map_append, List.sum_append, List.map_cons, List.map_nil, List.sum_cons, List.sum_nil, Option.getD_some]; omega
theorem keyBytes_le (ks : List ByteArray) (j : Nat) : keyBytes (ks.take j) ≤ keyBytes ks := by
  have h : keyBytes ks = keyBytes (ks.take j) + keyBytes (ks.drop j) := by
    have := congrArg keyBytes (List.take_append_drop j ks)
    rw [← this]; simp [keyBytes, -List.take_append_drop]
  have := keyBytes_nonneg (ks.drop j); omega
set_option maxRecDepth 100000 in
set_option maxHeartbeats 1000000 in
theorem weigh_any {F : Fence} (hd : F.depth = none) (hro : F.round = none) (h48 : F.fn 200) (h45 : F.fn 197) (h57 : F.fn 234) (h58 : F.fn 235) (hex : ∀ f, F.fn f → ∃ fn, Tryz.prog.funcs[f]? = some fn) (m : Nat) (v : Value) (T : Tree) (w : World)
    (hv : Lies w.heap.size w v T) (hh : T.height < 100000000) (hb : bytesOf (T.pre 1) < 4611686018427387904) :
    CallsIn F m Tryz.prog 200 #[v] w fun e w' => Below w.heap.size w w' ∧ ((heavy 0 (T.pre 1) = false ∧ ∃ x, e = .returned x) ∨ (heavy 0 (T.pre 1) = true ∧ e = .panicked [{ v := .iface 34 (.int .i64 3), recovered := false }])) := by
  obtain ⟨k, b, n, s, ks, ts⟩ := T
  have hv0 := hv
  simp only [Lies] at hv
  obtain ⟨ka, kc, la, lc, rfl, ⟨hs1, hs2, hs3, hs4, hs5⟩, hk, ht⟩ := hv
  refine callsIn_of_wp_marks Tryz.func200 rfl h48 ?_ hro
  simp only [Tryz.ntmps200, List.size_toArray, List.length_cons, List.length_nil, Nat.reduceAdd, Nat.reduceSub, Array.replicate_succ, Array.replicate_zero, List.push_toArray, List.append_toArray, List.nil_append, List.cons_append]
  gi_wp2_with (gi_at_call 197; refine (within_any h45 hro _ _ _ _ _ _ _ _ _ _ _ _).mono ?_; rintro e w' ⟨rfl, rfl⟩)
  refine range_wp hro hd (gf := 234) (lb := #[.pointer (some ⟨w.heap.size + 1 + 1, 0, none⟩)]) rfl h57 (enters_of Tryz.func234 (by kernel_rfl) rfl) ?_
  intro fn hfn
  generalize hrec : Loop.mk _ _ _ _ _ _ _ _ = rec
  simp only [World.size_alloc]
  generalize hW0 : World.alloc _ (Obj.loop rec) = W0
  have hsz : W0.heap.size = w.heap.size + 5 := by rw [← hW0]; simp
  have b1 : W0.heap[w.heap.size + 1]? = some (.cells #[.int .i64 0] 3 (0, 0)) := by rw [← hW0]; simp only [heap_alloc_at, World.size_alloc]; repeat (first | rw [if_pos trivial] | rw [if_pos (by omega)] | rw [if_neg (by omega)])
  have b2 : W0.heap[w.heap.size + 2]? = some (.cells #[.int .i64 k, .bool b, .int .i64 n, .string s, .slice ka ks.length kc, .slice la ts.length lc] 88 (0, 0)) := by rw [← hW0]; simp only [heap_alloc_at, World.size_alloc]; repeat (first | rw [if_pos trivial] | rw [if_pos (by omega)] | rw [if_neg (by omega)])
  have b3 : W0.heap[w.heap.size + 3]? = some (.deferred (some [])) := by rw [← hW0]; simp only [heap_alloc_at, World.size_alloc]; repeat (first | rw [if_pos trivial] | rw [if_pos (by omega)] | rw [if_neg (by omega)])
  have b4 : W0.heap[w.heap.size + 4]? = some (.loop rec) := by rw [← hW0]; simp only [heap_alloc_at, World.size_alloc]; repeat (first | rw [if_pos trivial] | rw [if_pos (by omega)] | rw [if_neg (by omega)])
  have hbl : Below w.heap.size w W0 := by
    rw [← hW0]; exact (((((Below.refl _ w).alloc (Nat.le_refl _) _).alloc (by simp) _).alloc (by simp; omega) _).alloc (by simp; omega) _).alloc (by simp; omega) _
  clear hW0
  have R : Rounds F (w.heap.size + 4) w.heap.size (w.heap.size + 5) w ((Tree.mk k b n s ks ts).pre 1)
      (fun pre W => W.heap[w.heap.size + 4]? = some (.loop rec) ∧ W.heap[w.heap.size + 3]? = some (.deferred (some [])) ∧ W.heap[w.heap.size + 1]? = some (.cells #[.int .i64 (bytesOf pre)] 3 (0, 0)) ∧
        Below w.heap.size w W ∧ w.heap.size + 5 ≤ W.heap.size ∧ heavy 0 pre = false)
      (fun _ => False)
      (fun ch W => ch = [{ v := .iface 34 (.int .i64 3), recovered := false }] ∧ W.heap[w.heap.size + 3]? = some (.deferred (some [])) ∧ Below w.heap.size w W ∧ heavy 0 ((Tree.mk k b n s ks ts).pre 1) = true) := by
    refine ⟨?_, ?_, ?_⟩
    · rintro pre W ⟨_, _, _, h4, h5, _⟩
      exact ⟨h4, by omega, h5⟩
    · rintro pre W W' ⟨h1, h2, h3, h4, h5, h6⟩ hb
      exact ⟨(hb.block _ (by omega)).trans h1, (hb.block _ (by omega)).trans h2, (hb.block _ (by omega)).trans h3, h4.trans (hb.mono (by omega)), by have := hb.size; omega, h6⟩
    · rintro m' pre d ⟨k', b', n', s', ks', us⟩ v W ⟨h1, h2, h3, h4, h5, h6⟩ hlv hpre
      simp only [Lies] at hlv
      obtain ⟨ka', kc', la', lc', rfl, ⟨g1, g2, g3, g4, g5⟩, hk', ht'⟩ := hlv
      have ea := congrArg Loop.assign hrec
      have eb := congrArg Loop.body hrec
      have et := congrArg Loop.tmps hrec
      have ep := congrArg Loop.params hrec
      have es := congrArg Loop.state hrec
      have ef := congrArg Loop.fn hrec
      have hr0 : asReady rec = rec := by rw [← hrec]; rfl
      dsimp only at ea eb et ep es ef
      clear hrec
      refine yield_round (by rw [← ef]; exact hfn) ea eb et ep h1 es.symm (by rw [← ep]; rfl) ?_
      clear ea eb et ep es
      gi_wp2_with fail
      refine ⟨(Below.heap_alloc _ _ _ (by omega)).trans h1, ?_⟩
      unfold maxLen at g1 g3 g5
      generalize hW2 : World.putObj _ _ _ = W2
      have a1 : W2.heap[w.heap.size + 4]? = some (.loop (asBusy rec)) := by rw [← hW2]; refine World.putObj_heap_same ?_; simp; omega
      have a2 : Boxed W2 (w.heap.size + 1) 3 (.int .i64 (bytesOf pre)) := by rw [← hW2]; show _ = _; rw [World.putObj_heap_other (by omega), Below.heap_alloc _ _ _ (by omega)]; exact h3
      have a3 : W2.heap[w.heap.size + 3]? = some (.deferred (some [])) := by rw [← hW2, World.putObj_heap_other (by omega), Below.heap_alloc _ _ _ (by omega)]; exact h2
      have a4 : W2.heap[W.heap.size]? = some (.cells #[.int .i64 k', .bool b', .int .i64 n', .string s', .slice ka' ks'.length kc', .slice la' us.length lc'] 88 (0, 0)) := by
        rw [← hW2]; exact (World.putObj_heap_other (by omega)).trans (World.alloc_heap_new _ _)
      have a5 : Below w.heap.size w W2 := by rw [← hW2]; exact (But.putObj _ _).below ((h4.alloc (by omega) _)) (by omega)
      have a6 : W2.heap.size = W.heap.size + 1 := by rw [← hW2]; simp
      have a7 : Above (w.heap.size + 5) W W2 := ⟨by omega, fun i hi hl => by rw [← hW2]; exact (World.putObj_heap_other (by omega)).trans (Below.heap_alloc _ _ _ hl)⟩
      clear hW2 h1 h2 h3
      have cb := a2.cell
      have fb := a2.frozen
      have x3 : W2.cell? ⟨W.heap.size, 3, none⟩ = some (.string s') := by unfold World.cell?; simp only [a4]; rfl
      have x4 : W2.cell? ⟨W.heap.size, 4, none⟩ = some (.slice ka' ks'.length kc') := by unfold World.cell?; simp only [a4]; rfl
      have hne : ¬ (W.heap.size = w.heap.size + 1) := by omega
      have hnb := bytesOf_nonneg pre
      have hbb := bytesOf_prefix hpre
      rw [bytesOf_append, bytesOf_one] at hbb
      have hkb := keyBytes_nonneg ks'
      gi_wp2_with fail
      gi_loopw [19] (fun i wr => ∃ j : Nat, j ≤ ks'.length ∧ i = .int .i64 j ∧ But (w.heap.size + 1) W2 wr ∧ Boxed wr (w.heap.size + 1) 3 (.int .i64 (bytesOf pre + s'.size + keyBytes (ks'.take j)))) (fun i _ => ks'.length - (intOf i).toNat)
      case atStart => exact ⟨0, Nat.zero_le _, rfl, (But.refl _ _).setCell (p := ⟨w.heap.size + 1, 0, none⟩) rfl _, by simpa [keyBytes] using a2.set _⟩
      case round =>
        obtain ⟨j, hj, rfl, hbut, hbx⟩ := hrel
        have kj := keyBytes_nonneg (ks'.take j)
        have kl := keyBytes_le ks' j
        have cb' := hbx.cell
        have fb' := hbx.frozen
        clear cb fb x3 x4
        by_cases hlt : j < ks'.length
        · obtain ⟨bk, off, rfl, hbk, hkey⟩ := hk'.resolve_left (by intro e; subst e; simp at hlt)
          have hc := hkey j hlt
          have hck : wr.cell? ⟨bk, off + j, none⟩ = some (.string (ks'.getD j ⟨#[]⟩)) := ((hbut.cell (p := ⟨bk, off + j, none⟩) (by show bk ≠ _; omega)).trans (a5.cell (p := ⟨bk, off + j, none⟩) hbk)).trans hc.1
          have HS : Hid (keyBytes (ks'.take (j + 1)) = keyBytes (ks'.take j) + (ks'.getD j ⟨#[]⟩).size) := keyBytes_take ks' j hlt
          have kl2 := keyBytes_le ks' (j + 1)
          rw [HS.out] at kl2
          have hsz := hc.2
          unfold maxLen at hsz
          generalize ks'.getD j ⟨#[]⟩ = kx at *
          clear hkey hc
          gi_wp2_with fail
          go_roundw
          case rel => exact ⟨j + 1, by omega, by go_num, hbut.setCell (p := ⟨w.heap.size + 1, 0, none⟩) rfl _, by rw [HS.out, ← Int.add_assoc]; exact hbx.set _⟩
          case measure => simp [intOf]; omega
        · rw [List.take_of_length_le (by omega)] at hbx kj kl cb'
          have x5 : wr.cell? ⟨W.heap.size, 5, none⟩ = some (.slice la' us.length lc') := (hbut.cell (p := ⟨W.heap.size, 5, none⟩) (by show W.heap.size ≠ _; omega)).trans (by unfold World.cell?; simp only [a4]; rfl)
          have HH : Hid (heavy 0 (pre ++ [(d, .mk k' b' n' s' ks' us)]) = decide (64 < d ∨ 65536 < us.length ∨ 1048576 < bytesOf pre + s'.size + keyBytes ks')) := by
            show _ = _
            rw [heavy_snoc, h6]; simp [Tree.kids, Tree.bytes, Tree.text, Tree.keys, Int.add_assoc]
          have HB : Hid (bytesOf (pre ++ [(d, .mk k' b' n' s' ks' us)]) = bytesOf pre + s'.size + keyBytes ks') := by show _ = _; rw [bytesOf_append, bytesOf_one]; omega
          have HW : Hid (wr.heap[w.heap.size + 4]? = some (.loop (asBusy rec))) := (hbut.block _ (by omega)).trans a1
          have HD : Hid (wr.heap[w.heap.size + 3]? = some (.deferred (some []))) := (hbut.block _ (by omega)).trans a3
          have HBel : Below w.heap.size w wr := hbut.below a5 (by omega)
          have hs2 := hbut.size
          clear h6 a1 a2 a3 a4
          have HX : Hid (∃ fn, Tryz.prog.funcs[rec.fn]? = some fn) := hex _ (by rw [← ef]; exact hfn)
          by_cases q1 : 64 < d
          · gi_wp2_with fail
            have HP := heavy_prefix hpre 0 (HH.out.trans (by simp [q1]))
            first | exact ⟨rfl, HX.out, .inr (.inr ⟨_, rfl, rfl, HD.out, HBel, HP⟩)⟩ | exact ⟨rfl, HX.out, .inr ⟨_, rfl, rfl, HD.out, HBel, HP⟩⟩
          · by_cases q2 : 65536 < us.length
            · have q2' : (65536 : Int) < us.length := by omega
              gi_wp2_with fail
              have HP := heavy_prefix hpre 0 (HH.out.trans (by simp [q2]))
              first | exact ⟨rfl, HX.out, .inr (.inr ⟨_, rfl, rfl, HD.out, HBel, HP⟩)⟩ | exact ⟨rfl, HX.out, .inr ⟨_, rfl, rfl, HD.out, HBel, HP⟩⟩
            · have q2' : ¬ (65536 : Int) < us.length := by omega
              by_cases q3 : 1048576 < bytesOf pre + s'.size + keyBytes ks'
              · gi_wp2_with fail
                have HP := heavy_prefix hpre 0 (HH.out.trans (by simp [q3]))
                first | exact ⟨rfl, HX.out, .inr (.inr ⟨_, rfl, rfl, HD.out, HBel, HP⟩)⟩ | exact ⟨rfl, HX.out, .inr ⟨_, rfl, rfl, HD.out, HBel, HP⟩⟩
              · gi_wp2_with fail
                have hlt4 : w.heap.size + 4 < wr.heap.size := by omega
                refine ⟨HW.out, .inl ⟨rfl, ⟨?_, ?_, ?_, ?_, ?_, ?_⟩, ?_⟩⟩
                · rw [hr0]; exact World.putObj_heap_same hlt4
                · rw [World.putObj_heap_other (by omega)]; exact HD.out
                · rw [World.putObj_heap_other (by omega), HB.out]; exact hbx
                · exact (But.putObj _ _).below HBel (by omega)
                · rw [World.putObj_size]; omega
                · exact HH.out.trans (by simp [q1, q2, q3])
                · refine a7.trans ⟨by rw [World.putObj_size]; omega, fun i hi hl => ?_⟩
                  rw [World.putObj_heap_other (by omega)]; exact hbut.block i (by omega)
  refine (within1_any hd h57 h58 hro R (m - 1) (w.heap.size + 1 + 1) W0 hv0 ⟨b4, b3, b1, hbl, by omega, rfl⟩ (by simp only [Tree.height] at hh; omega)
    (by unfold World.cell?; simp only [b2]; rfl) (by unfold World.cell?; simp only [b2]; rfl) (by unfold World.cell?; simp only [b2]; rfl) (by unfold World.cell?; simp only [b2]; rfl) (by unfold World.cell?; simp only [b2]; rfl) (by unfold World.cell?; simp only [b2]; rfl)).mono ?_
  rintro e W' (⟨⟨x, rfl⟩, ⟨h1, h2, h3, h4, h5, h6⟩ | hx⟩ | ⟨ch, rfl, rfl, h2, h4, h6⟩)
  · have hp : rec.pending = none := by rw [← hrec]
    have hst : rec.state ≠ .busy := by rw [← hrec]; simp
    clear hrec
    refine ⟨rec, h1, hst, ?_⟩
    simp only [hp]
    show LeavesInM _ _ _ _ _ _ [_] _ _
    refine ⟨by simp, .inl ⟨_, _, rfl, run_takeDeferred ((World.putObj_heap_other (by omega)).trans h2), ?_⟩⟩
    refine ⟨_, by simp [results, Tryz.results200, go_sem]; rfl, ?_⟩
    exact ⟨(But.putObj _ _).below ((But.putObj _ _).below h4 (by omega)) (by omega), .inl ⟨h6, _, rfl⟩⟩
  · exact hx.elim
  · show LeavesInM _ _ _ _ _ _ [_] _ _
    refine ⟨by simp, .inl ⟨_, _, rfl, run_takeDeferred h2, ?_⟩⟩
    exact ⟨(But.putObj _ _).below h4 (by omega), .inr ⟨h6, rfl⟩⟩
end Go.Proofs.YthfilnflgahcjaaGreatDoor

namespace Go.Proofs
open Go.Shelf
open Go.Shelf
def Tryz.lays106_ren : Go.Shelf.Ren := ⟨fun | 106 => 86 | 213 => 122 | 265 => 148 | n => n, fun | 9 => 9 | 3 => 3 | n => n, fun | n => n⟩
theorem Tryz.lays106 : Go.Proofs.Lays.n106 Tryz.prog Tryz.lays106_ren := {
  mixed := by kernel_rfl
  f106 := Tryz.func86.trans (congrArg some (by kernel_rfl))
  f213 := Tryz.func122.trans (congrArg some (by kernel_rfl))
  f265 := Tryz.func148.trans (congrArg some (by kernel_rfl))
  t3 := Tryz.underlying3
  a3 := Tryz.isAgg3
  z3 := Tryz.sizeOf3
  v3 := Tryz.zeroValue3
  t9 := Tryz.underlying9
  a9 := Tryz.isAgg9
  z9 := Tryz.sizeOf9
  v9 := Tryz.zeroValue9 }
open Go.RowKit in
theorem Tryz.strings_Compare (a b : ByteArray) (w : World) :
    Calls Tryz.prog 86 #[.string a, .string b] w fun e w' => e = .returned (.int .i64 (Lib.compareBytes a.data.toList b.data.toList)) ∧ w' = w := Any.strings_Compare Tryz.lays106 a b w
end Go.Proofs

