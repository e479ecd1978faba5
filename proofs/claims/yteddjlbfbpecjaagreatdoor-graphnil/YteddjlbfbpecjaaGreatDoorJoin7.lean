/- A graph that is not there: its nodes, gone over. A graph that is not there: its labelled nodes. -/
import Derived.Test.YteddjlbfbpecjaaGreatDoorJoin6
import Derived.Deep.Cut
namespace Go.Proofs.YteddjlbfbpecjaaGreatDoor
open Go.RowKit Go.Shelf
set_option linter.unusedVariables false
set_option linter.unusedSimpArgs false
attribute [local go_sem] Oper.semAt_some
set_option maxRecDepth 100000 in
theorem setProp_no (p a b : Value) (ka la : Option Addr) (kn kc ln lc : Nat) (vk vn : Int) (vb : Bool) (s vs : ByteArray) (w : World) (h : NoG w p) : Calls Tryz.prog 72 #[p, a, b, .string s, .agg #[.int .i64 vk, .bool vb, .int .i64 vn, .string vs, .slice ka kn kc, .slice la ln lc]] w fun e w' => e = .returned (.int .i64 1) ∧ Below w.heap.size w w' := by
  have HT := hidE (fun w1 (hb : Below w.heap.size w w1) => there_no p w1 (h.below hb (Nat.le_refl _)))
  go_enter Tryz.func72, Tryz.ntmps72
  go_wp2_with fail
  refine (HT.out _ ?_).mono ?_
  · exact ((Below.refl _ _).alloc (Nat.le_refl _) _).alloc (by simp) _
  rintro e w1 ⟨rfl, rfl⟩
  go_wp2_with fail
  go_ret
  exact ⟨rfl, ((Below.refl _ _).alloc (Nat.le_refl _) _).alloc (by simp) _⟩
/-- What slices.Values answers. -/
def valF (b : Nat) : Value := .func (.func 192) #[] #[.pointer (some ⟨b, 0, none⟩)]
set_option maxRecDepth 100000 in
theorem values_any (v : Value) (hv : ∃ a n c, v = .slice a n c) (w : World) : Calls Tryz.prog 165 #[v] w fun e w' => e = .returned (valF w.heap.size) ∧ Below w.heap.size w w' ∧ Boxed w' w.heap.size 100 v := by
  obtain ⟨a, n, c, rfl⟩ := hv
  go_enter Tryz.func165, Tryz.ntmps165
  go_wp2_with fail
  go_ret
  exact ⟨rfl, (Below.refl _ _).alloc (Nat.le_refl _) _, World.alloc_heap_new _ _⟩
set_option maxRecDepth 100000 in
theorem nodes_no (p : Value) (w : World) (h : NoG w p) : Calls Tryz.prog 125 #[p] w fun e w' => e = .returned (valF w.heap.size) ∧ Below w.heap.size w w' ∧ Boxed w' w.heap.size 100 (.slice none 0 0) := by
  have HT := hidE (there_no p w h)
  go_enter Tryz.func125, Tryz.ntmps125
  go_wp2_with fail
  refine HT.out.mono ?_
  rintro e w1 ⟨rfl, rfl⟩
  go_wp2_with fail
  refine (values_any _ ⟨_, _, _, rfl⟩ _).mono ?_
  rintro e w2 ⟨rfl, hb, hx⟩
  have HB := hidE hb
  have HX := hidE hx
  clear hb hx
  obtain ⟨F, hF⟩ : ∃ F, valF w1.heap.size = F := ⟨_, rfl⟩
  rw [hF]
  go_wp2_with fail
  go_ret
  exact ⟨by rw [hF]; rfl, HB.out, HX.out⟩
set_option maxRecDepth 100000 in
theorem values1_nil (y : Value) (b : Nat) (w : World) (hb : Boxed w b 100 (.slice none 0 0)) : Calls Tryz.prog 192 #[y, .pointer (some ⟨b, 0, none⟩)] w fun e w' => e = .returned (.tuple #[]) ∧ w' = w := by
  have cb := hb.cell
  go_enter Tryz.func192, Tryz.ntmps192
  go_wp2_with fail
  go_loopw [7] (fun x wr => x = .int .i64 0 ∧ wr = w) (fun _ _ => 0)
  case atStart => exact ⟨rfl, rfl⟩
  case round =>
    obtain ⟨rfl, rfl⟩ := hrel
    go_wp2_with fail
    exact bodyPost_end (v := .tuple #[]) (by simp [results, Tryz.results192, go_sem]) rfl ⟨rfl, rfl⟩
theorem equal_valf (w : World) (d : Nat) (b : Nat) : (Op.equalIn (d + 1) 168 (valF b) .nilFunc).run Tryz.prog w = .ok false w := by
  unfold valF
  simp [Op.equalIn, run_underlying Tryz.underlying168]
theorem eql_valf (w : World) (b : Nat) : (binOp .eql 168 (valF b) .nilFunc).run Tryz.prog w = .ok (.bool false) w := by
  have h := equal_valf w 9999 b
  unfold valF at h ⊢
  simp only [binOp]
  simp [Op.equal, Op.maxDepth, h]
set_option maxRecDepth 100000 in
set_option maxHeartbeats 2000000 in
theorem list_no (p : Value) (w : World) (h : NoG w p) : Calls Tryz.prog 79 #[p] w fun e w' => e = .returned (.slice none 0 0) ∧ Below w.heap.size w w' := by
  have HG := hidE h
  clear h
  refine (callsIn_wide (n := 0)).1 ?_
  refine callsIn_of_wp_marks (F := Fence.wide) Tryz.func79 rfl trivial ?_ rfl
  refine wpIn_wide.2 ?_
  simp only [Tryz.ntmps79, List.size_toArray, List.length_cons, List.length_nil, Nat.reduceAdd, Nat.reduceSub, Array.replicate_succ, Array.replicate_zero, List.push_toArray, List.append_toArray, List.nil_append, List.cons_append]
  go_upto_region 2 with fail
  generalize hW1 : World.alloc _ _ = W1
  have HB1 : Hid (Below w.heap.size w W1) := by rw [← hW1]; exact (Below.refl _ _).alloc (Nat.le_refl _) _
  have HX1 : Hid (Boxed W1 w.heap.size 100 (.slice none 0 0)) := by rw [← hW1]; exact World.alloc_heap_new _ _
  have hs1 : w.heap.size < W1.heap.size := by rw [← hW1]; simp
  clear hW1
  have HN := hidE (nodes_no p W1 (HG.out.below HB1.out (Nat.le_refl _)))
  go_wp2_with fail
  refine HN.out.mono ?_
  rintro e w2 ⟨rfl, hb2, hx2⟩
  have HB2 := hidE (below_on HB1.out hb2)
  have HX2 := hidE hx2
  have HO2 : Hid (Boxed w2 w.heap.size 100 (.slice none 0 0)) := (hb2.block _ hs1).trans HX1.out
  have hs2 : W1.heap.size < w2.heap.size := hx2.lt
  obtain ⟨b, hbb⟩ : ∃ b, W1.heap.size = b := ⟨_, rfl⟩
  rw [hbb] at HX2 hs2 hs1 ⊢
  clear hb2 hx2 HN hbb
  have hq : ∀ W, (binOp .eql 168 (valF b) .nilFunc).run Tryz.prog W = .ok (.bool false) W := fun W => eql_valf W b
  unfold valF at hq ⊢
  go_wp2_with fail
  refine (wpIn_wide (n := 0)).1 ?_
  refine range_wp (F := Fence.wide) rfl rfl (gf := 192) (lb := #[.pointer (some ⟨b, 0, none⟩)]) rfl trivial (enters_of Tryz.func192 (by kernel_rfl) rfl) ?_
  intro fn _
  refine callsIn_wide.2 ?_
  generalize hrec : Loop.mk _ _ _ _ _ _ _ _ = rec
  have hp : rec.pending = none := by rw [← hrec]
  have hst : rec.state ≠ .busy := by rw [← hrec]; simp
  clear hrec
  generalize hW6 : World.alloc _ (Obj.loop rec) = W6
  have HB6 : Hid (Below w2.heap.size w2 W6) := by rw [← hW6]; exact ((Below.refl _ _).alloc (Nat.le_refl _) _).alloc (by simp) _
  have HD6 : Hid (W6.heap[w2.heap.size]? = some (.deferred (some []))) := by
    rw [← hW6, Below.heap_alloc _ _ _ (by simp)]; exact World.alloc_heap_new _ _
  have HL6 : Hid (W6.heap[w2.heap.size + 1]? = some (.loop rec)) := by
    rw [← hW6]
    have := World.alloc_heap_new (w2.alloc (.deferred (some []))) (.loop rec)
    rwa [show (w2.alloc (.deferred (some []))).heap.size = w2.heap.size + 1 by simp] at this
  clear hW6
  refine (values1_nil _ b W6 ((HB6.out.block _ hs2).trans HX2.out)).mono ?_
  rintro e w7 ⟨rfl, rfl⟩
  refine ⟨rec, HL6.out, hst, ?_⟩
  simp only [hp]
  generalize hW8 : World.putObj _ _ _ = W8
  have HB8 : Hid (Below w2.heap.size w2 W8) := by rw [← hW8]; exact (But.putObj _ _).below HB6.out (by omega)
  have HD8 : Hid (W8.heap[w2.heap.size]? = some (.deferred (some []))) := by rw [← hW8, World.putObj_heap_other (by omega)]; exact HD6.out
  have HO8 : Hid (Boxed W8 w.heap.size 100 (.slice none 0 0)) := (HB8.out.block _ (by omega)).trans HO2.out
  clear hW8
  have c8 := HO8.out.cell
  go_wp2_with fail
  have hz3 : Below w.heap.size w (W8.putObj w2.heap.size (.deferred none)) := (But.putObj _ _).below (below_on HB2.out HB8.out) (by omega)
  show LeavesInM _ _ _ _ _ _ [_] .returning _
  refine ⟨by simp, .inl ⟨_, _, rfl, run_takeDeferred HD8.out, ?_⟩⟩
  refine ⟨.slice none 0 0, ?_, rfl, hz3⟩
  simp [results, Tryz.results79, go_sem]
end Go.Proofs.YteddjlbfbpecjaaGreatDoor

namespace Go.Proofs.YteddjlbfbpecjaaGreatDoor
open Go.RowKit Go.Shelf
set_option linter.unusedVariables false
set_option linter.unusedSimpArgs false
attribute [local go_sem] Oper.semAt_some
set_option maxRecDepth 100000 in
set_option maxHeartbeats 2000000 in
theorem labelled_no (p : Value) (hp0 : ∃ a, p = .pointer a) (s : ByteArray) (w : World) (h : NoG w p) : Calls Tryz.prog 82 #[p, .string s] w fun e w' => e = .returned (.slice none 0 0) ∧ Below w.heap.size w w' := by
  have HG := hidE h
  clear h
  obtain ⟨pa, rfl⟩ := hp0
  refine (callsIn_wide (n := 0)).1 ?_
  refine callsIn_of_wp_marks (F := Fence.wide) Tryz.func82 rfl trivial ?_ rfl
  refine wpIn_wide.2 ?_
  simp only [Tryz.ntmps82, List.size_toArray, List.length_cons, List.length_nil, Nat.reduceAdd, Nat.reduceSub, Array.replicate_succ, Array.replicate_zero, List.push_toArray, List.append_toArray, List.nil_append, List.cons_append]
  go_upto_region 2 with fail
  generalize hW1 : World.alloc _ _ = W1
  have HB1 : Hid (Below w.heap.size w W1) := by rw [← hW1]; exact (((Below.refl _ _).alloc (Nat.le_refl _) _).alloc (by simp) _).alloc (by simp; omega) _
  have HX1 : Hid (Boxed W1 (w.heap.size + 2) 100 (.slice none 0 0)) := by
    rw [← hW1]
    show _ = _
    simp only [heap_alloc_at, World.size_alloc]
    repeat (first | rw [if_pos trivial] | rw [if_pos (by omega)] | rw [if_neg (by omega)])
  have HP1 : Hid (Boxed W1 w.heap.size 31 (.pointer pa)) := by
    rw [← hW1]
    show _ = _
    simp only [heap_alloc_at, World.size_alloc]
    repeat (first | rw [if_pos trivial] | rw [if_pos (by omega)] | rw [if_neg (by omega)])
  have hs1 : w.heap.size + 2 < W1.heap.size := by rw [← hW1]; simp
  clear hW1
  have cp := HP1.out.cell
  have HN := hidE (nodes_no _ W1 (HG.out.below HB1.out (Nat.le_refl _)))
  go_wp2_with fail
  refine HN.out.mono ?_
  rintro e w2 ⟨rfl, hb2, hx2⟩
  have HB2 := hidE (below_on HB1.out hb2)
  have HX2 := hidE hx2
  have HO2 : Hid (Boxed w2 (w.heap.size + 2) 100 (.slice none 0 0)) := (hb2.block _ hs1).trans HX1.out
  have hs2 : W1.heap.size < w2.heap.size := hx2.lt
  obtain ⟨b, hbb⟩ : ∃ b, W1.heap.size = b := ⟨_, rfl⟩
  rw [hbb] at HX2 hs2 hs1 ⊢
  clear hb2 hx2 HN hbb
  unfold valF
  go_wp2_with fail
  refine (wpIn_wide (n := 0)).1 ?_
  refine range_wp (F := Fence.wide) rfl rfl (gf := 192) (lb := #[.pointer (some ⟨b, 0, none⟩)]) rfl trivial (enters_of Tryz.func192 (by kernel_rfl) rfl) ?_
  intro fn _
  refine callsIn_wide.2 ?_
  generalize hrec : Loop.mk _ _ _ _ _ _ _ _ = rec
  have hp : rec.pending = none := by rw [← hrec]
  have hst : rec.state ≠ .busy := by rw [← hrec]; simp
  clear hrec
  generalize hW6 : World.alloc _ (Obj.loop rec) = W6
  have HB6 : Hid (Below w2.heap.size w2 W6) := by rw [← hW6]; exact ((Below.refl _ _).alloc (Nat.le_refl _) _).alloc (by simp) _
  have HD6 : Hid (W6.heap[w2.heap.size]? = some (.deferred (some []))) := by
    rw [← hW6, Below.heap_alloc _ _ _ (by simp)]; exact World.alloc_heap_new _ _
  have HL6 : Hid (W6.heap[w2.heap.size + 1]? = some (.loop rec)) := by
    rw [← hW6]
    have := World.alloc_heap_new (w2.alloc (.deferred (some []))) (.loop rec)
    rwa [show (w2.alloc (.deferred (some []))).heap.size = w2.heap.size + 1 by simp] at this
  clear hW6
  refine (values1_nil _ b W6 ((HB6.out.block _ hs2).trans HX2.out)).mono ?_
  rintro e w7 ⟨rfl, rfl⟩
  refine ⟨rec, HL6.out, hst, ?_⟩
  simp only [hp]
  generalize hW8 : World.putObj _ _ _ = W8
  have HB8 : Hid (Below w2.heap.size w2 W8) := by rw [← hW8]; exact (But.putObj _ _).below HB6.out (by omega)
  have HD8 : Hid (W8.heap[w2.heap.size]? = some (.deferred (some []))) := by rw [← hW8, World.putObj_heap_other (by omega)]; exact HD6.out
  have HO8 : Hid (Boxed W8 (w.heap.size + 2) 100 (.slice none 0 0)) := (HB8.out.block _ (by omega)).trans HO2.out
  clear hW8
  have c8 := HO8.out.cell
  go_wp2_with fail
  have hz3 : Below w.heap.size w (W8.putObj w2.heap.size (.deferred none)) := (But.putObj _ _).below (below_on HB2.out HB8.out) (by omega)
  show LeavesInM _ _ _ _ _ _ [_] .returning _
  refine ⟨by simp, .inl ⟨_, _, rfl, run_takeDeferred HD8.out, ?_⟩⟩
  refine ⟨.slice none 0 0, ?_, rfl, hz3⟩
  simp [results, Tryz.results82, go_sem]
end Go.Proofs.YteddjlbfbpecjaaGreatDoor

