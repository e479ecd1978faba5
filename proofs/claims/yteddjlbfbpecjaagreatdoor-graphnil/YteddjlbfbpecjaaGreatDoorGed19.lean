/- Drop: what is attached stays; a node, a relationship goes. -/
import Derived.Test.YteddjlbfbpecjaaGreatDoorGdr5
namespace Go.Proofs.YteddjlbfbpecjaaGreatDoor
open Go.RowKit Go.Shelf
set_option linter.unusedVariables false
set_option linter.unusedSimpArgs false
attribute [local go_sem] Oper.semAt_some
/-- What a map of lists answers at a number. -/
def Looks (b : Nat) (es : List (Int × Value)) (k : Int) (a : Option Addr) (n c : Nat) : Prop := ∀ W, MI W b es → (Instr.lookup 72 (.map (some b)) (.int .i64 k) false).run Tryz.prog W = .ok (.slice a n c) W
set_option maxRecDepth 100000 in
set_option maxHeartbeats 8000000 in
theorem drop_attached {w : World} {p : GP} {nn nr : Int} {N R F T : List (Int × Value)} (h : GS w p nn nr N R F T) (hN : Uniq N) (hR : Uniq R) (hn : ∀ q ∈ N, NodeV q.2) (hr : ∀ q ∈ R, RelV q.2) (id : Int) (hid : I64 id) (hid1 : hasB id N = true)
    (fa ta : Option Addr) (fl fc tl tc : Nat) (lf : Looks p.f F id fa fl fc) (lt : Looks p.t T id ta tl tc) (hpos : 0 < fl + tl) (hfl : fl ≤ 1000000) (htl : tl ≤ 1000000) :
    Calls Tryz.prog 33 #[p.val, .bool false, .int .i64 id] w fun e w' => e = .returned (.int .i64 150) ∧ Below w.heap.size w w' := by
  have HG := hidE h
  have HTh := hidE (there_yes h)
  have HH := hidE (has_node h hN hR hn hr id hid true hid1)
  have HLF := hidE lf
  have HLT := hidE lt
  clear h hN hR hn hr hid1 lf lt
  unfold GP.val at HTh ⊢
  go_enter Tryz.func33, Tryz.ntmps33
  go_wp2_with fail
  refine HTh.out.mono ?_
  rintro e w1 ⟨rfl, hw1⟩
  rw [hw1]
  clear hw1 HTh
  go_wp2_with fail
  refine HH.out.mono ?_
  rintro e w2 ⟨rfl, hb2⟩
  have HB2 := hidE hb2
  have HG2 := hidE (HG.out.below hb2)
  clear hb2 HH
  go_upto_region 5 with fail
  show (Code.region 5 RDR5 true).wp _ _ _ _
  refine regionDR5 p id fa ta fl fc tl tc true _ _ _ rfl ⟨rfl, rfl, rfl⟩ ?_ ?_
  · intro W hW
    exact ⟨(hW.cell (p := ⟨p.g, 4, none⟩) HG2.out.obj.lt).trans HG2.out.c4, (hW.cell (p := ⟨p.g, 5, none⟩) HG2.out.obj.lt).trans HG2.out.c5, HLF.out W (HG2.out.f.below hW (Nat.le_refl _)), HLT.out W (HG2.out.t.below hW (Nat.le_refl _)), by rw [IntKind.wrap_i64]; omega, by simp; omega⟩
  intro c W3 hS hB3 e17
  rw [same_put hS [18, 19, 20, 21, 22, 23, 24, 25, 26, 27, 28, 29, 30, 31, 32, 33, 34, 35, 36, 37, 17] (by kernel_rfl)]
  obtain ⟨y18, q18⟩ : ∃ y, c.eval (.tmp 18) = y := ⟨_, rfl⟩
  obtain ⟨y19, q19⟩ : ∃ y, c.eval (.tmp 19) = y := ⟨_, rfl⟩
  obtain ⟨y20, q20⟩ : ∃ y, c.eval (.tmp 20) = y := ⟨_, rfl⟩
  obtain ⟨y21, q21⟩ : ∃ y, c.eval (.tmp 21) = y := ⟨_, rfl⟩
  obtain ⟨y22, q22⟩ : ∃ y, c.eval (.tmp 22) = y := ⟨_, rfl⟩
  obtain ⟨y23, q23⟩ : ∃ y, c.eval (.tmp 23) = y := ⟨_, rfl⟩
  obtain ⟨y24, q24⟩ : ∃ y, c.eval (.tmp 24) = y := ⟨_, rfl⟩
  obtain ⟨y25, q25⟩ : ∃ y, c.eval (.tmp 25) = y := ⟨_, rfl⟩
  obtain ⟨y26, q26⟩ : ∃ y, c.eval (.tmp 26) = y := ⟨_, rfl⟩
  obtain ⟨y27, q27⟩ : ∃ y, c.eval (.tmp 27) = y := ⟨_, rfl⟩
  obtain ⟨y28, q28⟩ : ∃ y, c.eval (.tmp 28) = y := ⟨_, rfl⟩
  obtain ⟨y29, q29⟩ : ∃ y, c.eval (.tmp 29) = y := ⟨_, rfl⟩
  obtain ⟨y30, q30⟩ : ∃ y, c.eval (.tmp 30) = y := ⟨_, rfl⟩
  obtain ⟨y31, q31⟩ : ∃ y, c.eval (.tmp 31) = y := ⟨_, rfl⟩
  obtain ⟨y32, q32⟩ : ∃ y, c.eval (.tmp 32) = y := ⟨_, rfl⟩
  obtain ⟨y33, q33⟩ : ∃ y, c.eval (.tmp 33) = y := ⟨_, rfl⟩
  obtain ⟨y34, q34⟩ : ∃ y, c.eval (.tmp 34) = y := ⟨_, rfl⟩
  obtain ⟨y35, q35⟩ : ∃ y, c.eval (.tmp 35) = y := ⟨_, rfl⟩
  obtain ⟨y36, q36⟩ : ∃ y, c.eval (.tmp 36) = y := ⟨_, rfl⟩
  obtain ⟨y37, q37⟩ : ∃ y, c.eval (.tmp 37) = y := ⟨_, rfl⟩
  obtain ⟨y17, q17⟩ : ∃ y, c.eval (.tmp 17) = y := ⟨_, rfl⟩
  simp only [List.foldl_cons, List.foldl_nil, q18, q19, q20, q21, q22, q23, q24, q25, q26, q27, q28, q29, q30, q31, q32, q33, q34, q35, q36, q37, q17]
  rw [e17] at q17
  subst q17
  clear q18 q19 q20 q21 q22 q23 q24 q25 q26 q27 q28 q29 q30 q31 q32 q33 q34 q35 q36 q37
  simp only [List.setIfInBounds_toArray, List.set_cons_succ, List.set_cons_zero]
  clear e17 hS
  have HB3 := hidE (below_on HB2.out hB3)
  clear hB3
  go_wp2_with fail
  go_ret
  exact ⟨rfl, HB3.out⟩
set_option maxRecDepth 100000 in
set_option maxHeartbeats 8000000 in
theorem drop_node {w : World} {p : GP} {nn nr : Int} {N R F T : List (Int × Value)} (h : GS w p nn nr N R F T) (B : Nat) (hok : p.Ok B) (hB : B ≤ w.heap.size) (hN : Uniq N) (hR : Uniq R) (hn : ∀ q ∈ N, NodeV q.2) (hr : ∀ q ∈ R, RelV q.2) (id : Int) (hid : I64 id) (hid1 : hasB id N = true)
    (fa ta : Option Addr) (fl fc tl tc : Nat) (lf : Looks p.f F id fa fl fc) (lt : Looks p.t T id ta tl tc) (hfl : fl = 0) (htl : tl = 0) (j : Nat) (v0 : Value) (hj : N[j]? = some (id, v0)) (huj : ∀ a q, N[a]? = some q → q.1 = id → a = j) :
    Calls Tryz.prog 33 #[p.val, .bool false, .int .i64 id] w fun e w' => e = .returned (.int .i64 0) ∧ GS w' p nn nr (N.eraseIdx j) R F T ∧ Below B w w' := by
  have HG := hidE h
  have HTh := hidE (there_yes h)
  have HH := hidE (has_node h hN hR hn hr id hid true hid1)
  have HLF := hidE lf
  have HLT := hidE lt
  have HOK := hidE hok
  have HJ := hidE (And.intro hj huj)
  clear h hN hR hn hr hid1 lf lt hok hj huj
  unfold GP.val at HTh ⊢
  go_enter Tryz.func33, Tryz.ntmps33
  go_wp2_with fail
  refine HTh.out.mono ?_
  rintro e w1 ⟨rfl, hw1⟩
  rw [hw1]
  clear hw1 HTh
  go_wp2_with fail
  refine HH.out.mono ?_
  rintro e w2 ⟨rfl, hb2⟩
  have HB2 := hidE hb2
  have HG2 := hidE (HG.out.below hb2)
  clear hb2 HH
  go_upto_region 5 with fail
  show (Code.region 5 RDR5 true).wp _ _ _ _
  refine regionDR5 p id fa ta fl fc tl tc false _ _ _ rfl ⟨rfl, rfl, rfl⟩ ?_ ?_
  · intro W hW
    exact ⟨(hW.cell (p := ⟨p.g, 4, none⟩) HG2.out.obj.lt).trans HG2.out.c4, (hW.cell (p := ⟨p.g, 5, none⟩) HG2.out.obj.lt).trans HG2.out.c5, HLF.out W (HG2.out.f.below hW (Nat.le_refl _)), HLT.out W (HG2.out.t.below hW (Nat.le_refl _)), by rw [IntKind.wrap_i64]; omega, by simp; omega⟩
  intro c W3 hS hB3 e17
  rw [same_put hS [18, 19, 20, 21, 22, 23, 24, 25, 26, 27, 28, 29, 30, 31, 32, 33, 34, 35, 36, 37, 17] (by kernel_rfl)]
  obtain ⟨y18, q18⟩ : ∃ y, c.eval (.tmp 18) = y := ⟨_, rfl⟩
  obtain ⟨y19, q19⟩ : ∃ y, c.eval (.tmp 19) = y := ⟨_, rfl⟩
  obtain ⟨y20, q20⟩ : ∃ y, c.eval (.tmp 20) = y := ⟨_, rfl⟩
  obtain ⟨y21, q21⟩ : ∃ y, c.eval (.tmp 21) = y := ⟨_, rfl⟩
  obtain ⟨y22, q22⟩ : ∃ y, c.eval (.tmp 22) = y := ⟨_, rfl⟩
  obtain ⟨y23, q23⟩ : ∃ y, c.eval (.tmp 23) = y := ⟨_, rfl⟩
  obtain ⟨y24, q24⟩ : ∃ y, c.eval (.tmp 24) = y := ⟨_, rfl⟩
  obtain ⟨y25, q25⟩ : ∃ y, c.eval (.tmp 25) = y := ⟨_, rfl⟩
  obtain ⟨y26, q26⟩ : ∃ y, c.eval (.tmp 26) = y := ⟨_, rfl⟩
  obtain ⟨y27, q27⟩ : ∃ y, c.eval (.tmp 27) = y := ⟨_, rfl⟩
  obtain ⟨y28, q28⟩ : ∃ y, c.eval (.tmp 28) = y := ⟨_, rfl⟩
  obtain ⟨y29, q29⟩ : ∃ y, c.eval (.tmp 29) = y := ⟨_, rfl⟩
  obtain ⟨y30, q30⟩ : ∃ y, c.eval (.tmp 30) = y := ⟨_, rfl⟩
  obtain ⟨y31, q31⟩ : ∃ y, c.eval (.tmp 31) = y := ⟨_, rfl⟩
  obtain ⟨y32, q32⟩ : ∃ y, c.eval (.tmp 32) = y := ⟨_, rfl⟩
  obtain ⟨y33, q33⟩ : ∃ y, c.eval (.tmp 33) = y := ⟨_, rfl⟩
  obtain ⟨y34, q34⟩ : ∃ y, c.eval (.tmp 34) = y := ⟨_, rfl⟩
  obtain ⟨y35, q35⟩ : ∃ y, c.eval (.tmp 35) = y := ⟨_, rfl⟩
  obtain ⟨y36, q36⟩ : ∃ y, c.eval (.tmp 36) = y := ⟨_, rfl⟩
  obtain ⟨y37, q37⟩ : ∃ y, c.eval (.tmp 37) = y := ⟨_, rfl⟩
  obtain ⟨y17, q17⟩ : ∃ y, c.eval (.tmp 17) = y := ⟨_, rfl⟩
  simp only [List.foldl_cons, List.foldl_nil, q18, q19, q20, q21, q22, q23, q24, q25, q26, q27, q28, q29, q30, q31, q32, q33, q34, q35, q36, q37, q17]
  rw [e17] at q17
  subst q17
  clear q18 q19 q20 q21 q22 q23 q24 q25 q26 q27 q28 q29 q30 q31 q32 q33 q34 q35 q36 q37
  simp only [List.setIfInBounds_toArray, List.set_cons_succ, List.set_cons_zero]
  clear e17 hS
  have HB3 := hidE (below_on HB2.out hB3)
  have HG3 := hidE (HG.out.below HB3.out)
  clear hB3 HB2 HG2
  obtain ⟨o1, o2, o3, o4, o5, n1, n2, n3, n4, n5, n6, n7, n8, n9, n10⟩ := HOK.out
  obtain ⟨w4, hdel, hm4, hs4, ho4, hb4⟩ := mi_del (ty := 0) Tryz.underlying68' HG3.out.n j id v0 hid HJ.out.1 HJ.out.2
  have HG4 : Hid (GS w4 p nn nr (N.eraseIdx j) R F T) := ⟨HG3.out.obj.keep (ho4 _ n1), hm4, HG3.out.r.block (ho4 _ (Ne.symm n5)), HG3.out.f.block (ho4 _ (Ne.symm n6)), HG3.out.t.block (ho4 _ (Ne.symm n7))⟩
  have HB4 : Hid (Below B w w4) := (HB3.out.mono hB).trans (hb4.mono o2)
  have c0 := HG3.out.c0
  clear hm4 hs4 ho4 hb4
  go_wp2_with fail
  go_ret
  exact ⟨rfl, HG4.out, HB4.out⟩
theorem has_rel {w : World} {p : GP} {nn nr : Int} {N R F T : List (Int × Value)} (h : GS w p nn nr N R F T) (hN : Uniq N) (hR : Uniq R) (hn : ∀ q ∈ N, NodeV q.2) (hr : ∀ q ∈ R, RelV q.2) (k : Int) (hk : I64 k) (b : Bool) (hb : hasB k R = b) :
    Calls Tryz.prog 91 #[.pointer (some ⟨p.g, 0, none⟩), .bool true, .int .i64 k] w fun e w' => e = .returned (.bool b) ∧ Below w.heap.size w w' := by
  have := has_any h hN hR hn hr true k hk
  simpa [hb, GP.val] using this
set_option maxRecDepth 100000 in
set_option maxHeartbeats 8000000 in
theorem drop_rel {w : World} {p : GP} {nn nr : Int} {N R F T : List (Int × Value)} (h : GS w p nn nr N R F T) (B : Nat) (hok : p.Ok B) (hB : B ≤ w.heap.size) (hN : Uniq N) (hR : Uniq R) (hn : ∀ q ∈ N, NodeV q.2) (hr : ∀ q ∈ R, RelV q.2) (id f t : Int) (s : ByteArray) (pa : Option Addr) (pn pc : Nat) (hid : I64 id) (hf : I64 f) (ht : I64 t) (hid1 : hasB id R = true)
    (F' T' : List (Int × Value)) (m : Nat) (hm : R[m]? = some (id, .agg #[.int .i64 id, .int .i64 f, .int .i64 t, .string s, .slice pa pn pc])) (hum : ∀ a q, R[a]? = some q → q.1 = id → a = m)
    (hdet : ∀ W, Below w.heap.size w W → Calls Tryz.prog 92 #[p.val, .agg #[.int .i64 id, .int .i64 f, .int .i64 t, .string s, .slice pa pn pc]] W fun e w' => e = .returned (.tuple #[]) ∧ GS w' p nn nr N R F' T' ∧ Below B W w') :
    Calls Tryz.prog 33 #[p.val, .bool true, .int .i64 id] w fun e w' => e = .returned (.int .i64 0) ∧ GS w' p nn nr N (R.eraseIdx m) F' T' ∧ Below B w w' := by
  have HG := hidE h
  have HTh := hidE (there_yes h)
  have HH := hidE (has_rel h hN hR hn hr id hid true hid1)
  have HOK := hidE hok
  have HJ := hidE (And.intro hm hum)
  have HDe := hidE hdet
  have HHit : Hid (∀ W, MI W p.r R → (Instr.lookup 69 (.map (some p.r)) (.int .i64 id) false).run Tryz.prog W = .ok (.agg #[.int .i64 id, .int .i64 f, .int .i64 t, .string s, .slice pa pn pc]) W) := fun W hW =>
    (mi_hit (z := .agg #[.int .i64 0, .int .i64 0, .int .i64 0, .string ⟨#[]⟩, .slice none 0 0]) Tryz.underlying69' hW id _ hid (List.mem_of_getElem? hm) (fun q hq e => hR q hq _ (List.mem_of_getElem? hm) e)).2
  clear h hN hR hn hr hid1 hok hm hum hdet
  unfold GP.val at HDe
  unfold GP.val at HTh ⊢
  go_enter Tryz.func33, Tryz.ntmps33
  go_wp2_with fail
  refine HTh.out.mono ?_
  rintro e w1 ⟨rfl, hw1⟩
  rw [hw1]
  clear hw1 HTh
  go_wp2_with fail
  refine HH.out.mono ?_
  rintro e w2 ⟨rfl, hb2⟩
  have HB2 := hidE hb2
  have HG2 := hidE (HG.out.below hb2)
  clear hb2 HH
  have hq5 : Hid (Below w.heap.size w w2) := HB2
  go_upto_region 5 with fail
  go_quiet (fail)
  obtain ⟨w3, hw3⟩ : ∃ w3, w2.drewN nq = w3 := ⟨_, rfl⟩
  have hd3 : Below w2.heap.size w2 w3 := by rw [← hw3]; exact ⟨rfl, rfl, rfl, Nat.le_refl _, fun _ _ => rfl⟩
  have HG3 := hidE (HG2.out.below hd3)
  have HB3 := hidE (below_on HB2.out hd3)
  rw [hw3]
  clear HG2 HB2 hq5 hd3 hw3
  have c1 := HG3.out.c1
  have lk := HHit.out w3 HG3.out.r
  go_wp2_with fail
  refine (HDe.out w3 HB3.out).mono ?_
  rintro e w4 ⟨rfl, hg4, hb4⟩
  have HG4 := hidE hg4
  have HB4 := hidE ((HB3.out.mono hB).trans hb4)
  clear hg4 hb4 c1 lk
  obtain ⟨o1, o2, o3, o4, o5, n1, n2, n3, n4, n5, n6, n7, n8, n9, n10⟩ := HOK.out
  obtain ⟨w5, hdel, hm5, hs5, ho5, hb5⟩ := mi_del (ty := 0) Tryz.underlying69' HG4.out.r m id _ hid HJ.out.1 HJ.out.2
  have HG5 : Hid (GS w5 p nn nr N (R.eraseIdx m) F' T') := ⟨HG4.out.obj.keep (ho5 _ n2), HG4.out.n.block (ho5 _ n5), hm5, HG4.out.f.block (ho5 _ (Ne.symm n8)), HG4.out.t.block (ho5 _ (Ne.symm n9))⟩
  have HB5 : Hid (Below B w w5) := HB4.out.trans (hb5.mono o3)
  have c1 := HG4.out.c1
  clear hm5 hs5 ho5 hb5
  go_wp2_with fail
  go_ret
  exact ⟨rfl, HG5.out, HB5.out⟩
end Go.Proofs.YteddjlbfbpecjaaGreatDoor
