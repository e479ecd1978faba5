/- A graph of one node tells it. -/
import Derived.Test.YteddjlbfbpecjaaGreatDoorGed21
namespace Go.Proofs.YteddjlbfbpecjaaGreatDoor
open Go.RowKit Go.Shelf
set_option linter.unusedVariables false
set_option linter.unusedSimpArgs false
attribute [local go_sem] Oper.semAt_some
set_option maxRecDepth 10000 in
theorem store25 (ρ : Operand → Value) (X : Nat) (w : World) (u0 u1 u2 u3 : Value) (nn nr : Int) (h : Rec w X #[u0, u1, u2, u3] 25) (e3 : ρ (.tmp 3) = .pointer (some ⟨X, 0, none⟩)) (e16 : ρ (.tmp 16) = .agg #[.slice none 0 0, .slice none 0 0, .int .i64 nn, .int .i64 nr]) :
    ∃ w', (execOp ρ ({ dst := none, op := Op.store 25 (Operand.tmp 3) (Operand.tmp 16), type := 0, pos := "graph.go:126", after := #[{ on := 9, ground := Ground.data }, { on := 8, ground := Ground.data }, { on := 0, ground := Ground.phase }, { on := 1, ground := Ground.phase }, { on := 2, ground := Ground.phase }, { on := 3, ground := Ground.phase }, { on := 4, ground := Ground.phase }, { on := 5, ground := Ground.phase }, { on := 6, ground := Ground.phase }, { on := 7, ground := Ground.phase }, { on := 8, ground := Ground.phase }, { on := 9, ground := Ground.phase }], guard := none } : Oper)).run Tryz.prog w = .ok .skip w' ∧ Put X w w' #[.slice none 0 0, .slice none 0 0, .int .i64 nn, .int .i64 nr] 25 := by
  have c0 := h.cell 0 rfl
  have c1 := h.cell 1 rfl
  have c2 := h.cell 2 rfl
  have c3 := h.cell 3 rfl
  have z0 := h.z 0
  have z1 := h.z 1
  have z2 := h.z 2
  have z3 := h.z 3
  refine ⟨(((w.setCell ⟨X, 0, none⟩ (.slice none 0 0)).setCell ⟨X, 1, none⟩ (.slice none 0 0)).setCell ⟨X, 2, none⟩ (.int .i64 nn)).setCell ⟨X, 3, none⟩ (.int .i64 nr), ?_, by simpa using put_set (put_set (put_set (put_set (put_refl h) 0 (.slice none 0 0)) 1 (.slice none 0 0)) 2 (.int .i64 nn)) 3 (.int .i64 nr)⟩
  clear h
  go_simp
set_option maxRecDepth 100000 in
set_option maxHeartbeats 8000000 in
theorem tell_one {w : World} {p : GP} {nn nr id k : Int} {F T : List (Int × Value)} (h : GS w p nn nr [(id, .agg #[.int .i64 k, .slice none 0 0, .slice none 0 0])] [] F T) (hid : I64 id) :
    Calls Tryz.prog 52 #[.pointer (some ⟨p.g, 0, none⟩)] w fun e w' => ∃ Y c, e = .returned (.agg #[.slice (some ⟨Y, 0, none⟩) 1 c, .slice none 0 0, .int .i64 nn, .int .i64 nr]) ∧ 1 ≤ c ∧ c ≤ 9223372036854775807 ∧ w'.cell? ⟨Y, 0, none⟩ = some (.int .i64 k) ∧ w'.cell? ⟨Y, 1, none⟩ = some (.slice none 0 0) ∧ w'.cell? ⟨Y, 2, none⟩ = some (.slice none 0 0) ∧ Below w.heap.size w w' := by
  have HG := hidE h
  have HLK : Hid (∀ W, MI W p.n [(id, .agg #[.int .i64 k, .slice none 0 0, .slice none 0 0])] → (Instr.lookup 68 (.map (some p.n)) (.int .i64 id) false).run Tryz.prog W = .ok (.agg #[.int .i64 k, .slice none 0 0, .slice none 0 0]) W) := fun W hW =>
    (mi_hit (z := .agg #[.int .i64 0, .slice none 0 0, .slice none 0 0]) Tryz.underlying68' hW id _ hid (by simp) (fun q hq e => by simp at hq; rw [hq])).2
  clear h
  go_enter Tryz.func52, Tryz.ntmps52
  go_upto_region 1 with fail
  generalize hW1 : World.alloc _ _ = W1
  have HB1 : Hid (Below w.heap.size w W1) := by rw [← hW1]; exact (Below.refl _ _).alloc (Nat.le_refl _) _
  have HZ1 : Hid (Rec W1 w.heap.size #[.slice none 0 0, .slice none 0 0, .int .i64 0, .int .i64 0] 25) := by rw [← hW1]; exact rec_new _ _ _
  have HG1 := hidE (HG.out.below HB1.out)
  clear hW1
  show (Code.region 1 RTL1 true).wp _ _ _ _
  refine regionTL1 p nn nr W1.heap.size _ _ _ rfl ⟨rfl⟩ ?_ ?_
  · intro W hW
    exact ⟨(hW.cell (p := ⟨p.g, 2, none⟩) HG1.out.obj.lt).trans HG1.out.c2, (hW.cell (p := ⟨p.g, 3, none⟩) HG1.out.obj.lt).trans HG1.out.c3, hW.size⟩
  rintro c W2 hS hB2 e16 ⟨X, e3, hX, hr2⟩
  obtain ⟨W3, hrun, hput⟩ := store25 c.eval X W2 _ _ _ _ nn nr hr2 e3 e16
  refine ⟨W3, hrun, ?_⟩
  clear hrun
  rw [same_put hS [8, 9, 10, 11, 12, 13, 14, 15, 16, 3] (by kernel_rfl)]
  obtain ⟨y8, q8⟩ : ∃ y, c.eval (.tmp 8) = y := ⟨_, rfl⟩
  obtain ⟨y9, q9⟩ : ∃ y, c.eval (.tmp 9) = y := ⟨_, rfl⟩
  obtain ⟨y10, q10⟩ : ∃ y, c.eval (.tmp 10) = y := ⟨_, rfl⟩
  obtain ⟨y11, q11⟩ : ∃ y, c.eval (.tmp 11) = y := ⟨_, rfl⟩
  obtain ⟨y12, q12⟩ : ∃ y, c.eval (.tmp 12) = y := ⟨_, rfl⟩
  obtain ⟨y13, q13⟩ : ∃ y, c.eval (.tmp 13) = y := ⟨_, rfl⟩
  obtain ⟨y14, q14⟩ : ∃ y, c.eval (.tmp 14) = y := ⟨_, rfl⟩
  obtain ⟨y15, q15⟩ : ∃ y, c.eval (.tmp 15) = y := ⟨_, rfl⟩
  obtain ⟨y16, q16⟩ : ∃ y, c.eval (.tmp 16) = y := ⟨_, rfl⟩
  obtain ⟨y3, q3⟩ : ∃ y, c.eval (.tmp 3) = y := ⟨_, rfl⟩
  simp only [List.foldl_cons, List.foldl_nil, q8, q9, q10, q11, q12, q13, q14, q15, q16, q3]
  rw [e3] at q3
  subst q3
  clear q8 q9 q10 q11 q12 q13 q14 q15 q16
  simp only [List.setIfInBounds_toArray, List.set_cons_succ, List.set_cons_zero]
  clear e3 e16 hS
  have hZl : w.heap.size < W1.heap.size := HZ1.out.lt
  have HB3 : Hid (Below W1.heap.size W1 W3) := hB2.trans (hput.below.mono hX)
  have HX3 := hidE hput.r
  have HG3 := hidE (HG1.out.below HB3.out)
  have HZ3 := hidE (HZ1.out.below HB3.out HZ1.out.lt)
  clear hput hr2 hB2 HG1 HZ1
  have c0 := HG3.out.c0
  have HNu := hidE (numbersN_any HG3.out.n (by simp))
  go_wp2_with fail
  refine HNu.out.mono ?_
  rintro e w4 ⟨v4, rfl, ho4, hb4⟩
  obtain ⟨gb, gc, hgv, hgc1, hgc2, hgl, hgb⟩ : ∃ gb gc, v4 = .slice (some ⟨gb, 0, none⟩) 1 gc ∧ 1 ≤ gc ∧ gc ≤ 9223372036854775807 ∧ gb < w4.heap.size ∧ w4.cell? ⟨gb, 0, none⟩ = some (.int .i64 id) := by
    have ho4' := ho4
    rcases ho4.2 with ⟨_, h0⟩ | ⟨gb, gc, cur, h1, hbase, hgb, r1, r2, r3, r4⟩
    · simp at h0
    · refine ⟨gb, gc, by simpa using h1, by simpa using r1, by unfold maxLen at r2; omega, (Array.getElem?_eq_some_iff.1 hgb).1, ?_⟩
      rw [h1] at ho4'
      have := ho4'.cells (g := gb) rfl 0 (.int .i64 id) (by simp [sortI])
      have hadd : (⟨gb, 0, none⟩ : Addr).add 0 = ⟨gb, 0, none⟩ := by unfold Addr.add; split <;> simp_all
      rwa [hadd] at this
  subst hgv
  have HB4 := hidE hb4
  have HG4 := hidE (HG3.out.below hb4)
  have HX4 := hidE (HX3.out.below hb4 HX3.out.lt)
  have HZ4 := hidE (HZ3.out.below hb4 HZ3.out.lt)
  have hX4 : X < w4.heap.size := HX4.out.lt
  clear ho4 hb4 c0 HNu HG3 HX3 HZ3
  go_wp2_with fail
  go_loopw [23] (fun i wr => (i = .int .i64 0 ∧ wr = w4) ∨ (i = .int .i64 1 ∧ ∃ Y yc, Rec wr X #[.slice (some ⟨Y, 0, none⟩) 1 yc, .slice none 0 0, .int .i64 nn, .int .i64 nr] 25 ∧ wr.ownsRow w4.heap.size 47 3 (.slice (some ⟨Y, 0, none⟩) 1 yc) 1 [.int .i64 k, .slice none 0 0, .slice none 0 0] ∧ Below X w4 wr ∧ ∀ i, i < w4.heap.size → i ≠ X → wr.heap[i]? = w4.heap[i]?)) (fun i _ => 1 - (intOf i).toNat)
  case atStart => exact .inl ⟨rfl, rfl⟩
  case round =>
    rcases hrel with ⟨rfl, hw⟩ | ⟨rfl, Y, yc, hr5, ho5, hb5, hk5⟩
    · rw [hw]
      clear hw
      go_upto_region 5 with fail
      show (Code.region 5 RTL5 true).wp _ _ _ _
      refine regionTL5 p id k X w4.heap.size _ _ _ rfl ⟨rfl, rfl, rfl⟩ ?_ ?_
      · intro W hW
        exact ⟨(hW.cell (p := ⟨X, 0, none⟩) hX4).trans (HX4.out.cell 0 rfl), (hW.cell (p := ⟨p.g, 0, none⟩) HG4.out.obj.lt).trans HG4.out.c0, HLK.out W (HG4.out.n.below hW (Nat.le_refl _)), hW.size⟩
      rintro c W5 hS hB5 ⟨hown, ua, uc, e36⟩ e37
      rw [e36] at hown
      have hr5 := HX4.out.below hB5 hX4
      have x0 := hr5.cell 0 rfl
      have z0 := hr5.z 0
      refine ⟨W5.setCell ⟨X, 0, none⟩ (.slice ua 1 uc), ?_, ?_⟩
      · generalize c.eval = ρ at *
        clear hS hown
        go_simp
      rw [same_put hS [27, 28, 29, 30, 31, 32, 33, 34, 35, 36, 37] (by kernel_rfl)]
      obtain ⟨y27, q27⟩ : ∃ y, c.eval (.tmp 27) = y := ⟨_, rfl⟩
      obtain ⟨y28, q28⟩ : ∃ y, c.eval (.tmp 28) = y := ⟨_, rfl⟩
      obtain ⟨y29, q29⟩ : ∃ y, c.eval (.tmp 29) = y := ⟨_, rfl⟩
      obtain ⟨y30, q30⟩ : ∃ y, c.eval (.tmp 30) = y := ⟨_, rfl⟩
      obtain ⟨y31, q31⟩ : ∃ y, c.eval (.tmp 31) = y := ⟨_, rfl⟩
      obtain ⟨y32, q32⟩ : ∃ y, c.eval (.tmp 32) = y := ⟨_, rfl⟩
      obtain ⟨y33, q33⟩ : ∃ y, c.eval (.tmp 33) = y := ⟨_, rfl⟩
      obtain ⟨y34, q34⟩ : ∃ y, c.eval (.tmp 34) = y := ⟨_, rfl⟩
      obtain ⟨y35, q35⟩ : ∃ y, c.eval (.tmp 35) = y := ⟨_, rfl⟩
      obtain ⟨y36, q36⟩ : ∃ y, c.eval (.tmp 36) = y := ⟨_, rfl⟩
      obtain ⟨y37, q37⟩ : ∃ y, c.eval (.tmp 37) = y := ⟨_, rfl⟩
      simp only [List.foldl_cons, List.foldl_nil, q27, q28, q29, q30, q31, q32, q33, q34, q35, q36, q37]
      clear q27 q28 q29 q30 q31 q32 q33 q34 q35 q36 q37
      simp only [List.setIfInBounds_toArray, List.set_cons_succ, List.set_cons_zero]
      clear hS e36 e37 x0 z0
      obtain ⟨Y, hY⟩ : ∃ Y, ua = some ⟨Y, 0, none⟩ := by
        rcases hown.2 with ⟨_, h0⟩ | ⟨gb, gc, cur, h1, _⟩
        · simp at h0
        · injection h1 with h1 _ _
          exact ⟨gb, h1⟩
      subst hY
      have HR6 : Hid (Rec (W5.setCell ⟨X, 0, none⟩ (.slice (some ⟨Y, 0, none⟩) 1 uc)) X #[.slice (some ⟨Y, 0, none⟩) 1 uc, .slice none 0 0, .int .i64 nn, .int .i64 nr] 25) := by
        show Rec _ _ _ _
        simpa using hr5.set 0 (.slice (some ⟨Y, 0, none⟩) 1 uc)
      have HO6 : Hid ((W5.setCell ⟨X, 0, none⟩ (.slice (some ⟨Y, 0, none⟩) 1 uc)).ownsRow w4.heap.size 47 3 (.slice (some ⟨Y, 0, none⟩) 1 uc) 1 [.int .i64 k, .slice none 0 0, .slice none 0 0]) := row_keep hown fun g hg _ => Below.heap_setCell _ _ _ _ (by show g ≠ X; omega)
      have HB6 : Hid (Below X w4 (W5.setCell ⟨X, 0, none⟩ (.slice (some ⟨Y, 0, none⟩) 1 uc))) := (show Below X w4 W5 from hB5.mono (Nat.le_of_lt hX4)).setCell (p := ⟨X, 0, none⟩) (Nat.le_refl _) _
      have HK6 : Hid (∀ i, i < w4.heap.size → i ≠ X → (W5.setCell ⟨X, 0, none⟩ (.slice (some ⟨Y, 0, none⟩) 1 uc)).heap[i]? = w4.heap[i]?) := fun i h1 h2 => (Below.heap_setCell _ _ _ _ h2).trans (hB5.block i h1)
      generalize W5.setCell ⟨X, 0, none⟩ (.slice (some ⟨Y, 0, none⟩) 1 uc) = W6 at *
      clear hown hr5 hB5
      go_wp2_with fail
      go_roundw
      case rel => exact .inr ⟨by go_num, Y, uc, HR6.out, HO6.out, HB6.out, HK6.out⟩
      case measure => simp [intOf]
    · have hpl := HG4.out.obj.lt
      have hpX : p.g ≠ X := by have := HG.out.obj.lt; omega
      have hrX : p.r ≠ X := by have := HG.out.r.lt; omega
      have c1 : wr.cell? ⟨p.g, 1, none⟩ = some (.map (some p.r)) := (World.cell?_of_block (a := ⟨p.g, 1, none⟩) (hk5 _ hpl hpX)).trans HG4.out.c1
      have HMr := hidE (HG4.out.r.block (hk5 _ HG4.out.r.lt hrX))
      have HR5 := hidE hr5
      have HO5 := hidE ho5
      have HB5 := hidE hb5
      have HZ5 := hidE (HZ4.out.keep (hk5 _ HZ4.out.lt (by omega)))
      have hwl : w4.heap.size ≤ wr.heap.size := hb5.size
      clear hr5 ho5 hb5 hk5
      have HNr := hidE (numbersR_any HMr.out (by simp))
      go_wp2_with fail
      refine HNr.out.mono ?_
      rintro e w6 ⟨v6, rfl, ho6, hb6⟩
      obtain ⟨va, vc, hv⟩ := row_slice ho6
      simp only [List.length_nil] at hv
      subst hv
      have HR6 := hidE (HR5.out.below hb6 HR5.out.lt)
      have HO6 := hidE (row_keep HO5.out fun g _ hg => hb6.block g hg)
      have HZ6 := hidE (HZ5.out.below hb6 HZ5.out.lt)
      have HB6 : Hid (Below w.heap.size w w6) := (HB1.out.trans ((HB3.out.mono (by omega)).trans ((HB4.out.mono (by have := HB3.out.size; omega)).trans ((HB5.out.mono (by omega)).trans (hb6.mono (by have := HB3.out.size; have := HB4.out.size; omega))))))
      clear ho6 hb6 HNr HMr c1 HR5 HO5 HZ5 HB5
      go_wp2_with fail
      go_loopw [45] (fun i wr => i = .int .i64 0 ∧ wr = w6) (fun _ _ => 0)
      case atStart => exact ⟨rfl, rfl⟩
      case round =>
        obtain ⟨rfl, hw⟩ := hrel
        rw [hw]
        clear hw
        have x0 := HR6.out.cell 0 rfl
        have x1 := HR6.out.cell 1 rfl
        have x2 := HR6.out.cell 2 rfl
        have x3 := HR6.out.cell 3 rfl
        have b0 := HZ6.out.cell 0 rfl
        have b1 := HZ6.out.cell 1 rfl
        have b2 := HZ6.out.cell 2 rfl
        have b3 := HZ6.out.cell 3 rfl
        have y0 := HZ6.out.z 0
        have y1 := HZ6.out.z 1
        have y2 := HZ6.out.z 2
        have y3 := HZ6.out.z 3
        go_wp2_with fail
        generalize hW9 : World.setCell _ _ _ = W9
        have HR9 : Hid (Rec W9 w.heap.size #[.slice (some ⟨Y, 0, none⟩) 1 yc, .slice none 0 0, .int .i64 nn, .int .i64 nr] 25) := by rw [← hW9]; exact (((HZ6.out.set 0 _).set 1 _).set 2 _).set 3 _
        have HB9 : Hid (Below w.heap.size w W9) := by rw [← hW9]; exact (((HB6.out.setCell (Nat.le_refl _) _).setCell (Nat.le_refl _) _).setCell (Nat.le_refl _) _).setCell (Nat.le_refl _) _
        have HO9 : Hid (W9.ownsRow w4.heap.size 47 3 (.slice (some ⟨Y, 0, none⟩) 1 yc) 1 [.int .i64 k, .slice none 0 0, .slice none 0 0]) := by
          rw [← hW9]
          have h4 : w.heap.size < w4.heap.size := by have := HB3.out.size; have := HB4.out.size; omega
          exact row_keep HO6.out fun g hg _ => (Below.heap_setCell _ _ _ _ (by show g ≠ w.heap.size; omega)).trans ((Below.heap_setCell _ _ _ _ (by show g ≠ w.heap.size; omega)).trans ((Below.heap_setCell _ _ _ _ (by show g ≠ w.heap.size; omega)).trans (Below.heap_setCell _ _ _ _ (by show g ≠ w.heap.size; omega))))
        clear hW9
        have q0 := HR9.out.cell 0 rfl
        have q1 := HR9.out.cell 1 rfl
        have q2 := HR9.out.cell 2 rfl
        have q3 := HR9.out.cell 3 rfl
        have hcell : ∀ j u, ([.int .i64 k, .slice none 0 0, .slice none 0 0] : List Value)[j]? = some u → W9.cell? ⟨Y, j, none⟩ = some u := fun j u hj => by
          have := HO9.out.cells (g := Y) rfl j u hj
          have hadd : (⟨Y, 0, none⟩ : Addr).add j = ⟨Y, j, none⟩ := by unfold Addr.add; split <;> simp_all
          rwa [hadd] at this
        have hcap : 1 ≤ yc ∧ yc ≤ 9223372036854775807 := by
          rcases HO9.out.2 with ⟨_, h0⟩ | ⟨gb, gc, cur, h1, _, _, r1, r2, _⟩
          · simp at h0
          · injection h1 with _ _ h3
            subst h3
            exact ⟨r1, by unfold maxLen at r2; omega⟩
        refine bodyPost_ret (v := .agg #[.slice (some ⟨Y, 0, none⟩) 1 yc, .slice none 0 0, .int .i64 nn, .int .i64 nr]) ?_ rfl ⟨Y, yc, rfl, hcap.1, hcap.2, hcell 0 _ rfl, hcell 1 _ rfl, hcell 2 _ rfl, HB9.out⟩
        simp [results, Tryz.results52, go_sem, q0, q1, q2, q3]
set_option maxRecDepth 100000 in
set_option maxHeartbeats 8000000 in
theorem Tell_one {w : World} {p : GP} {nn nr id k : Int} {F T : List (Int × Value)} (h : GS w p nn nr [(id, .agg #[.int .i64 k, .slice none 0 0, .slice none 0 0])] [] F T) (hid : I64 id) :
    Calls Tryz.prog 19 #[p.val] w fun e w' => ∃ Z, e = .returned (.agg #[.slice (some ⟨Z, 0, none⟩) 1 1, .slice none 0 0, .int .i64 nn, .int .i64 nr]) ∧ Below w.heap.size w w' := by
  have HTh : Hid (∀ W, Below w.heap.size w W → Calls Tryz.prog 18 #[.pointer (some ⟨p.g, 0, none⟩)] W fun e w' => e = .returned (.bool true) ∧ w' = W) := fun W hW => there_yes (h.below hW)
  have HTl := hidE (fun W (hW : Below w.heap.size w W) => tell_one (h.below hW) hid)
  clear h
  unfold GP.val
  go_enter Tryz.func19, Tryz.ntmps19
  go_upto_region 1 with fail
  generalize hW1 : World.alloc _ _ = W1
  have HB1 : Hid (Below w.heap.size w W1) := by rw [← hW1]; exact (Below.refl _ _).alloc (Nat.le_refl _) _
  have HZ1 : Hid (Rec W1 w.heap.size #[.slice none 0 0, .slice none 0 0, .int .i64 0, .int .i64 0] 25) := by rw [← hW1]; exact rec_new _ _ _
  clear hW1
  go_wp2_with fail
  refine (HTh.out W1 HB1.out).mono ?_
  rintro e w2 ⟨rfl, hw2⟩
  rw [hw2]
  clear hw2
  go_wp2_with fail
  refine (HTl.out W1 HB1.out).mono ?_
  rintro e w3 ⟨Y, c, rfl, h1, h2, c0, c1, c2, hb3⟩
  have HB3 := hidE (below_on HB1.out hb3)
  have HZ3 := hidE (HZ1.out.below hb3 HZ1.out.lt)
  have HCo := hidE (copy_one k nn nr Y 0 c w3 h1 h2 c0 c1 c2)
  clear hb3 c0 c1 c2
  go_wp2_with fail
  refine HCo.out.mono ?_
  rintro e w4 ⟨Z, rfl, hb4⟩
  have HB4 := hidE (below_on HB3.out hb4)
  have HZ4 := hidE (HZ3.out.below hb4 HZ3.out.lt)
  clear hb4 HCo
  have b0 := HZ4.out.cell 0 rfl
  have b1 := HZ4.out.cell 1 rfl
  have b2 := HZ4.out.cell 2 rfl
  have b3 := HZ4.out.cell 3 rfl
  have y0 := HZ4.out.z 0
  have y1 := HZ4.out.z 1
  have y2 := HZ4.out.z 2
  have y3 := HZ4.out.z 3
  go_wp2_with fail
  generalize hW9 : World.setCell _ _ _ = W9
  have HR9 : Hid (Rec W9 w.heap.size #[.slice (some ⟨Z, 0, none⟩) 1 1, .slice none 0 0, .int .i64 nn, .int .i64 nr] 25) := by rw [← hW9]; exact (((HZ4.out.set 0 _).set 1 _).set 2 _).set 3 _
  have HB9 : Hid (Below w.heap.size w W9) := by rw [← hW9]; exact (((HB4.out.setCell (Nat.le_refl _) _).setCell (Nat.le_refl _) _).setCell (Nat.le_refl _) _).setCell (Nat.le_refl _) _
  clear hW9
  have q0 := HR9.out.cell 0 rfl
  have q1 := HR9.out.cell 1 rfl
  have q2 := HR9.out.cell 2 rfl
  have q3 := HR9.out.cell 3 rfl
  refine bodyPost_ret (v := .agg #[.slice (some ⟨Z, 0, none⟩) 1 1, .slice none 0 0, .int .i64 nn, .int .i64 nr]) ?_ rfl ⟨Z, rfl, HB9.out⟩
  simp [results, Tryz.results19, go_sem, q0, q1, q2, q3]
end Go.Proofs.YteddjlbfbpecjaaGreatDoor
