/- WordsGaps, walked. -/
import Derived.Test.YtbjcdpenfijfoaaGreatDoorJoin9
namespace Go.Proofs.YtbjcdpenfijfoaaGreatDoor
open Go.RowKit Go.Shelf Go.Lexed
set_option linter.unusedVariables false
set_option linter.unusedSimpArgs false
attribute [local go_sem] Oper.semAt_some
/-- Numbers lie in a slice. -/
def Lie1 (B : Nat) (w : World) (v : Value) (zs : List Int) : Prop :=
  ∃ ad cap, v = .slice ad zs.length cap ∧ zs.length ≤ cap ∧ cap ≤ 9223372036854775807 ∧ (zs = [] ∨ ∃ bl off, ad = some ⟨bl, off, none⟩ ∧ bl < B ∧ ∀ (j : Nat) (z : Int), zs[j]? = some z → w.cell? ⟨bl, off + j, none⟩ = some (.int .i64 z))
theorem Lie1.at {B : Nat} {w : World} {v : Value} {zs : List Int} (h : Lie1 B w v zs) {j : Nat} {z : Int} (hz : zs[j]? = some z) : ∃ bl off cap, v = .slice (some ⟨bl, off, none⟩) zs.length cap ∧ bl < B ∧ zs.length ≤ cap ∧ w.cell? ⟨bl, off + j, none⟩ = some (.int .i64 z) := by
  obtain ⟨ad, cap, h1, h2, h3, h4⟩ := h
  have hne : zs ≠ [] := by intro e; rw [e] at hz; simp at hz
  obtain ⟨bl, off, rfl, hl, hc⟩ := h4.resolve_left hne
  exact ⟨bl, off, cap, h1, hl, h2, hc _ _ hz⟩
def intCells (l : List Nat) : List Value := l.map fun n : Nat => Value.int .i64 (n : Int)
theorem Tryz.info3 : (Tryz.prog.info? 3).map (fun i => (i.zero, i.size, i.bytes)) = some (some (.int .i64 0), 1, 8) := by kernel_rfl
theorem one_word (w : World) (x : W4) : Lie4 (w.alloc (.cells #[.int .i64 x.k, .int .i64 x.i, .string x.t, .int .u64 x.n] 33)).heap.size (w.alloc (.cells #[.int .i64 x.k, .int .i64 x.i, .string x.t, .int .u64 x.n] 33)) (.slice (some ⟨w.heap.size, 0, none⟩) 1 1) [x] := by
  refine ⟨_, 1, rfl, Nat.le_refl _, by decide, .inr ⟨w.heap.size, 0, rfl, by simp, fun j u hj => ?_⟩⟩
  rw [Nat.zero_add]
  refine cell_new _ _ _ _ _ ?_
  simpa [cells4, W4.cells] using hj
theorem print_one (x : W4) (ht : x.t.size ≤ 4000) : (mayW Lib.validD x.wd = false ∧ printV [x] = .tuple #[.string ⟨#[]⟩, .int .i64 2]) ∨ (mayW Lib.validD x.wd = true ∧ printV [x] = .tuple #[.string (bsOf (tellW x.wd)), .int .i64 0]) := by
  cases h : mayW Lib.validD x.wd with
  | false => exact .inl ⟨rfl, printV_may (List.mem_singleton.2 rfl) h⟩
  | true =>
    have e : printW ([x].map W4.wd) = tellW x.wd := by simp [printW, tailW]
    have hl := tell_len Lib.validD x.wd h
    have hl2 : x.wd.text.length = x.t.size := rfl
    refine .inr ⟨rfl, ?_⟩
    rw [printV_ok (by simp [h]) (by rw [e]; omega), e]
theorem le_of_sum {xs : List W4} {x : W4} (hx : x ∈ xs) (h : (xs.map fun x => x.t.size).sum ≤ 4000) : x.t.size ≤ 4000 := by
  have := le_sum (List.mem_map.2 ⟨x, hx, rfl⟩ : x.t.size ∈ xs.map fun x => x.t.size)
  omega
theorem and_3 (z : Int) : ∃ g : Nat, g < 4 ∧ bits .and .i64 z 3 = (g : Int) := by
  unfold bits
  simp only [BitVec.toNat_and, BitVec.toNat_ofInt]
  have h : ((z % ((2 ^ IntKind.i64.bits : Nat) : Int)).toNat &&& (3 % ((2 ^ IntKind.i64.bits : Nat) : Int)).toNat) ≤ 3 := Nat.le_trans Nat.and_le_right (by decide)
  generalize ((z % ((2 ^ IntKind.i64.bits : Nat) : Int)).toNat &&& (3 % ((2 ^ IntKind.i64.bits : Nat) : Int)).toNat) = m at h
  refine ⟨m, by omega, ?_⟩
  match m, h with
  | 0, _ => decide
  | 1, _ => decide
  | 2, _ => decide
  | 3, _ => decide
theorem tx_app (L M : List UInt8) : bsOf L ++ bsOf M = bsOf (L ++ M) := by
  rw [← of_bs (bsOf L ++ bsOf M)]
  congr 1
theorem ints_snoc (l : List Nat) (n : Nat) : intCells (l ++ [n]) = intCells l ++ [.int .i64 (n : Int)] := by simp [intCells]
theorem row_cell {w : World} {base n q uc : Nat} {ua : Option Addr} {vs : List Value} {u : Value} (h : w.ownsRow base 3 1 (.slice ua n uc) n vs) (hq : vs[q]? = some u) : ∃ g, ua = some ⟨g, 0, none⟩ ∧ n ≤ uc ∧ w.cell? ⟨g, q, none⟩ = some u := by
  have h0 := h
  obtain ⟨g1, ⟨g2, g3⟩ | ⟨g, cap, cur, g2, g3, g4, g5⟩⟩ := h
  · subst g3
    have : vs = [] := List.eq_nil_of_length_eq_zero (by simpa using g1)
    rw [this] at hq; simp at hq
  · cases g2
    have := h0.cells (g := g) rfl q u hq
    have hadd : (⟨g, 0, none⟩ : Addr).add q = ⟨g, q, none⟩ := by unfold Addr.add; split <;> simp_all
    rw [hadd] at this
    exact ⟨g, rfl, g5.1, this⟩
structure LaidG (xs : List W4) (j : Nat) (prs : List (List UInt8 × Wd)) : Prop where
  words : prs.map (·.2) = (xs.take j).map W4.wd
  gaps : ∀ p ∈ prs, Gap p.1 ∧ p.1.length ≤ 12 ∧ mayW Lib.validD p.2 = true
theorem sum_take : ∀ (l : List Nat) (j : Nat), (l.take j).sum ≤ l.sum
  | [], j => by simp
  | a :: l, 0 => by simp
  | a :: l, j + 1 => by have := sum_take l j; simp; omega
theorem LaidG.len {xs : List W4} {j : Nat} {prs : List (List UInt8 × Wd)} (h : LaidG xs j prs) (hx : xs.length ≤ 200) (hs : (xs.map fun x => x.t.size).sum ≤ 4000) : (laidW prs []).length ≤ 30400 := by
  have h1 := laid_bulk prs (fun p hp => (h.gaps p hp).2.1) (fun p hp => (h.gaps p hp).2.2)
  rw [h.words] at h1
  have h2 : prs.length ≤ 200 := by
    have := congrArg List.length h.words
    rw [List.length_map, List.length_map, List.length_take] at this
    omega
  have h3 := sum_take (xs.map fun x => x.t.size) j
  rw [← List.map_take] at h3
  have e : ((xs.take j).map W4.wd).map (fun d => d.text.length) = (xs.take j).map fun x => x.t.size := by
    rw [List.map_map]; rfl
  rw [e] at h1
  omega
theorem LaidG.snoc {xs : List W4} {j : Nat} {prs : List (List UInt8 × Wd)} (h : LaidG xs j prs) {x : W4} (hx : xs[j]? = some x) (hm : mayW Lib.validD x.wd = true) (g : Nat) : LaidG xs (j + 1) (prs ++ [(gapX g, x.wd)]) := by
  refine ⟨?_, fun p hp => ?_⟩
  · rw [List.take_add_one, hx]; simp [h.words]
  · rcases List.mem_append.1 hp with hp | hp
    · exact h.gaps p hp
    · simp only [List.mem_singleton] at hp
      subst hp
      exact ⟨gapX_gap g, gapX_len g, hm⟩
set_option maxRecDepth 100000 in
set_option maxHeartbeats 4000000 in
theorem gaps_walk (v : Value) (xs : List W4) (u : Value) (zs : List Int) (w : World) (hE : Env w) (hx : Lie4 w.heap.size w v xs) (hn : ∀ x ∈ xs, 0 ≤ x.n ∧ x.n < 18446744073709551616) (hz : Lie1 w.heap.size w u zs) : Calls Tryz.prog 8 #[v, u] w fun e w' => e = .returned (.bool true) ∧ Below w.heap.size w w' := by
  have HE := hidE hE
  have h8 := hE.room
  have HX := hidE hx
  have HN := hidE hn
  have HZ := hidE hz
  clear hE hx hn hz
  have HW := hidE (fun w1 (h : Below w.heap.size w w1) => works_any w1 (HE.out.below h h8))
  have HSm := hidE (small_sum xs v w HX.out)
  obtain ⟨ad1, cp1, rfl, l1, m1, -⟩ := HX.out
  obtain ⟨ad2, cp2, rfl, l2, m2, -⟩ := HZ.out
  go_enter Tryz.func8, Tryz.ntmps8
  go_wp2_with fail
  refine HSm.out.mono ?_
  rintro e W ⟨b, rfl, rfl, hb⟩
  cases b with
  | false =>
    clear hb
    go_wp2_with fail
    refine (HW.out _ (Below.refl _ _)).mono ?_
    rintro e w1 ⟨rfl, hb1⟩
    go_wp2_with fail
    go_ret
    exact ⟨rfl, hb1⟩
  | true =>
    obtain ⟨hx200, hxs⟩ := hb rfl
    have HXS := hidE hxs
    clear hb hxs HSm
    go_wp2_with fail
    go_loopw [5, 6, 7] (fun s r i wr => ∃ (j : Nat) (prs : List (List UInt8 × Wd)), j ≤ xs.length ∧ i = .int .i64 j ∧ LaidG xs j prs ∧ s = .string (bsOf (laidW prs [])) ∧ Below W.heap.size W wr ∧ wr.ownsRow W.heap.size 3 1 r j (intCells (atsW 0 prs))) (fun _ _ i _ => xs.length - (intOf i).toNat)
    case atStart => exact ⟨0, [], Nat.zero_le _, rfl, ⟨rfl, fun p hp => by simp at hp⟩, rfl, Below.refl _ _, World.ownsRow_nil _ _ _ _⟩
    case round =>
      obtain ⟨j, prs, hj, rfl, hla, rfl, hbr, hrow⟩ := hrel
      have HLA := hidE hla
      have HB := hidE hbr
      have HR := hidE hrow
      clear hla hbr hrow
      by_cases hlt : j < xs.length
      · have hlt' : (j : Int) < xs.length := by omega
        obtain ⟨x, hxj⟩ : ∃ x, xs[j]? = some x := ⟨_, List.getElem?_eq_getElem hlt⟩
        obtain ⟨bl1, off1, cap1, hv1, hbl1, _, c0, c1, c2, c3⟩ := (HX.out.below HB.out (Nat.le_refl _)).at hxj
        cases hv1
        have hxm := List.mem_of_getElem? hxj
        have HXJ := hidE hxj
        have HTX := hidE (le_of_sum hxm HXS.out)
        have HNX := hidE (HN.out x hxm)
        clear hxj hxm
        obtain ⟨T, hT⟩ : ∃ T, bsOf (laidW prs []) = T := ⟨_, rfl⟩
        have HTT := hidE hT
        have hTs : T.size ≤ 30400 := by rw [← hT, bsOf_size]; exact HLA.out.len hx200 HXS.out
        rw [hT]
        clear hT
        have HO := hidE (one_word wr x)
        obtain ⟨W1, hW1⟩ : ∃ W1, wr.alloc (.cells #[.int .i64 x.k, .int .i64 x.i, .string x.t, .int .u64 x.n] 33) = W1 := ⟨_, rfl⟩
        rw [hW1] at HO
        have hba : Below wr.heap.size wr W1 := by rw [← hW1]; exact (Below.refl _ _).alloc (Nat.le_refl _) _
        have HB1 := hidE (below_on HB.out hba)
        have HR1 : Hid (W1.ownsRow W.heap.size 3 1 u6 j (intCells (atsW 0 prs))) := row_keep HR.out fun g _ hg => hba.block g hg
        have HP := hidE (print_any _ [x] (fun y hy => by rw [List.mem_singleton.1 hy]; exact ⟨HNX.out.1, HNX.out.2, by have := HTX.out; omega⟩) W1 (HE.out.below HB1.out h8) HO.out)
        have HW1 := hidE hW1
        clear hba hW1 HO
        go_wp2_with fail
        rw [HW1.out]
        rcases print_one x HTX.out with ⟨hm, hpv⟩ | ⟨hm, hpv⟩
        · rw [hpv] at HP
          clear hpv
          refine HP.out.mono ?_
          rintro e w2 ⟨rfl, hb2⟩
          have HB2 := hidE (below_on HB1.out hb2)
          clear hb2 c0 c1 c2 c3
          go_wp2_with fail
          refine (num_any _ _).mono ?_
          rintro e W' ⟨rfl, rfl⟩
          go_wp2_with fail
          refine (HW.out _ HB2.out).mono ?_
          rintro e w3 ⟨rfl, hb3⟩
          have HB3 := hidE (below_on HB2.out hb3)
          clear hb3
          go_wp2_with fail
          go_ret
          exact ⟨rfl, HB3.out⟩
        · rw [hpv] at HP
          clear hpv
          refine HP.out.mono ?_
          rintro e w2 ⟨rfl, hb2⟩
          have HB2 := hidE (below_on HB1.out hb2)
          have HR2 : Hid (w2.ownsRow W.heap.size 3 1 u6 j (intCells (atsW 0 prs))) := row_keep HR1.out fun g _ hg => hb2.block g hg
          have HM := hidE hm
          have hss : (bsOf (tellW x.wd)).size ≤ 24020 := by
            rw [bsOf_size]
            have h1 := tell_len Lib.validD x.wd hm
            have h2 : x.wd.text.length = x.t.size := rfl
            have := HTX.out
            omega
          clear hb2 c0 c1 c2 c3 hm HP HR1 HR HB1 HB
          go_wp2_with fail
          refine (num_any _ _).mono ?_
          rintro e W' ⟨rfl, rfl⟩
          by_cases hgz : j < zs.length
          · have hgz' : (j : Int) < zs.length := by omega
            obtain ⟨z, hzj⟩ : ∃ z, zs[j]? = some z := ⟨_, List.getElem?_eq_getElem hgz⟩
            obtain ⟨bl2, off2, cap2, hv2, hbl2, _, d0⟩ := HZ.out.at hzj
            cases hv2
            have d1 := (HB2.out.cell (p := ⟨bl2, off2 + j, none⟩) hbl2).trans d0
            obtain ⟨g, hg4, hg⟩ := and_3 z
            clear d0
            go_upto_region 14 with fail
            clear hg d1 hzj
            match g, hg4 with
            | 0, _ =>
              go_upto_region 15 with fail
              generalize hW3 : World.alloc _ _ = W3
              have hba3 : Below W'.heap.size W' W3 := by rw [← hW3]; exact (Below.refl _ _).alloc (Nat.le_refl _) _
              have HB3 := hidE (below_on HB2.out hba3)
              have HR3 : Hid (W3.ownsRow W.heap.size 3 1 u6 j (intCells (atsW 0 prs))) := row_keep HR2.out fun g _ hg => hba3.block g hg
              have hT2 : T ++ ⟨#[32]⟩ = bsOf (laidW prs [] ++ gapX 0) := by rw [← HTT.out]; exact tx_app _ _
              rw [hT2]
              obtain ⟨T2, hT2'⟩ : ∃ T2, bsOf (laidW prs [] ++ gapX 0) = T2 := ⟨_, rfl⟩
              have HT2 := hidE hT2'
              rw [hT2']
              have hs3 : W.heap.size ≤ W3.heap.size := HB3.out.size
              have hT2s : T2.size ≤ 40000 := by
                rw [← hT2', bsOf_size, List.length_append]
                have := HLA.out.len hx200 HXS.out
                have := gapX_len 0
                omega
              clear hT2 hT2' hW3 hba3 HB2 HR2
              obtain ⟨ua, uc, rfl⟩ := row_slice HR3.out
              obtain ⟨i0, hi, hz0, hz1, hz2⟩ := info_parts Tryz.info3
              go_upto_region 16 with (at_builtin; refine wpList_append_own _ rfl _ _ 51 rfl W.heap.size 3 i0 (.int .i64 0) 1 8 Tryz.underlying51 hi hz0 hz1 hz2 rfl (by decide) _ _ _ rfl (row_keep HR3.out fun g _ hg => Below.heap_alloc _ _ _ hg) ⟨W3.heap.size, 0, none⟩ 1 1 [.int .i64 (T2.size : Int)] rfl rfl ?d1 ?d2 ?d3 ?d4 ?d5 ?_)
              case d1 =>
                intro q u hq
                have hadd : (⟨W3.heap.size, 0, none⟩ : Addr).add q = ⟨W3.heap.size, q, none⟩ := by unfold Addr.add; split <;> simp_all
                rw [hadd]
                refine cell_new _ _ _ _ _ ?_
                simpa using hq
              case d2 => intro u hu; simp only [List.mem_cons, List.not_mem_nil, or_false] at hu; subst hu; rfl
              case d3 => unfold maxLen; omega
              case d4 => omega
              case d5 => simp; omega
              intro v4 w4 hown4 hgrow4 _
              have HB4 : Hid (Below W.heap.size W w4) := (HB3.out.alloc hs3 _).trans (row_grown (row_keep HR3.out fun g _ hg => Below.heap_alloc _ _ _ hg) (by simp; omega) hgrow4)
              have HR4 : Hid (w4.ownsRow W.heap.size 3 1 v4 (j + 1) (intCells (atsW 0 (prs ++ [(gapX 0, x.wd)])))) := by
                rw [ats_snoc, ints_snoc]
                have e : 0 + (laidW prs []).length + (gapX 0).length = T2.size := by rw [← HT2.out, bsOf_size, List.length_append]; omega
                rw [e]
                exact hown4
              clear hown4 hgrow4 HR3 HB3
              obtain ⟨ub, ud, rfl⟩ := row_slice HR4.out
              have hT4 : T2 ++ bsOf (tellW x.wd) = bsOf (laidW (prs ++ [(gapX 0, x.wd)]) []) := by rw [laid_snoc, ← HT2.out]; exact tx_app _ _
              go_wp2_with fail
              go_roundw
              case rel => exact ⟨j + 1, prs ++ [(gapX 0, x.wd)], by omega, by go_num, HLA.out.snoc HXJ.out HM.out 0, rfl, HB4.out, HR4.out⟩
              case measure => simp [intOf]; omega
            | 1, _ =>
              go_upto_region 15 with fail
              generalize hW3 : World.alloc _ _ = W3
              have hba3 : Below W'.heap.size W' W3 := by rw [← hW3]; exact (Below.refl _ _).alloc (Nat.le_refl _) _
              have HB3 := hidE (below_on HB2.out hba3)
              have HR3 : Hid (W3.ownsRow W.heap.size 3 1 u6 j (intCells (atsW 0 prs))) := row_keep HR2.out fun g _ hg => hba3.block g hg
              have hT2 : T ++ ⟨#[10]⟩ = bsOf (laidW prs [] ++ gapX 1) := by rw [← HTT.out]; exact tx_app _ _
              rw [hT2]
              obtain ⟨T2, hT2'⟩ : ∃ T2, bsOf (laidW prs [] ++ gapX 1) = T2 := ⟨_, rfl⟩
              have HT2 := hidE hT2'
              rw [hT2']
              have hs3 : W.heap.size ≤ W3.heap.size := HB3.out.size
              have hT2s : T2.size ≤ 40000 := by
                rw [← hT2', bsOf_size, List.length_append]
                have := HLA.out.len hx200 HXS.out
                have := gapX_len 1
                omega
              clear hT2 hT2' hW3 hba3 HB2 HR2
              obtain ⟨ua, uc, rfl⟩ := row_slice HR3.out
              obtain ⟨i0, hi, hz0, hz1, hz2⟩ := info_parts Tryz.info3
              go_upto_region 16 with (at_builtin; refine wpList_append_own _ rfl _ _ 51 rfl W.heap.size 3 i0 (.int .i64 0) 1 8 Tryz.underlying51 hi hz0 hz1 hz2 rfl (by decide) _ _ _ rfl (row_keep HR3.out fun g _ hg => Below.heap_alloc _ _ _ hg) ⟨W3.heap.size, 0, none⟩ 1 1 [.int .i64 (T2.size : Int)] rfl rfl ?d1 ?d2 ?d3 ?d4 ?d5 ?_)
              case d1 =>
                intro q u hq
                have hadd : (⟨W3.heap.size, 0, none⟩ : Addr).add q = ⟨W3.heap.size, q, none⟩ := by unfold Addr.add; split <;> simp_all
                rw [hadd]
                refine cell_new _ _ _ _ _ ?_
                simpa using hq
              case d2 => intro u hu; simp only [List.mem_cons, List.not_mem_nil, or_false] at hu; subst hu; rfl
              case d3 => unfold maxLen; omega
              case d4 => omega
              case d5 => simp; omega
              intro v4 w4 hown4 hgrow4 _
              have HB4 : Hid (Below W.heap.size W w4) := (HB3.out.alloc hs3 _).trans (row_grown (row_keep HR3.out fun g _ hg => Below.heap_alloc _ _ _ hg) (by simp; omega) hgrow4)
              have HR4 : Hid (w4.ownsRow W.heap.size 3 1 v4 (j + 1) (intCells (atsW 0 (prs ++ [(gapX 1, x.wd)])))) := by
                rw [ats_snoc, ints_snoc]
                have e : 0 + (laidW prs []).length + (gapX 1).length = T2.size := by rw [← HT2.out, bsOf_size, List.length_append]; omega
                rw [e]
                exact hown4
              clear hown4 hgrow4 HR3 HB3
              obtain ⟨ub, ud, rfl⟩ := row_slice HR4.out
              have hT4 : T2 ++ bsOf (tellW x.wd) = bsOf (laidW (prs ++ [(gapX 1, x.wd)]) []) := by rw [laid_snoc, ← HT2.out]; exact tx_app _ _
              go_wp2_with fail
              go_roundw
              case rel => exact ⟨j + 1, prs ++ [(gapX 1, x.wd)], by omega, by go_num, HLA.out.snoc HXJ.out HM.out 1, rfl, HB4.out, HR4.out⟩
              case measure => simp [intOf]; omega
            | 2, _ =>
              go_upto_region 15 with fail
              generalize hW3 : World.alloc _ _ = W3
              have hba3 : Below W'.heap.size W' W3 := by rw [← hW3]; exact (Below.refl _ _).alloc (Nat.le_refl _) _
              have HB3 := hidE (below_on HB2.out hba3)
              have HR3 : Hid (W3.ownsRow W.heap.size 3 1 u6 j (intCells (atsW 0 prs))) := row_keep HR2.out fun g _ hg => hba3.block g hg
              have hT2 : T ++ ⟨#[32, 47, 42, 32, 39, 32, 47, 47, 32, 42, 42, 47]⟩ = bsOf (laidW prs [] ++ gapX 2) := by rw [← HTT.out]; exact tx_app _ _
              rw [hT2]
              obtain ⟨T2, hT2'⟩ : ∃ T2, bsOf (laidW prs [] ++ gapX 2) = T2 := ⟨_, rfl⟩
              have HT2 := hidE hT2'
              rw [hT2']
              have hs3 : W.heap.size ≤ W3.heap.size := HB3.out.size
              have hT2s : T2.size ≤ 40000 := by
                rw [← hT2', bsOf_size, List.length_append]
                have := HLA.out.len hx200 HXS.out
                have := gapX_len 2
                omega
              clear hT2 hT2' hW3 hba3 HB2 HR2
              obtain ⟨ua, uc, rfl⟩ := row_slice HR3.out
              obtain ⟨i0, hi, hz0, hz1, hz2⟩ := info_parts Tryz.info3
              go_upto_region 16 with (at_builtin; refine wpList_append_own _ rfl _ _ 51 rfl W.heap.size 3 i0 (.int .i64 0) 1 8 Tryz.underlying51 hi hz0 hz1 hz2 rfl (by decide) _ _ _ rfl (row_keep HR3.out fun g _ hg => Below.heap_alloc _ _ _ hg) ⟨W3.heap.size, 0, none⟩ 1 1 [.int .i64 (T2.size : Int)] rfl rfl ?d1 ?d2 ?d3 ?d4 ?d5 ?_)
              case d1 =>
                intro q u hq
                have hadd : (⟨W3.heap.size, 0, none⟩ : Addr).add q = ⟨W3.heap.size, q, none⟩ := by unfold Addr.add; split <;> simp_all
                rw [hadd]
                refine cell_new _ _ _ _ _ ?_
                simpa using hq
              case d2 => intro u hu; simp only [List.mem_cons, List.not_mem_nil, or_false] at hu; subst hu; rfl
              case d3 => unfold maxLen; omega
              case d4 => omega
              case d5 => simp; omega
              intro v4 w4 hown4 hgrow4 _
              have HB4 : Hid (Below W.heap.size W w4) := (HB3.out.alloc hs3 _).trans (row_grown (row_keep HR3.out fun g _ hg => Below.heap_alloc _ _ _ hg) (by simp; omega) hgrow4)
              have HR4 : Hid (w4.ownsRow W.heap.size 3 1 v4 (j + 1) (intCells (atsW 0 (prs ++ [(gapX 2, x.wd)])))) := by
                rw [ats_snoc, ints_snoc]
                have e : 0 + (laidW prs []).length + (gapX 2).length = T2.size := by rw [← HT2.out, bsOf_size, List.length_append]; omega
                rw [e]
                exact hown4
              clear hown4 hgrow4 HR3 HB3
              obtain ⟨ub, ud, rfl⟩ := row_slice HR4.out
              have hT4 : T2 ++ bsOf (tellW x.wd) = bsOf (laidW (prs ++ [(gapX 2, x.wd)]) []) := by rw [laid_snoc, ← HT2.out]; exact tx_app _ _
              go_wp2_with fail
              go_roundw
              case rel => exact ⟨j + 1, prs ++ [(gapX 2, x.wd)], by omega, by go_num, HLA.out.snoc HXJ.out HM.out 2, rfl, HB4.out, HR4.out⟩
              case measure => simp [intOf]; omega
            | 3, _ =>
              go_upto_region 15 with fail
              generalize hW3 : World.alloc _ _ = W3
              have hba3 : Below W'.heap.size W' W3 := by rw [← hW3]; exact (Below.refl _ _).alloc (Nat.le_refl _) _
              have HB3 := hidE (below_on HB2.out hba3)
              have HR3 : Hid (W3.ownsRow W.heap.size 3 1 u6 j (intCells (atsW 0 prs))) := row_keep HR2.out fun g _ hg => hba3.block g hg
              have hT2 : T ++ ⟨#[9, 13, 32, 47, 47, 32, 97, 34, 91, 47, 42, 10]⟩ = bsOf (laidW prs [] ++ gapX 3) := by rw [← HTT.out]; exact tx_app _ _
              rw [hT2]
              obtain ⟨T2, hT2'⟩ : ∃ T2, bsOf (laidW prs [] ++ gapX 3) = T2 := ⟨_, rfl⟩
              have HT2 := hidE hT2'
              rw [hT2']
              have hs3 : W.heap.size ≤ W3.heap.size := HB3.out.size
              have hT2s : T2.size ≤ 40000 := by
                rw [← hT2', bsOf_size, List.length_append]
                have := HLA.out.len hx200 HXS.out
                have := gapX_len 3
                omega
              clear hT2 hT2' hW3 hba3 HB2 HR2
              obtain ⟨ua, uc, rfl⟩ := row_slice HR3.out
              obtain ⟨i0, hi, hz0, hz1, hz2⟩ := info_parts Tryz.info3
              go_upto_region 16 with (at_builtin; refine wpList_append_own _ rfl _ _ 51 rfl W.heap.size 3 i0 (.int .i64 0) 1 8 Tryz.underlying51 hi hz0 hz1 hz2 rfl (by decide) _ _ _ rfl (row_keep HR3.out fun g _ hg => Below.heap_alloc _ _ _ hg) ⟨W3.heap.size, 0, none⟩ 1 1 [.int .i64 (T2.size : Int)] rfl rfl ?d1 ?d2 ?d3 ?d4 ?d5 ?_)
              case d1 =>
                intro q u hq
                have hadd : (⟨W3.heap.size, 0, none⟩ : Addr).add q = ⟨W3.heap.size, q, none⟩ := by unfold Addr.add; split <;> simp_all
                rw [hadd]
                refine cell_new _ _ _ _ _ ?_
                simpa using hq
              case d2 => intro u hu; simp only [List.mem_cons, List.not_mem_nil, or_false] at hu; subst hu; rfl
              case d3 => unfold maxLen; omega
              case d4 => omega
              case d5 => simp; omega
              intro v4 w4 hown4 hgrow4 _
              have HB4 : Hid (Below W.heap.size W w4) := (HB3.out.alloc hs3 _).trans (row_grown (row_keep HR3.out fun g _ hg => Below.heap_alloc _ _ _ hg) (by simp; omega) hgrow4)
              have HR4 : Hid (w4.ownsRow W.heap.size 3 1 v4 (j + 1) (intCells (atsW 0 (prs ++ [(gapX 3, x.wd)])))) := by
                rw [ats_snoc, ints_snoc]
                have e : 0 + (laidW prs []).length + (gapX 3).length = T2.size := by rw [← HT2.out, bsOf_size, List.length_append]; omega
                rw [e]
                exact hown4
              clear hown4 hgrow4 HR3 HB3
              obtain ⟨ub, ud, rfl⟩ := row_slice HR4.out
              have hT4 : T2 ++ bsOf (tellW x.wd) = bsOf (laidW (prs ++ [(gapX 3, x.wd)]) []) := by rw [laid_snoc, ← HT2.out]; exact tx_app _ _
              go_wp2_with fail
              go_roundw
              case rel => exact ⟨j + 1, prs ++ [(gapX 3, x.wd)], by omega, by go_num, HLA.out.snoc HXJ.out HM.out 3, rfl, HB4.out, HR4.out⟩
              case measure => simp [intOf]; omega
          · have hgz' : ¬ (j : Int) < zs.length := by omega
            go_upto_region 15 with fail
            generalize hW3 : World.alloc _ _ = W3
            have hba3 : Below W'.heap.size W' W3 := by rw [← hW3]; exact (Below.refl _ _).alloc (Nat.le_refl _) _
            have HB3 := hidE (below_on HB2.out hba3)
            have HR3 : Hid (W3.ownsRow W.heap.size 3 1 u6 j (intCells (atsW 0 prs))) := row_keep HR2.out fun g _ hg => hba3.block g hg
            have hT2 : T ++ ⟨#[32]⟩ = bsOf (laidW prs [] ++ gapX 0) := by rw [← HTT.out]; exact tx_app _ _
            rw [hT2]
            obtain ⟨T2, hT2'⟩ : ∃ T2, bsOf (laidW prs [] ++ gapX 0) = T2 := ⟨_, rfl⟩
            have HT2 := hidE hT2'
            rw [hT2']
            have hs3 : W.heap.size ≤ W3.heap.size := HB3.out.size
            have hT2s : T2.size ≤ 40000 := by
              rw [← hT2', bsOf_size, List.length_append]
              have := HLA.out.len hx200 HXS.out
              have := gapX_len 0
              omega
            clear hT2 hT2' hW3 hba3 HB2 HR2
            obtain ⟨ua, uc, rfl⟩ := row_slice HR3.out
            obtain ⟨i0, hi, hz0, hz1, hz2⟩ := info_parts Tryz.info3
            go_upto_region 16 with (at_builtin; refine wpList_append_own _ rfl _ _ 51 rfl W.heap.size 3 i0 (.int .i64 0) 1 8 Tryz.underlying51 hi hz0 hz1 hz2 rfl (by decide) _ _ _ rfl (row_keep HR3.out fun g _ hg => Below.heap_alloc _ _ _ hg) ⟨W3.heap.size, 0, none⟩ 1 1 [.int .i64 (T2.size : Int)] rfl rfl ?d1 ?d2 ?d3 ?d4 ?d5 ?_)
            case d1 =>
              intro q u hq
              have hadd : (⟨W3.heap.size, 0, none⟩ : Addr).add q = ⟨W3.heap.size, q, none⟩ := by unfold Addr.add; split <;> simp_all
              rw [hadd]
              refine cell_new _ _ _ _ _ ?_
              simpa using hq
            case d2 => intro u hu; simp only [List.mem_cons, List.not_mem_nil, or_false] at hu; subst hu; rfl
            case d3 => unfold maxLen; omega
            case d4 => omega
            case d5 => simp; omega
            intro v4 w4 hown4 hgrow4 _
            have HB4 : Hid (Below W.heap.size W w4) := (HB3.out.alloc hs3 _).trans (row_grown (row_keep HR3.out fun g _ hg => Below.heap_alloc _ _ _ hg) (by simp; omega) hgrow4)
            have HR4 : Hid (w4.ownsRow W.heap.size 3 1 v4 (j + 1) (intCells (atsW 0 (prs ++ [(gapX 0, x.wd)])))) := by
              rw [ats_snoc, ints_snoc]
              have e : 0 + (laidW prs []).length + (gapX 0).length = T2.size := by rw [← HT2.out, bsOf_size, List.length_append]; omega
              rw [e]
              exact hown4
            clear hown4 hgrow4 HR3 HB3
            obtain ⟨ub, ud, rfl⟩ := row_slice HR4.out
            have hT4 : T2 ++ bsOf (tellW x.wd) = bsOf (laidW (prs ++ [(gapX 0, x.wd)]) []) := by rw [laid_snoc, ← HT2.out]; exact tx_app _ _
            go_wp2_with fail
            go_roundw
            case rel => exact ⟨j + 1, prs ++ [(gapX 0, x.wd)], by omega, by go_num, HLA.out.snoc HXJ.out HM.out 0, rfl, HB4.out, HR4.out⟩
            case measure => simp [intOf]; omega
      · have hlt' : ¬ (j : Int) < xs.length := by omega
        have hjx : j = xs.length := by omega
        subst hjx
        have hre := laid_read prs (fun p hp => (HLA.out.gaps p hp).1) (fun p hp => (HLA.out.gaps p hp).2.2)
        have hwd := HLA.out.words
        rw [List.take_length] at hwd
        have hln := HLA.out.len hx200 HXS.out
        obtain ⟨⟨hr1, hr2, hr3⟩, hr4, hr5⟩ := hre
        rw [hwd] at hr2
        obtain ⟨S1, hS1⟩ : ∃ S, bsOf (laidW prs [] ++ [10, 32, 47, 47]) = S := ⟨_, rfl⟩
        obtain ⟨S2, hS2⟩ : ∃ S, bsOf (laidW prs [] ++ [32, 35]) = S := ⟨_, rfl⟩
        obtain ⟨S3, hS3⟩ : ∃ S, bsOf (laidW prs [] ++ [32, 47, 42, 32, 42]) = S := ⟨_, rfl⟩
        have hz1 : S1.size = (laidW prs []).length + 4 := by rw [← hS1, bsOf_size, List.length_append]; rfl
        have hz2 : S2.size = (laidW prs []).length + 2 := by rw [← hS2, bsOf_size, List.length_append]; rfl
        have hz3 : S3.size = (laidW prs []).length + 5 := by rw [← hS3, bsOf_size, List.length_append]; rfl
        have e1 : bsOf (laidW prs []) ++ ⟨#[10, 32, 47, 47]⟩ = S1 := by rw [← hS1]; exact tx_app _ _
        have e2 : bsOf (laidW prs []) ++ ⟨#[32, 35]⟩ = S2 := by rw [← hS2]; exact tx_app _ _
        have e3 : bsOf (laidW prs []) ++ ⟨#[32, 47, 42, 32, 42]⟩ = S3 := by rw [← hS3]; exact tx_app _ _
        rw [hS1] at hr1 hr2 hr3
        rw [hS2] at hr4
        rw [hS3] at hr5
        have HLx1 := hidE (fun w1 (h : Below W.heap.size W w1) => lex_any S1 (by omega) w1 (HE.out.below h h8))
        have HLx2 := hidE (fun w1 (h : Below W.heap.size W w1) => lex_any S2 (by omega) w1 (HE.out.below h h8))
        have HLx3 := hidE (fun w1 (h : Below W.heap.size W w1) => lex_any S3 (by omega) w1 (HE.out.below h h8))
        have HSa : Hid (sameB (lw S1) xs = true) := sameB_of hr2 (lw_may S1) (fun x hx => (lw_fine S1 (by omega) x hx).1) (fun x hx => (HN.out x hx).1)
        have HLn : Hid ((lw S1).length = xs.length) := by have := congrArg List.length hr2; rw [List.length_map, List.length_map] at this; exact this
        have HAt : Hid (∀ (q : Nat) (x : W4), (lw S1)[q]? = some x → (intCells (atsW 0 prs))[q]? = some (.int .i64 x.i)) := by
          intro q x hq
          have h1 : ((lw S1).map W4.i)[q]? = some x.i := by rw [List.getElem?_map, hq]; rfl
          rw [hr3, List.getElem?_map] at h1
          obtain ⟨m, hm1, hm2⟩ := Option.map_eq_some_iff.1 h1
          unfold intCells
          rw [List.getElem?_map, hm1, Option.map_some, hm2]
        obtain ⟨T, hT⟩ : ∃ T, bsOf (laidW prs []) = T := ⟨_, rfl⟩
        have hTs : T.size = (laidW prs []).length := by rw [← hT, bsOf_size]
        rw [hT] at e1 e2 e3 ⊢
        have HO1 := hidE hr1
        have HO2 := hidE hr4
        have HO3 := hidE hr5
        obtain ⟨LL, hLL⟩ : ∃ n, (laidW prs []).length = n := ⟨_, rfl⟩
        rw [hLL] at hz1 hz2 hz3 hTs hln
        clear hr1 hr2 hr3 hr4 hr5 hS1 hS2 hS3 hwd hT hLL HLA hj hlt
        go_wp2_with fail
        refine (HLx1.out _ HB.out).mono ?_
        rintro e w1 ⟨hb1, ⟨ho1, v1, rfl, hl1⟩ | ⟨j1, hj1, ho1, _⟩⟩
        · have HB1 := hidE (below_on HB.out hb1)
          have HL1 : Hid (Lie4 w1.heap.size w1 v1 (lw S1)) := hl1
          have HR1 : Hid (w1.ownsRow W.heap.size 3 1 u6 xs.length (intCells (atsW 0 prs))) := row_keep HR.out fun g _ hg => hb1.block g hg
          have HXX : Hid (Lie4 w1.heap.size w1 (.slice ad1 xs.length cp1) xs) := (HX.out.below HB1.out (Nat.le_refl _)).mono HB1.out.size
          have hln1 := HLn.out
          obtain ⟨ad3, cp3, rfl, l3, m3, -⟩ := hl1
          rw [show ((lexP S1).map toW4).length = xs.length from hln1] at HL1 l3 ⊢
          clear hb1 ho1 hln1 HR HB
          go_wp2_with fail
          refine (num_any _ _).mono ?_
          rintro e W' ⟨rfl, rfl⟩
          go_wp2_with fail
          refine (same_any (lw S1) xs _ _ _ HL1.out HXX.out).mono ?_
          rw [HSa.out]
          rintro e w2 ⟨rfl, hb2⟩
          have HB2 := hidE (below_on HB1.out hb2)
          have HL2 : Hid (Lie4 W'.heap.size w2 (.slice ad3 xs.length cp3) (lw S1)) := HL1.out.below hb2 (Nat.le_refl _)
          have HR2 : Hid (w2.ownsRow W.heap.size 3 1 u6 xs.length (intCells (atsW 0 prs))) := row_keep HR1.out fun g _ hg => hb2.block g hg
          clear hb2 HL1 HR1 HB1 HXX
          obtain ⟨ua, uc, rfl⟩ := row_slice HR2.out
          go_wp2_with fail
          go_loopw [14] (fun i wr => ∃ q : Nat, q ≤ xs.length ∧ i = .int .i64 q ∧ Below W.heap.size W wr ∧ Lie4 W'.heap.size wr (.slice ad3 xs.length cp3) (lw S1) ∧ wr.ownsRow W.heap.size 3 1 (.slice ua xs.length uc) xs.length (intCells (atsW 0 prs))) (fun i _ => xs.length - (intOf i).toNat)
          case atStart => exact ⟨0, Nat.zero_le _, rfl, HB2.out, HL2.out, HR2.out⟩
          case round =>
            obtain ⟨q, hq, rfl, hbq, hlq, hrq⟩ := hrel
            have HBq := hidE hbq
            have HLq := hidE hlq
            have HRq := hidE hrq
            clear hbq hlq hrq
            by_cases hqx : q < xs.length
            · have hqx' : (q : Int) < xs.length := by omega
              obtain ⟨x, hxq⟩ : ∃ x, (lw S1)[q]? = some x := ⟨_, List.getElem?_eq_getElem (by rw [HLn.out]; exact hqx)⟩
              obtain ⟨bl4, off4, cap4, hv4, hbl4, _, c0, c1, c2, c3⟩ := HLq.out.at hxq
              obtain ⟨g, rfl, hgc, d1⟩ := row_cell HRq.out (HAt.out q x hxq)
              simp only [Value.slice.injEq] at hv4
              obtain ⟨rfl, _, rfl⟩ := hv4
              generalize x.i = xi at c1 d1
              clear c0 c2 c3 hxq
              go_wp2_with fail
              go_quiet (fail)
              generalize hW5 : World.drewN _ _ = W5
              have HB5 : Hid (Below W.heap.size W W5) := by rw [← hW5]; exact below_drewN HBq.out _
              have HL5 : Hid (Lie4 W'.heap.size W5 (.slice (some ⟨bl4, off4, none⟩) xs.length cp3) (lw S1)) := by rw [← hW5]; exact HLq.out
              have HR5 : Hid (W5.ownsRow W.heap.size 3 1 (.slice (some ⟨g, 0, none⟩) xs.length uc) xs.length (intCells (atsW 0 prs))) := by rw [← hW5]; exact row_keep HRq.out fun _ _ _ => rfl
              clear hW5
              go_wp2_with fail
              go_roundw
              case rel => exact ⟨q + 1, by omega, by go_num, HB5.out, HL5.out, HR5.out⟩
              case measure => simp [intOf]; omega
            · have hqx' : ¬ (q : Int) < xs.length := by omega
              go_wp2_with fail
              refine (HLx2.out _ HBq.out).mono ?_
              rintro e w3 ⟨hb3, ⟨ho3, _⟩ | ⟨j3, hj3, ho3, rfl⟩⟩
              · rw [HO2.out] at ho3; cases ho3
              · have hj3' : (j3 : Int) = T.size + 1 := by
                  rw [HO2.out] at ho3
                  have := Option.some.inj ho3
                  omega
                have HB3 := hidE (below_on HBq.out hb3)
                rw [hj3']
                clear hb3 ho3 hj3 hj3'
                go_wp2_with fail
                refine (HLx3.out _ HB3.out).mono ?_
                rintro e w4 ⟨hb4, ⟨ho4, _⟩ | ⟨j4, hj4, ho4, rfl⟩⟩
                · rw [HO3.out] at ho4; cases ho4
                · have hj4' : (j4 : Int) = T.size + 1 := by
                    rw [HO3.out] at ho4
                    have := Option.some.inj ho4
                    omega
                  have HB4 := hidE (below_on HB3.out hb4)
                  rw [hj4']
                  clear hb4 ho4 hj4 hj4'
                  go_wp2_with fail
                  refine (num_any _ _).mono ?_
                  rintro e W8 ⟨rfl, rfl⟩
                  go_wp2_with fail
                  refine (num_any _ _).mono ?_
                  rintro e W8 ⟨rfl, rfl⟩
                  go_wp2_with fail
                  refine (HW.out _ HB4.out).mono ?_
                  rintro e w6 ⟨rfl, hb6⟩
                  have HB6 := hidE (below_on HB4.out hb6)
                  clear hb6
                  go_wp2_with fail
                  go_ret
                  exact ⟨rfl, HB6.out⟩
        · rw [HO1.out] at ho1; cases ho1
end Go.Proofs.YtbjcdpenfijfoaaGreatDoor
