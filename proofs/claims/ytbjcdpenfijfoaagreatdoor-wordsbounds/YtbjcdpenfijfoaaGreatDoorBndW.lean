/- WordsBounds, walked: its first half. -/
import Derived.Test.YtbjcdpenfijfoaaGreatDoorJoin9
namespace Go.Proofs.YtbjcdpenfijfoaaGreatDoor
open Go.RowKit Go.Shelf Go.Lexed
set_option linter.unusedVariables false
set_option linter.unusedSimpArgs false
attribute [local go_sem] Oper.semAt_some
theorem made_row (w : World) (n : Nat) : RowIs (w.alloc (.cells (madeCells #[.int .u8 0] n) 5)) w.heap.size n 0 :=
  ⟨_, World.alloc_heap_new _ _, by simp [madeCells], fun q hq => absurd hq (Nat.not_lt_zero _)⟩
theorem cells4_take {xs : List W4} {k j : Nat} {u : Value} (h : (cells4 (xs.take k))[j]? = some u) : (cells4 xs)[j]? = some u := by
  have e : cells4 xs = cells4 (xs.take k) ++ cells4 (xs.drop k) := by
    unfold cells4
    rw [← List.flatMap_append, List.take_append_drop]
  rw [e]
  rw [List.getElem?_append_left (List.getElem?_eq_some_iff.1 h).1]; exact h
theorem Lie4.take {B : Nat} {w : World} {ad : Option Addr} {n cap : Nat} {xs : List W4} (h : Lie4 B w (.slice ad n cap) xs) {k : Nat} (hk : k ≤ xs.length) : Lie4 B w (.slice ad k cap) (xs.take k) := by
  obtain ⟨ad', cap', h1, h2, h3, h4⟩ := h
  cases h1
  have hl : (xs.take k).length = k := by rw [List.length_take]; omega
  refine ⟨ad, cap, by rw [hl], by omega, h3, ?_⟩
  rcases h4 with e | ⟨bl, off, e, hb, hc⟩
  · exact .inl (by rw [e]; simp)
  · exact .inr ⟨bl, off, e, hb, fun j u hj => hc j u (cells4_take hj)⟩
set_option maxRecDepth 100000 in
theorem all1_long (s : ByteArray) (hs : 1048576 < s.size) (y : Value) (b : Nat) (w : World) (hb : Boxed w b 9 (.string s)) : Calls Tryz.prog 35 #[y, .pointer (some ⟨b, 0, none⟩)] w fun e w' => e = .returned (.tuple #[]) ∧ w' = w := by
  have cb := hb.cell
  go_enter Tryz.func35, Tryz.ntmps35
  go_wp2_with fail
  refine (each_long s hs _ _).mono ?_
  rintro e w1 ⟨rfl, rfl⟩
  go_wp2_with fail
  exact bodyPost_end (v := .tuple #[]) (by simp [results, Tryz.results35, go_sem]) rfl ⟨rfl, rfl⟩
/-- What is asked of the points. -/
theorem points_print (n k : Nat) (h1 : n = 1048576) (h2 : k = 524288) : ∃ (XS : List W4) (P : ByteArray), lw (points n) = XS ∧ XS.length = n ∧ P.size = 1048575 ∧ printV (XS.take k) = .tuple #[.string P, .int .i64 0] ∧ printV (XS.take (k + 1)) = .tuple #[.string ⟨#[]⟩, .int .i64 3] ∧ (∀ x ∈ XS, 0 ≤ x.n ∧ x.n < 18446744073709551616 ∧ x.t.size ≤ 1000000000) := by
  refine ⟨(List.range n).map pointW, bsOf (printW ((((List.range n).map pointW).take k).map W4.wd)), (points_read n).2, by simp, ?_, ?_, ?_, ?_⟩
  · obtain ⟨m, rfl⟩ : ∃ m, k = m + 1 := ⟨k - 1, by omega⟩
    rw [bsOf_size, print_points n m (by omega)]
    omega
  · obtain ⟨m, rfl⟩ : ∃ m, k = m + 1 := ⟨k - 1, by omega⟩
    exact printV_ok (points_may n _) (by rw [print_points n m (by omega)]; omega)
  · unfold printV
    rw [if_pos (points_may n _), if_pos (by rw [print_points n k (by omega)]; omega)]
  · intro x hx
    have := points_fine n n x (by rw [List.take_of_length_le (by simp)]; exact hx)
    exact this
def strOf : Value → ByteArray
  | .string s => s
  | _ => ⟨#[]⟩
theorem bs_app' (L M : List UInt8) : bsOf L ++ bsOf M = bsOf (L ++ M) := by
  rw [← of_bs (bsOf L ++ bsOf M)]
  congr 1
set_option maxRecDepth 100000 in
set_option maxHeartbeats 4000000 in
theorem bounds_walk (w : World) (hE : Env w) : Calls Tryz.prog 6 #[] w fun e w' => e = .returned (.bool true) ∧ Below w.heap.size w w' := by
  have HE := hidE hE
  have h8 := hE.room
  clear hE
  have HW := hidE (fun w1 (h : Below w.heap.size w w1) => works_any w1 (HE.out.below h h8))
  obtain ⟨i5, hi5, hy0, hy1, hy2⟩ := info_parts Tryz.info5
  obtain ⟨N, hN⟩ : ∃ n : Nat, n = 1048577 := ⟨_, rfl⟩
  have hmk : ∀ W : World, (Instr.makeSlice 49 (.int .i64 1048577) (.int .i64 1048577)).run Tryz.prog W = .ok (.slice (some ⟨W.heap.size, 0, none⟩) N N) (W.alloc (.cells (madeCells #[.int .u8 0] N) 5)) := fun W => by
    have := run_makeSlice (P := Tryz.prog) W 49 5 i5 _ Tryz.underlying49 hi5 hy0 .i64 .i64 (N : Int) (N : Int) (by omega) (by omega) (by rw [hy1]; omega) (by rw [hy2]; omega) (by omega)
    rw [show (1048577 : Int) = ((N : Nat) : Int) from by omega]
    simpa [hy1, Value.cells] using this
  have HRow := hidE (fun W : World => made_row W N)
  obtain ⟨C, hC⟩ : ∃ C, madeCells #[.int .u8 0] N = C := ⟨_, rfl⟩
  rw [hC] at HRow
  have hmk2 : ∀ W : World, (Instr.makeSlice 49 (.int .i64 1048577) (.int .i64 1048577)).run Tryz.prog W = .ok (.slice (some ⟨W.heap.size, 0, none⟩) N N) (W.alloc (.cells C 5)) := fun W => by rw [← hC]; exact hmk W
  have HNN := hidE hN
  have hN1 : (N : Int) = 1048577 := by omega
  have hNb : N ≤ 2000000 := by omega
  clear hmk hC hi5 hy0 hy1 hy2 hN
  refine (callsIn_wide (n := 0)).1 ?_
  refine callsIn_of_wp_marks (F := Fence.wide) Tryz.func6 rfl trivial ?_ rfl
  refine wpIn_wide.2 ?_
  simp only [Tryz.ntmps6, List.size_toArray, List.length_cons, List.length_nil, Nat.reduceAdd, Nat.reduceSub, Array.replicate_succ, Array.replicate_zero, List.push_toArray, List.append_toArray, List.nil_append, List.cons_append]
  go_upto_region 1 with fail
  generalize hW0 : World.alloc _ _ = W0
  have HB0 : Hid (Below w.heap.size w W0) := by rw [← hW0]; exact (Below.refl _ _).alloc (Nat.le_refl _) _
  have HX0 : Hid (W0.heap[w.heap.size]? = some (.cells #[.bool false] 4 (0, 0))) := by rw [← hW0]; exact World.alloc_heap_new _ _
  have hz0 : W0.heap.size = w.heap.size + 1 := by rw [← hW0]; simp
  clear hW0
  go_upto_region 2 with fail
  generalize hW1 : World.alloc _ _ = W1
  have HB1 : Hid (Below W0.heap.size W0 W1) := by rw [← hW1]; exact (Below.refl _ _).alloc (Nat.le_refl _) _
  have HR1 : Hid (RowIs W1 W0.heap.size N 0) := by rw [← hW1]; exact HRow.out _
  clear hW1 hmk2
  obtain ⟨g, hg⟩ : ∃ g, w.heap.size + 1 = g := ⟨_, rfl⟩
  rw [hz0, hg] at HR1
  rw [hz0, hg] at HB1
  rw [hg]
  have HG := hidE hg
  have HX1 : Hid (W1.heap[w.heap.size]? = some (.cells #[.bool false] 4 (0, 0))) := (HB1.out.block _ (by omega)).trans HX0.out
  have HBw : Hid (Below w.heap.size w W1) := HB0.out.trans (HB1.out.mono (by omega))
  clear hz0 hg HB0 HB1 HX0
  go_wp2_with fail
  go_loopw [2] (fun i wr => ∃ j : Nat, j ≤ N ∧ i = .int .i64 j ∧ Below w.heap.size w wr ∧ wr.heap[w.heap.size]? = some (.cells #[.bool false] 4 (0, 0)) ∧ RowIs wr g N j) (fun i _ => N - (intOf i).toNat)
  case atStart => exact ⟨0, Nat.zero_le _, rfl, HBw.out, HX1.out, HR1.out⟩
  case round =>
    obtain ⟨j, hj, rfl, hbr, hxr, hrr⟩ := hrel
    have HBr := hidE hbr
    have HXr := hidE hxr
    have HRr := hidE hrr
    clear hbr hxr hrr
    by_cases hlt : j < N
    · have hlt' : (j : Int) < N := by omega
      obtain ⟨u, c0, z0⟩ := HRr.out.cell hlt
      have HS : Hid (Below w.heap.size w (wr.setCell ⟨g, j, none⟩ (.int .u8 46)) ∧ (wr.setCell ⟨g, j, none⟩ (.int .u8 46)).heap[w.heap.size]? = some (.cells #[.bool false] 4 (0, 0)) ∧ RowIs (wr.setCell ⟨g, j, none⟩ (.int .u8 46)) g N (j + 1)) :=
        ⟨HBr.out.setCell (by have := HG.out; show w.heap.size ≤ g; omega) _, (Below.heap_setCell _ _ _ _ (by have := HG.out; show w.heap.size ≠ g; omega)).trans HXr.out, HRr.out.put hlt⟩
      clear hN1
      go_wp2_with fail
      go_roundw
      case rel => exact ⟨j + 1, by omega, by go_num, HS.out⟩
      case measure => simp [intOf]; omega
    · obtain rfl : j = N := by omega
      have hlt' : ¬ (j : Int) < j := by omega
      obtain ⟨n1, hn1⟩ : ∃ n : Nat, n = 1048576 := ⟨_, rfl⟩
      obtain ⟨k1, hk1⟩ : ∃ n : Nat, n = 524288 := ⟨_, rfl⟩
      obtain ⟨XS, P, hXS, hXl, hPs, hp1, hp2, hfine⟩ := points_print n1 k1 hn1 hk1
      have HP1 : Hid (printV (XS.take 524288) = .tuple #[.string P, .int .i64 0]) := by rw [hk1] at hp1; exact hp1
      have HP2 : Hid (printV (XS.take 524289) = .tuple #[.string ⟨#[]⟩, .int .i64 3]) := by rw [hk1] at hp2; exact hp2
      have HFi := hidE hfine
      clear hp1 hp2 hfine
      obtain ⟨D1, hD1⟩ : ∃ D, points n1 = D := ⟨_, rfl⟩
      obtain ⟨D2, hD2⟩ : ∃ D, points j = D := ⟨_, rfl⟩
      have hcv1 := (HRr.out.less (show n1 ≤ j by have := HNN.out; omega)).text j
      have HCV2 : Hid (∀ W, Below wr.heap.size wr W → (convert 49 9 (.slice (some ⟨g, 0, none⟩) j j)).run Tryz.prog W = .ok (.string D2) W) := fun W hb => by
        rw [← hD2]
        exact (HRr.out.keep (hb.block g HRr.out.lt)).text j
      have hs1 : D1.size = n1 := by rw [← hD1]; exact points_size _
      have hs2 : D2.size = j := by rw [← hD2]; exact points_size _
      have HO1 : Hid (lexO D1 = none) := by show _ = _; rw [← hD1]; exact (points_read n1).1
      have HXS : Hid ((lexP D1).map toW4 = XS) := by show _ = _; rw [← hXS, ← hD1]; rfl
      rw [hD1] at hcv1
      have HL1 := hidE (lex_any D1 (by omega) wr (HE.out.below HBr.out h8))
      have HL2 := hidE (fun W => lex_long D2 (by have := HNN.out; omega) W)
      clear hD1 hD2 hXS
      have hN2 : (1048576 : Int) ≤ j := by have := HNN.out; omega
      have hcv1' : (convert 49 9 (.slice (some ⟨g, 0, none⟩) 1048576 j)).run Tryz.prog wr = .ok (.string D1) wr := by rw [← hn1]; exact hcv1
      clear hcv1 hN1
      go_wp2_with fail
      refine HL1.out.mono ?_
      rintro e w1 ⟨hb1, ⟨ho1, v1, rfl, hl1⟩ | ⟨j1, hj1, ho1, _⟩⟩
      · rw [HXS.out] at hl1
        have HV1 := hidE hl1
        have HB1 := hidE hb1
        have hcv2 := HCV2.out w1 hb1
        obtain ⟨ad1, cp1, rfl, lc1, cm1, -⟩ := hl1
        rw [hXl]
        rw [hXl] at HV1 lc1
        clear hb1 ho1 hcv1'
        go_wp2_with fail
        refine (HL2.out _).mono ?_
        rintro e w2 ⟨rfl, hb2⟩
        have HB2 := hidE (below_on HB1.out hb2)
        have HV2 := hidE (HV1.out.below hb2 (Nat.le_refl _))
        have HS2 := hidE hb2.size
        clear hb2 hcv2
        have hcv3 := HCV2.out w2 HB2.out
        have hmin1 : min (n1 : Int) 524288 = 524288 := by omega
        have hmin2 : min (n1 : Int) 524289 = 524289 := by omega
        have hcp1 : (524288 : Int) ≤ cp1 := by omega
        have hcp2 : (524289 : Int) ≤ cp1 := by omega
        have HN1 := hidE hn1
        have hnb : n1 ≤ 2000000 := by omega
        clear hn1 hk1 hN2
        go_wp2_with fail
        rw [show (min (1048576 : Int) 524288).toNat = 524288 by decide]
        have HT1 : Hid (Lie4 w2.heap.size w2 (.slice ad1 524288 cp1) (XS.take 524288)) := (HV2.out.take (by have := HN1.out; omega)).mono HS2.out
        refine (print_any _ (XS.take 524288) (fun x hx => HFi.out x (List.mem_of_mem_take hx)) _ (HE.out.below (below_on HBr.out HB2.out) h8) HT1.out).mono ?_
        rw [HP1.out]
        rintro e w3 ⟨rfl, hb3⟩
        have HB3 := hidE (below_on HB2.out hb3)
        have HV3 := hidE (HV2.out.below hb3 HS2.out)
        have HS3 := hidE (Nat.le_trans HS2.out hb3.size)
        clear hb3 hcv3 HT1
        go_wp2_with fail
        rw [show (min (1048576 : Int) 524289).toNat = 524289 by decide]
        have HT2 : Hid (Lie4 w3.heap.size w3 (.slice ad1 524289 cp1) (XS.take 524289)) := (HV3.out.take (by have := HN1.out; omega)).mono HS3.out
        refine (print_any _ (XS.take 524289) (fun x hx => HFi.out x (List.mem_of_mem_take hx)) _ (HE.out.below (below_on HBr.out HB3.out) h8) HT2.out).mono ?_
        rw [HP2.out]
        rintro e w4 ⟨rfl, hb4⟩
        have HB4 := hidE (below_on HB3.out hb4)
        have hcv4 := HCV2.out w4 HB4.out
        clear hb4 HT2
        go_wp2_with fail
        refine (all_any D2 w4).mono ?_
        rintro e w5 ⟨rfl, hb5, hbox⟩
        have HB5 := hidE (below_on HB4.out hb5)
        have HBx := hidE hbox
        have hq := eql_nilf w5 w4.heap.size
        clear hb5 hbox hcv4
        unfold allF at hq ⊢
        go_wp2_with fail
        refine (wpIn_wide (n := 0)).1 ?_
        refine range_wp (F := Fence.wide) rfl rfl (gf := 35) (lb := #[.pointer (some ⟨w4.heap.size, 0, none⟩)]) rfl trivial (enters_of Tryz.func35 (by kernel_rfl) rfl) ?_
        intro fn _
        refine callsIn_wide.2 ?_
        generalize hrec : Loop.mk _ _ _ _ _ _ _ _ = rec
        have hp : rec.pending = none := by rw [← hrec]
        have hst : rec.state ≠ .busy := by rw [← hrec]; simp
        clear hrec
        generalize hW6 : World.alloc _ (Obj.loop rec) = W6
        have HB6 : Hid (Below w5.heap.size w5 W6) := by rw [← hW6]; exact ((Below.refl _ _).alloc (Nat.le_refl _) _).alloc (by simp) _
        have HD6 : Hid (W6.heap[w5.heap.size]? = some (.deferred (some []))) := by
          rw [← hW6, Below.heap_alloc _ _ _ (by simp)]; exact World.alloc_heap_new _ _
        have HL6 : Hid (W6.heap[w5.heap.size + 1]? = some (.loop rec)) := by
          rw [← hW6]
          have := World.alloc_heap_new (w5.alloc (.deferred (some []))) (.loop rec)
          rwa [show (w5.alloc (.deferred (some []))).heap.size = w5.heap.size + 1 by simp] at this
        have HBx6 : Hid (Boxed W6 w4.heap.size 9 (.string D2)) := (HB6.out.block _ HBx.out.lt).trans HBx.out
        clear hW6
        refine (all1_long D2 (by have := HNN.out; omega) _ w4.heap.size W6 HBx6.out).mono ?_
        rintro e w7 ⟨rfl, rfl⟩
        refine ⟨rec, HL6.out, hst, ?_⟩
        simp only [hp]
        generalize hW8 : World.putObj _ _ _ = W8
        have HB8 : Hid (Below w5.heap.size w5 W8) := by rw [← hW8]; exact (But.putObj _ _).below HB6.out (by omega)
        have HD8 : Hid (W8.heap[w5.heap.size]? = some (.deferred (some []))) := by rw [← hW8, World.putObj_heap_other (by omega)]; exact HD6.out
        clear hW8
        obtain ⟨dd, hdd⟩ : ∃ d, w5.heap.size = d := ⟨_, rfl⟩
        rw [hdd] at HD8 ⊢
        have HBA : Hid (Below wr.heap.size wr W8) := below_on HB5.out HB8.out
        have HDD := hidE hdd
        clear HB6 HD6 HL6 HBx6 hst hp hdd
        have HFin : Hid (∀ W, Below W8.heap.size W8 W → Env W ∧ Below w.heap.size w W ∧ W.heap[w.heap.size]? = some (.cells #[.bool false] 4 (0, 0)) ∧ W.heap[dd]? = some (.deferred (some [])) ∧ w.heap.size < dd) := by
          intro W hb
          have h1 := below_on HBA.out hb
          have h2 := below_on HBr.out h1
          have hlr : w.heap.size < wr.heap.size := (Array.getElem?_eq_some_iff.1 HXr.out).1
          refine ⟨HE.out.below h2 h8, h2, (h1.block _ hlr).trans HXr.out, (hb.block _ (Array.getElem?_eq_some_iff.1 HD8.out).1).trans HD8.out, ?_⟩
          have := HB5.out.size
          have := HDD.out
          omega
        go_wp2_with fail
        go_loopw [14] (fun t wv => ∃ q : Nat, 1 ≤ q ∧ q ≤ 64 ∧ t = .string (bsOf (asL q)) ∧ wv = W8) (fun t _ => 64 - (strOf t).size)
        case atStart => exact ⟨1, by omega, by omega, rfl, rfl⟩
        case round =>
          obtain ⟨q, hq1, hq2, rfl, rfl⟩ := hrel
          have hqs : (bsOf (asL q)).size = q := by rw [bsOf_size]; simp [asL]
          have HAp : Hid (bsOf (asL q) ++ ⟨#[97]⟩ = bsOf (asL (q + 1))) := by
            show _ = _
            rw [show (⟨#[97]⟩ : ByteArray) = bsOf [97] from rfl, bs_app']
            congr 1
            unfold asL
            rw [List.replicate_succ']
          by_cases hql : q < 64
          · have hql' : (q : Int) < 64 := by omega
            obtain ⟨T, hT⟩ : ∃ T, bsOf (asL q) = T := ⟨_, rfl⟩
            rw [hT] at hqs HAp ⊢
            have HT := hidE hT
            clear hT
            go_wp2_with fail
            go_roundw
            case rel => exact ⟨q + 1, by omega, by omega, by rw [← HAp.out], trivial⟩
            case measure =>
              simp only [strOf]
              rw [HAp.out, bsOf_size]
              simp [asL]
              omega
          · obtain rfl : q = 64 := by omega
            obtain ⟨T, hT⟩ : ∃ T, bsOf (asL 64) = T := ⟨_, rfl⟩
            rw [hT] at hqs ⊢
            have HT := hidE hT
            clear hT HAp
            obtain ⟨S1, hS1⟩ : ∃ S, bsOf bndT = S := ⟨_, rfl⟩
            obtain ⟨S2, hS2⟩ : ∃ S, bsOf ([46, 32] ++ asL 64 ++ [97]) = S := ⟨_, rfl⟩
            obtain ⟨S3, hS3⟩ : ∃ S, bsOf [46, 32, 57, 50, 50, 51, 51, 55, 50, 48, 51, 54, 56, 53, 52, 55, 55, 53, 56, 48, 57] = S := ⟨_, rfl⟩
            obtain ⟨S4, hS4⟩ : ∃ S, bsOf ([46, 32, 96] ++ asL 64 ++ [97, 96]) = S := ⟨_, rfl⟩
            obtain ⟨T5, hT5⟩ : ∃ S, bsOf (asL 64 ++ [97]) = S := ⟨_, rfl⟩
            have e1 : T ++ ⟨#[32, 96]⟩ ++ T ++ ⟨#[96, 32, 57, 50, 50, 51, 51, 55, 50, 48, 51, 54, 56, 53, 52, 55, 55, 53, 56, 48, 56]⟩ = S1 := by
              rw [← hS1, ← HT.out, show (⟨#[32, 96]⟩ : ByteArray) = bsOf [32, 96] from rfl, show (⟨#[96, 32, 57, 50, 50, 51, 51, 55, 50, 48, 51, 54, 56, 53, 52, 55, 55, 53, 56, 48, 56]⟩ : ByteArray) = bsOf [96, 32, 57, 50, 50, 51, 51, 55, 50, 48, 51, 54, 56, 53, 52, 55, 55, 53, 56, 48, 56] from rfl, bs_app', bs_app', bs_app']
              rfl
            have e2 : ⟨#[46, 32]⟩ ++ T ++ ⟨#[97]⟩ = S2 := by
              rw [← hS2, ← HT.out, show (⟨#[46, 32]⟩ : ByteArray) = bsOf [46, 32] from rfl, show (⟨#[97]⟩ : ByteArray) = bsOf [97] from rfl, bs_app', bs_app']
            have e4 : ⟨#[46, 32, 96]⟩ ++ T ++ ⟨#[97, 96]⟩ = S4 := by
              rw [← hS4, ← HT.out, show (⟨#[46, 32, 96]⟩ : ByteArray) = bsOf [46, 32, 96] from rfl, show (⟨#[97, 96]⟩ : ByteArray) = bsOf [97, 96] from rfl, bs_app', bs_app']
            have e5 : T ++ ⟨#[97]⟩ = T5 := by
              rw [← hT5, ← HT.out, show (⟨#[97]⟩ : ByteArray) = bsOf [97] from rfl, bs_app']
            have z1 : S1.size = 151 := by rw [← hS1, bsOf_size]; simp [bndT, asL]
            have z2 : S2.size = 67 := by rw [← hS2, bsOf_size]; simp [asL]
            have z3 : S3.size = 21 := by rw [← hS3, bsOf_size]; rfl
            have z4 : S4.size = 69 := by rw [← hS4, bsOf_size]; simp [asL]
            have z5 : T5.size = 65 := by rw [← hT5, bsOf_size]; simp [asL]
            have HO1' : Hid (lexO S1 = none) := by show _ = _; rw [← hS1]; exact bnd_read.1
            have HO2 : Hid (lexO S2 = some 65) := by show _ = _; rw [← hS2]; exact bad_name
            have HO3 : Hid (lexO S3 = some 19) := by show _ = _; rw [← hS3]; exact bad_num
            have HO4 : Hid (lexO S4 = some 67) := by show _ = _; rw [← hS4]; exact bad_quot
            have HWd : Hid ((lw S1).map W4.wd = [⟨1, asL 64, 0⟩, ⟨2, asL 64, 0⟩, ⟨4, [], 9223372036854775808⟩]) := by show _ = _; rw [← hS1]; exact bnd_read.2
            have HNm1 : Hid (nameOk Lib.validD T.data.toList = true) := by show _ = _; rw [← HT.out, bsOf_list]; exact as_name.2.1
            have HNm2 : Hid (nameOk Lib.validD T5.data.toList = false) := by
              show _ = _
              rw [← hT5, bsOf_list, show asL 64 ++ [97] = asL 65 from by unfold asL; rw [← List.replicate_succ']]
              exact as_name.2.2
            have hS3' : (⟨#[46, 32, 57, 50, 50, 51, 51, 55, 50, 48, 51, 54, 56, 53, 52, 55, 55, 53, 56, 48, 57]⟩ : ByteArray) = S3 := hS3
            have HS3 := hidE hS3'
            clear hS1 hS2 hS3 hS3' hS4 hT5
            go_wp2_with fail
            refine (lex_any S1 (by omega) _ (HFin.out _ (Below.refl _ _)).1).mono ?_
            rintro e x1 ⟨hx1, ⟨ho, v9, rfl, hl⟩ | ⟨j9, _, ho, _⟩⟩
            · have HY1 := hidE hx1
              have hl' : Lie4 x1.heap.size x1 v9 (lw S1) := hl
              obtain ⟨a0, a1, a2, ha⟩ : ∃ a0 a1 a2, lw S1 = [a0, a1, a2] := by
                have hlen := congrArg List.length HWd.out
                rw [List.length_map] at hlen
                match h : lw S1, hlen with
                | [a0, a1, a2], _ => exact ⟨a0, a1, a2, rfl⟩
              have hn2 : a2.n = 9223372036854775808 := by
                have h1 := HWd.out
                rw [ha] at h1
                simp only [List.map_cons, List.map_nil, List.cons.injEq, and_true] at h1
                have h2 : a2.n.toNat = 9223372036854775808 := congrArg Wd.num h1.2.2
                omega
              rw [ha] at hl'
              obtain ⟨bl, off, cap, rfl, hbl, hcap, _, _, _, c3⟩ := hl'.at (j := 2) rfl
              rw [hn2] at c3
              have HC3 : Hid (∀ W, Below x1.heap.size x1 W → W.cell? ⟨bl, off + 2 * 4 + 3, none⟩ = some (.int .u64 9223372036854775808)) := fun W hb => (hb.cell hbl).trans c3
              rw [show [a0, a1, a2].length = 3 from rfl]
              clear hx1 ho hl hl' ha hn2 c3 hcap
              go_wp2_with fail
              refine (lex_any S2 (by omega) _ (HFin.out _ HY1.out).1).mono ?_
              rintro e x2 ⟨hx2, ⟨ho, _⟩ | ⟨j2, hj2, ho, rfl⟩⟩
              · rw [HO2.out] at ho; cases ho
              · obtain rfl : j2 = 2 := by
                  rw [HO2.out] at ho
                  have := Option.some.inj ho
                  omega
                have HY2 := hidE (below_on HY1.out hx2)
                have HZ2 := hidE hx2
                clear hx2 ho hj2
                go_wp2_with fail
                rw [HS3.out]
                refine (lex_any S3 (by omega) _ (HFin.out _ HY2.out).1).mono ?_
                rintro e x3 ⟨hx3, ⟨ho, _⟩ | ⟨j3, hj3, ho, rfl⟩⟩
                · rw [HO3.out] at ho; cases ho
                · obtain rfl : j3 = 2 := by
                    rw [HO3.out] at ho
                    have := Option.some.inj ho
                    omega
                  have HY3 := hidE (below_on HY2.out hx3)
                  have HZ3 := hidE (below_on HZ2.out hx3)
                  clear hx3 ho hj3
                  go_wp2_with fail
                  refine (lex_any S4 (by omega) _ (HFin.out _ HY3.out).1).mono ?_
                  rintro e x4 ⟨hx4, ⟨ho, _⟩ | ⟨j4, hj4, ho, rfl⟩⟩
                  · rw [HO4.out] at ho; cases ho
                  · obtain rfl : j4 = 2 := by
                      rw [HO4.out] at ho
                      have := Option.some.inj ho
                      omega
                    have HY4 := hidE (below_on HY3.out hx4)
                    have HZ4 := hidE (below_on HZ3.out hx4)
                    clear hx4 ho hj4
                    have c3 := HC3.out x4 HZ4.out
                    have hPs' : (P.size : Int) = 1048575 := by omega
                    go_wp2_with fail
                    refine (num_any _ _).mono ?_
                    rintro e y0 ⟨rfl, rfl⟩
                    go_wp2_with fail
                    refine (num_any _ _).mono ?_
                    rintro e y0 ⟨rfl, rfl⟩
                    go_wp2_with fail
                    refine (num_any _ _).mono ?_
                    rintro e y0 ⟨rfl, rfl⟩
                    go_wp2_with fail
                    refine (num_any _ _).mono ?_
                    rintro e y0 ⟨rfl, rfl⟩
                    go_wp2_with fail
                    refine (num_any _ _).mono ?_
                    rintro e y0 ⟨rfl, rfl⟩
                    go_wp2_with fail
                    refine (num_any _ _).mono ?_
                    rintro e y0 ⟨rfl, rfl⟩
                    go_wp2_with fail
                    refine (num_any _ _).mono ?_
                    rintro e y0 ⟨rfl, rfl⟩
                    go_wp2_with fail
                    refine (num_any _ _).mono ?_
                    rintro e y0 ⟨rfl, rfl⟩
                    go_wp2_with fail
                    have hEf := HFin.out _ HY4.out
                    refine (name_any T (by omega) _ hEf.1).mono ?_
                    rw [HNm1.out]
                    rintro e x5 ⟨rfl, hx5⟩
                    have HY5 := hidE (below_on HY4.out hx5)
                    clear hx5 c3 hEf
                    go_wp2_with fail
                    refine (name_any T5 (by omega) _ (HFin.out _ HY5.out).1).mono ?_
                    rw [HNm2.out]
                    rintro e x6 ⟨rfl, hx6⟩
                    have HY6 := hidE (below_on HY5.out hx6)
                    clear hx6
                    go_wp2_with fail
                    refine (res_any ⟨#[100, 101, 115, 99, 101, 110, 100, 105, 110, 103]⟩ (by decide) _).mono ?_
                    rw [show resB (⟨#[100, 101, 115, 99, 101, 110, 100, 105, 110, 103]⟩ : ByteArray).data.toList = true from res_two.1]
                    rintro e x7 ⟨rfl, hx7⟩
                    have HY7 := hidE (below_on HY6.out hx7)
                    clear hx7
                    go_wp2_with fail
                    refine (res_any ⟨#[65, 115, 99, 101, 110, 100, 105, 110, 103]⟩ (by decide) _).mono ?_
                    rw [show resB (⟨#[65, 115, 99, 101, 110, 100, 105, 110, 103]⟩ : ByteArray).data.toList = true from res_two.2]
                    rintro e x8 ⟨rfl, hx8⟩
                    have HY8 := hidE (below_on HY7.out hx8)
                    clear hx8
                    go_wp2_with fail
                    refine (works_any _ (HFin.out _ HY8.out).1).mono ?_
                    rintro e x9 ⟨rfl, hx9⟩
                    have HY9 := hidE (below_on HY8.out hx9)
                    clear hx9
                    obtain ⟨_, hbf, hxf, hdf, hlf⟩ := HFin.out _ HY9.out
                    have hXb : Boxed x9 w.heap.size 4 (.bool false) := hxf
                    have cf := hXb.cell
                    have ff := hXb.frozen
                    go_wp2_with fail
                    have hz0 : (x9.setCell ⟨w.heap.size, 0, none⟩ (.bool true)).heap[dd]? = some (.deferred (some [])) := (Below.heap_setCell _ _ _ _ (by show dd ≠ w.heap.size; omega)).trans hdf
                    have hz1 : Boxed ((x9.setCell ⟨w.heap.size, 0, none⟩ (.bool true)).putObj dd (.deferred none)) w.heap.size 4 (.bool true) := (World.putObj_heap_other (by omega)).trans (hXb.set _)
                    have hz2 := hz1.cell
                    have hz3 : Below w.heap.size w ((x9.setCell ⟨w.heap.size, 0, none⟩ (.bool true)).putObj dd (.deferred none)) := (But.putObj _ _).below (hbf.setCell (Nat.le_refl _) _) (by omega)
                    show LeavesInM _ _ _ _ _ _ [_] .returning _
                    refine ⟨by simp, .inl ⟨_, _, rfl, run_takeDeferred hz0, ?_⟩⟩
                    refine ⟨.bool true, ?_, rfl, hz3⟩
                    simp [results, Tryz.results6, go_sem, hz2]
            · rw [HO1'.out] at ho; cases ho
      · rw [HO1.out] at ho1; cases ho1
end Go.Proofs.YtbjcdpenfijfoaaGreatDoor
