/- The document's words of a text, as far as they can be read. -/
import Derived.Test.YtbjcdpenfijfoaaGreatDoorRword
import Derived.Test.YtbjcdpenfijfoaaGreatDoorLex2
namespace Go.Proofs.YtbjcdpenfijfoaaGreatDoor
open Go.RowKit Go.Shelf Go.Lexed
open Go.Lib (byteCells byteCells_length)
set_option linter.unusedVariables false
set_option linter.unusedSimpArgs false
attribute [local go_sem] Oper.semAt_some
/-- What is read so far. -/
def SomeAt (s : ByteArray) (w0 : World) (v x y : Value) (wr : World) : Prop := ∃ (k q : Nat) (ok : Bool) (pre : List (Wd × Nat)), x = .int .i64 q ∧ y = .bool ok ∧ q ≤ s.size ∧ pre.length ≤ q ∧ Below w0.heap.size w0 wr ∧ wr.ownsRow w0.heap.size 33 4 v pre.length (cells4 (pre.map toW4)) ∧ skipB (suf s k) = (suf s q, ok) ∧ lexP s = pre ++ lexQ s k ∧ lexO s = (lexB Lib.validD (suf s k)).2
/-- What all words up to the first that can't be read are. -/
def SomeTo (s : ByteArray) (w : World) (e : Ending) (w' : World) : Prop :=
  Below w.heap.size w w' ∧ ∃ v, Lie4 w'.heap.size w' v ((lexP s).map toW4) ∧ ((lexO s = none ∧ e = .returned (.tuple #[v, .int .i64 0, .int .i64 0])) ∨ (∃ j : Nat, j ≤ s.size ∧ lexO s = some (s.size - j) ∧ e = .returned (.tuple #[v, .int .i64 (j : Int), .int .i64 130])))
theorem skip_on {s : ByteArray} {j q : Nat} {ok : Bool} (h : skipB (suf s j) = (suf s q, ok)) (hj : j ≤ s.size) (hq : q ≤ s.size) : j ≤ q := by
  have := skipB_le _ (suf s j) (Nat.le_refl _)
  rw [h] at this
  simp only [suf_len] at this
  omega
set_option maxRecDepth 100000 in
set_option maxHeartbeats 4000000 in
theorem rsome_any (s : ByteArray) (hs : s.size ≤ 1048576) (w : World) : Calls Tryz.prog 15 #[.string s] w fun e w' => SomeTo s w e w' := by
  have hs' : ¬ (1048576 : Int) < s.size := by omega
  obtain ⟨i0, hi, hz0, hz1, hz2⟩ := info_parts Tryz.info33
  have HSK := hidE (fun k (hk : k ≤ s.size) w => rskip_any s k hk (by omega) w)
  have HWR := hidE (fun k (hk : k < s.size) w => rword_any s k hk (by omega) w)
  go_enter Tryz.func15, Tryz.ntmps15
  go_wp2_with fail
  refine (HSK.out 0 (Nat.zero_le _) _).mono ?_
  rintro e w1 ⟨⟨j0, ok0, hj0, hsk0, rfl⟩, rfl⟩
  have HS0 := hidE hsk0
  clear hsk0
  go_wp2_with fail
  go_loopw [5, 6, 7] (fun v x y wr => SomeAt s w1 v x y wr) (fun _ x _ _ => s.size - (intOf x).toNat)
  case atStart => exact ⟨0, j0, ok0, [], rfl, rfl, hj0, Nat.zero_le _, Below.refl _ _, World.ownsRow_nil _ _ _ _, HS0.out, rfl, rfl⟩
  case round =>
    obtain ⟨k, q, ok, pre, rfl, rfl, hq, hpl, hb, ho, hsk, hlp, hlo⟩ := hrel
    have HB := hidE hb
    have HO := hidE ho
    have HSQ := hidE hsk
    have HP := hidE hlp
    have HLO := hidE hlo
    have hBs := hb.size
    obtain ⟨ua, uc, rfl⟩ := row_slice ho
    clear hb ho hsk hlp hlo HS0
    cases ok with
    | false =>
      have HN : Hid (lexP s = pre ∧ lexO s = some (s.size - q)) := by
        have e := lex_bad Lib.validD HSQ.out
        refine ⟨?_, ?_⟩
        · rw [HP.out, lexQ, e]; simp
        · rw [HLO.out, e, suf_len]
      go_wp2_with fail
      go_ret3
      refine ⟨HB.out, _, ?_, .inr ⟨q, hq, HN.out.2, rfl⟩⟩
      rw [HN.out.1]
      exact Lie4.row (by rw [List.length_map]; exact HO.out)
    | true =>
      by_cases hlt : q < s.size
      · have hlt' : (q : Int) < s.size := by omega
        have hne : suf s q ≠ [] := by rw [suf_cons hlt]; simp
        go_wp2_with fail
        refine (HWR.out q hlt _).mono ?_
        rintro e w2 ⟨hwt, hb2⟩
        have HB2 := hidE (HB.out.trans (hb2.mono hBs))
        have HO2 : Hid (w2.ownsRow w1.heap.size 33 4 (.slice ua pre.length uc) pre.length (cells4 (pre.map toW4))) := row_keep HO.out fun g _ hg => hb2.block g hg
        have hBs2 : w1.heap.size ≤ w2.heap.size := HB2.out.size
        clear hb2 HB HO
        rcases hwt with ⟨d, j, hdl, hqj, hj, hwd, rfl⟩ | ⟨hwd, x, j, rfl⟩
        · have HN : Hid (lexP s = (pre ++ [(d, q)]) ++ lexQ s j ∧ lexO s = (lexB Lib.validD (suf s j)).2) := by
            have e := lex_of Lib.validD HSQ.out hne hwd
            refine ⟨?_, ?_⟩
            · rw [HP.out, lexQ, e]
              simp only [List.map_cons, lexQ, suf_len, List.append_assoc, List.singleton_append]
              rw [show s.size - (s.size - q) = q by omega]
            · rw [HLO.out, e]
          clear hwd
          unfold wordV
          obtain ⟨kk, hkk⟩ : ∃ kk : Int, (d.kind : Int) = kk := ⟨_, rfl⟩
          obtain ⟨nn, hnn⟩ : ∃ nn : Int, (d.num : Int) = nn := ⟨_, rfl⟩
          obtain ⟨tt, htt⟩ : ∃ tt, bsOf d.text = tt := ⟨_, rfl⟩
          have HWV : Hid (cells4 ((pre ++ [(d, q)]).map toW4) = cells4 (pre.map toW4) ++ [.int .i64 kk, .int .i64 (q : Int), .string tt, .int .u64 nn]) := by
            show _ = _
            rw [List.map_append, List.map_cons, List.map_nil, cells4_snoc, ← hkk, ← hnn, ← htt]; rfl
          rw [hkk, hnn, htt]
          clear hkk hnn htt
          go_upto_region 9 with fail
          generalize hW3 : World.alloc _ _ = W3
          have HB3 : Hid (Below w1.heap.size w1 W3) := by rw [← hW3]; exact HB2.out.alloc hBs2 _
          have HO3 : Hid (W3.ownsRow w1.heap.size 33 4 (.slice ua pre.length uc) pre.length (cells4 (pre.map toW4))) := by rw [← hW3]; exact row_keep HO2.out fun g _ hg => Below.heap_alloc _ _ _ hg
          have HW3 : Hid (Wo W3 w2.heap.size kk q nn tt) := by rw [← hW3]; exact World.alloc_heap_new _ _
          have hBs3 : w1.heap.size ≤ W3.heap.size := HB3.out.size
          clear hW3 HB2 HO2
          have c0 := HW3.out.c0
          have c1 := HW3.out.c1
          have c2 := HW3.out.c2
          have c3 := HW3.out.c3
          go_wp2_with (at_builtin; refine wpList_append_own _ rfl _ _ 23 rfl w1.heap.size 33 i0 (.agg #[.int .i64 0, .int .i64 0, .string ⟨#[]⟩, .int .u64 0]) 4 40 Tryz.underlying23 hi hz0 hz1 hz2 rfl (by decide) _ _ _ rfl (row_keep HO3.out fun g _ hg => Below.heap_alloc _ _ _ hg) ⟨W3.heap.size, 0, none⟩ 1 1 [.int .i64 kk, .int .i64 (q : Int), .string tt, .int .u64 nn] rfl rfl ?d1 ?d2 ?d3 ?d4 ?d5 ?_)
          case d1 =>
            intro j u hj
            have hadd : (⟨W3.heap.size, 0, none⟩ : Addr).add j = ⟨W3.heap.size, j, none⟩ := by unfold Addr.add; split <;> simp_all
            rw [hadd]
            refine cell_new _ _ _ _ _ ?_
            simpa using hj
          case d2 => intro u hu; simp only [List.mem_cons, List.not_mem_nil, or_false] at hu; rcases hu with rfl | rfl | rfl | rfl <;> rfl
          case d3 => unfold maxLen; omega
          case d4 => omega
          case d5 => first | omega | (simp; omega)
          intro v4 w4 hown4 hgrow4 _
          obtain ⟨ub, ud, rfl⟩ := row_slice hown4
          have hb4 : Below w1.heap.size W3 w4 := ((Below.refl w1.heap.size W3).alloc hBs3 _).trans (row_grown (row_keep HO3.out fun g _ hg => Below.heap_alloc _ _ _ hg) (by simp; omega) hgrow4)
          have HO4 := hidE hown4
          have HB4 := hidE (HB3.out.trans hb4)
          clear hown4 hgrow4 hb4 c0 c1 c2 c3 HB3 HO3
          go_wp2_with fail
          refine (HSK.out j hj _).mono ?_
          rintro e w5 ⟨⟨j5, ok5, hj5, hsk5, rfl⟩, rfl⟩
          have hjj := skip_on hsk5 hj hj5
          have HS5 := hidE hsk5
          clear hsk5
          go_wp2_with fail
          go_roundw
          case rel => exact ⟨j, j5, ok5, pre ++ [(d, q)], rfl, rfl, hj5, by simp; omega, HB4.out, by rw [HWV.out, List.length_append]; exact HO4.out, HS5.out, HN.out.1, HN.out.2⟩
          case measure => simp [intOf]; omega
        · have HN : Hid (lexP s = pre ∧ lexO s = some (s.size - q)) := by
            have e := lex_none Lib.validD HSQ.out hne hwd
            refine ⟨?_, ?_⟩
            · rw [HP.out, lexQ, e]; simp
            · rw [HLO.out, e, suf_len]
          clear hwd
          obtain ⟨xk, xi, xt, xn⟩ := x
          unfold W4.val
          simp only
          go_wp2_with fail
          go_ret3
          refine ⟨HB2.out.alloc hBs2 _, _, ?_, .inr ⟨q, hq, HN.out.2, rfl⟩⟩
          rw [HN.out.1]
          exact Lie4.row (base := w1.heap.size) (by rw [List.length_map]; exact row_keep HO2.out fun g _ hg => Below.heap_alloc _ _ _ hg)
      · have hlt' : ¬ (q : Int) < s.size := by omega
        have HN : Hid (lexP s = pre ∧ lexO s = none) := by
          have h0 : suf s q = [] := suf_end (by omega)
          have e := lex_end Lib.validD (by rw [HSQ.out, h0])
          refine ⟨?_, ?_⟩
          · rw [HP.out, lexQ, e]; simp
          · rw [HLO.out, e]
        go_wp2_with fail
        go_ret3
        refine ⟨HB.out, _, ?_, .inl ⟨HN.out.2, rfl⟩⟩
        rw [HN.out.1]
        exact Lie4.row (by rw [List.length_map]; exact HO.out)
set_option maxRecDepth 100000 in
set_option maxHeartbeats 2000000 in
theorem rlex_any (s : ByteArray) (hs : s.size ≤ 1048576) (w : World) : Calls Tryz.prog 13 #[.string s] w fun e w' => LexTo s w e w' := by
  have HSO := hidE (rsome_any s hs w)
  go_enter Tryz.func13, Tryz.ntmps13
  go_wp2_with fail
  refine HSO.out.mono ?_
  rintro e w1 ⟨hb, v, hl, ⟨ho, rfl⟩ | ⟨j, hj, ho, rfl⟩⟩
  · have HB := hidE hb
    have HL := hidE hl
    have HO := hidE ho
    clear hb hl ho
    go_wp2_with fail
    go_ret3
    exact ⟨HB.out, .inl ⟨HO.out, v, rfl, HL.out⟩⟩
  · have HB := hidE hb
    have HO := hidE ho
    clear hb hl ho
    go_wp2_with fail
    go_ret3
    exact ⟨HB.out, .inr ⟨j, hj, HO.out, rfl⟩⟩
end Go.Proofs.YtbjcdpenfijfoaaGreatDoor
