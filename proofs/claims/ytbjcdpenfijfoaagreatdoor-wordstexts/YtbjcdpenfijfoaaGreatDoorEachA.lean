/- Words one by one, handed to a loop. -/
import Derived.Test.YtbjcdpenfijfoaaGreatDoorJoin10
namespace Go.Proofs.YtbjcdpenfijfoaaGreatDoor
open Go.RowKit Go.Shelf Go.Lexed
set_option linter.unusedVariables false
set_option linter.unusedSimpArgs false
attribute [local go_sem] Oper.semAt_some
set_option maxRecDepth 100000 in
set_option maxHeartbeats 4000000 in
theorem EachA_any {F : Fence} (HF : Hid (F = Fence.wide)) (hd : F.depth = none) (hro : F.round = none) (hfn : ∀ f, F.fn f) (s : ByteArray) (hs : s.size ≤ 1048576) (lb : Nat) (w : World) (h8 : 8 ≤ w.heap.size)
    {J : List (Wd × Nat) → World → Prop} {Jx : World → Prop} (hE : ∀ pre W, J pre W → Env W) (hkeep : ∀ pre W W', J pre W → w.heap.size < W'.heap.size → Fr w.heap.size W.heap.size W W' → J pre W')
    (hY : ∀ m pre d p W, J pre W → w.heap.size < W.heap.size → pre ++ [(d, p)] <+: lexP s → d.text.length ≤ 4 * s.size → YieldAt F m Tryz.prog lb #[.int .i64 (pre.length : Int), wordV d p] W fun e W' => (e = .returned (.bool true) ∧ J (pre ++ [(d, p)]) W' ∧ W'.heap[w.heap.size]? = W.heap[w.heap.size]?) ∨ (e = .returned (.bool false) ∧ Jx W'))
    (hJ : J [] w) (n : Nat) :
    CallsIn F n Tryz.prog 31 #[.string s, .func (.yield lb) #[] #[]] w fun e w' => Eached s J Jx e w' := by
  have HE := hidE hE
  have HK := hidE hkeep
  have HY := hidE hY
  have HJ := hidE hJ
  clear hE hkeep hY hJ
  have hs' : ¬ (1048576 : Int) < s.size := by omega
  refine callsIn_of_wp Tryz.func31 rfl (hfn _) ?_ hro
  simp only [Tryz.ntmps31, List.size_toArray, List.length_cons, List.length_nil, Nat.reduceAdd, Nat.reduceSub, Array.replicate_succ, Array.replicate_zero, List.push_toArray, List.append_toArray, List.nil_append, List.cons_append]
  gi_wp2_with fail
  obtain ⟨a, ha0⟩ : ∃ a, w.heap.size = a := ⟨_, rfl⟩
  generalize hW0 : World.alloc _ _ = W0
  have HR0 : Hid (Rd W0 a s 0 0) := by rw [← hW0, ← ha0]; exact World.alloc_heap_new _ _
  have HJ0 : Hid (J [] W0) := HK.out [] w W0 HJ.out (by rw [← hW0]; simp) (by rw [← hW0]; exact Fr.of_below ((Below.refl _ _).alloc (Nat.le_refl _) _))
  clear hW0
  rw [ha0] at HK HY h8 ⊢
  clear ha0 HJ
  gi_loopw [8] (fun v wr => ∃ (q c : Nat) (pre : List (Wd × Nat)), q ≤ s.size ∧ Rd wr a s q c ∧ J pre wr ∧ v = .int .i64 (pre.length : Int) ∧ pre.length ≤ q ∧ lexP s = pre ++ lexQ s q ∧ lexO s = (lexB Lib.validD (suf s q)).2) (fun _ wr => s.size - atOf wr a)
  case atStart => exact ⟨0, 0, [], Nat.zero_le _, HR0.out, HJ0.out, rfl, Nat.le_refl _, rfl, rfl⟩
  case round =>
    obtain ⟨q, c, pre, hq, hr, hj, rfl, hpl, hlp, hlo⟩ := hrel
    have HR := hidE hr
    have HJ := hidE hj
    have HP := hidE hlp
    have HO := hidE hlo
    have ha := hr.lt
    have HUp : Hid (atOf wr a = q) := hr.upTo
    clear hr hj hlp hlo
    gi_wp2_with fail
    refine (in_wide HF.out (guard_any a s q c wr HR.out hq (by omega) (HE.out _ _ HJ.out) h8)).mono ?_
    rintro e w1 ⟨j, i, hqj, hj, hi, hr1, hf1, hcase⟩
    have HR1 := hidE hr1
    have HJ1 : Hid (J pre w1) := HK.out pre wr w1 HJ.out hr1.lt hf1
    have ha1 := hr1.lt
    clear hr1 hf1 HR HJ
    rcases hcase with ⟨rfl, hsk⟩ | ⟨d, rfl, hji, hdl, hsk, hjs, hwd⟩ | ⟨rfl, hbad⟩
    · have HN : Hid (lexP s = pre ∧ lexO s = none) := by
        have e := lex_end Lib.validD hsk
        refine ⟨?_, ?_⟩
        · rw [HP.out, lexQ, e]; simp
        · rw [HO.out, e]
      clear hsk
      unfold noWord
      gi_wp2_with fail
      go_ret2
      refine .inl ⟨rfl, HN.out.2, ?_⟩
      rw [HN.out.1]
      exact HK.out pre w1 _ HJ1.out (by simp; omega) (Fr.of_below ((Below.refl _ _).alloc (Nat.le_refl _) _))
    · have HN : Hid (lexP s = (pre ++ [(d, j)]) ++ lexQ s i ∧ lexO s = (lexB Lib.validD (suf s i)).2) := by
        have hne : suf s j ≠ [] := by rw [suf_cons hjs]; simp
        have e := lex_of Lib.validD hsk hne hwd
        refine ⟨?_, ?_⟩
        · rw [HP.out, lexQ, e]
          simp only [List.map_cons, lexQ, suf_len, List.append_assoc, List.singleton_append]
          rw [show s.size - (s.size - j) = j by omega]
        · rw [HO.out, e]
      clear hsk hwd
      unfold wordV
      obtain ⟨kk, hkk⟩ : ∃ kk : Int, (d.kind : Int) = kk := ⟨_, rfl⟩
      obtain ⟨nn, hnn⟩ : ∃ nn : Int, (d.num : Int) = nn := ⟨_, rfl⟩
      obtain ⟨tt, htt⟩ : ∃ tt, bsOf d.text = tt := ⟨_, rfl⟩
      have HWV : Hid (wordV d j = .agg #[.int .i64 kk, .int .i64 (j : Int), .string tt, .int .u64 nn]) := by show _ = _; rw [wordV, hkk, hnn, htt]
      rw [hkk, hnn, htt]
      clear hkk hnn htt
      have hy := HY.out (n - 1) pre d j (w1.alloc (.cells #[.int .i64 kk, .int .i64 (j : Int), .string tt, .int .u64 nn] 33)) (HK.out pre w1 _ HJ1.out (by simp; omega) (Fr.of_below ((Below.refl _ _).alloc (Nat.le_refl _) _))) (by simp; omega) (by rw [HN.out.1]; exact List.prefix_append _ _) hdl
      rw [HWV.out] at hy
      obtain ⟨fn, tmps, assign, body, hy1, hR⟩ := hy
      gi_wp2_with fail
      refine hR.mono ?_
      clear hR hy1
      rintro e w3 (⟨rfl, hj3, hk3⟩ | ⟨rfl, hx⟩)
      · have HJ3 := hidE hj3
        have HR3 : Hid (Rd w3 a s i j) := hk3.trans (HR1.out.below ((Below.refl _ _).alloc (Nat.le_refl _) _) ha1)
        clear hj3 hk3 HR1 HJ1
        gi_wp2_with fail
        go_roundw
        case rel => exact ⟨i, j, pre ++ [(d, j)], hi, HR3.out, HJ3.out, by simp, by simp; omega, HN.out.1, HN.out.2⟩
        case measure => rw [HR3.out.upTo, HUp.out]; omega
      · gi_wp2_with fail
        go_ret2
        exact .inr (.inr ⟨rfl, hx⟩)
    · have HN : Hid (lexP s = pre ∧ lexO s = some (s.size - j)) := by
        rcases hbad with hsk | ⟨hsk, hjs, hwd⟩
        · have e := lex_bad Lib.validD hsk
          refine ⟨?_, ?_⟩
          · rw [HP.out, lexQ, e]; simp
          · rw [HO.out, e, suf_len]
        · have hne : suf s j ≠ [] := by rw [suf_cons hjs]; simp
          have e := lex_none Lib.validD hsk hne hwd
          refine ⟨?_, ?_⟩
          · rw [HP.out, lexQ, e]; simp
          · rw [HO.out, e, suf_len]
      clear hbad
      unfold noWord
      have hb2 := (HR1.out.below (w' := w1.alloc (.cells #[.int .i64 0, .int .i64 0, .string ⟨#[]⟩, .int .u64 0] 33)) ((Below.refl _ _).alloc (Nat.le_refl _) _) ha1).c2
      gi_wp2_with fail
      go_ret2
      refine .inr (.inl ⟨j, hj, rfl, HN.out.2, ?_⟩)
      rw [HN.out.1]
      exact HK.out pre w1 _ HJ1.out (by simp; omega) (Fr.of_below ((Below.refl _ _).alloc (Nat.le_refl _) _))
end Go.Proofs.YtbjcdpenfijfoaaGreatDoor
