/- The document's words: the one at a place. -/
import Derived.Test.YtbjcdpenfijfoaaGreatDoorJoin9
import Derived.Test.YtbjcdpenfijfoaaGreatDoorJoin10
namespace Go.Proofs.YtbjcdpenfijfoaaGreatDoor
open Go.RowKit Go.Shelf Go.Lexed
open Go.Lib (byteCells byteCells_length)
set_option linter.unusedVariables false
set_option linter.unusedSimpArgs false
attribute [local go_sem] Oper.semAt_some
/-- What reading a word answers. -/
def WrdTo (s : ByteArray) (i : Nat) (e : Ending) : Prop :=
  (∃ (d : Wd) (j : Nat), d.text.length ≤ s.size ∧ i < j ∧ j ≤ s.size ∧ wordB Lib.validD (suf s i) = some (d, suf s j) ∧ e = .returned (.tuple #[wordV d i, .int .i64 (j : Int), .bool true])) ∨
  (wordB Lib.validD (suf s i) = none ∧ ∃ (x : W4) (j : Int), e = .returned (.tuple #[x.val, .int .i64 j, .bool false]))
theorem wrd_of {s : ByteArray} {i : Nat} {d : Wd} {j : Nat} {ok : Bool} (hl : d.text.length ≤ s.size) (hij : i < j) (hj : j ≤ s.size) (h : wordB Lib.validD (suf s i) = if ok = true then some (d, suf s j) else none) : WrdTo s i (.returned (.tuple #[wordV d i, .int .i64 (j : Int), .bool ok])) := by
  cases ok with
  | true => exact .inl ⟨d, j, hl, hij, hj, h, rfl⟩
  | false => exact .inr ⟨h, toW4 (d, i), _, rfl⟩
theorem run_next {s : ByteArray} {i q : Nat} (hiq : i ≤ q) (hq : q < s.size) (h : (s.extract i q).data.toList.all isLD = true) (hc : isLD s[q] = true) : (s.extract i (q + 1)).data.toList.all isLD = true := by
  rw [ext_snoc hiq hq, List.all_append, h]
  simp [hc]
theorem sg_size : ∀ K ∈ sgL, 1 ≤ K.size ∧ K.size ≤ 2 := by decide
theorem starts_len {s : ByteArray} {i : Nat} {K : ByteArray} (h : startsB s i K.data.toList = true) : i + K.size ≤ s.size ∨ K.size = 0 := by
  unfold startsB at h
  have := (List.isPrefixOf_iff_prefix.1 h).length_le
  simp only [List.length_drop, Array.length_toList] at this
  have e1 : K.data.size = K.size := rfl
  have e2 : s.data.size = s.size := rfl
  omega
theorem cell_other {w : World} {a c p q : Nat} {u : Value} (hne : p ≠ a) : (w.setCell ⟨a, c, none⟩ u).cell? ⟨p, q, none⟩ = w.cell? ⟨p, q, none⟩ := by
  unfold World.cell?
  simp only
  rw [Below.heap_setCell _ _ _ _ (by exact hne)]
set_option maxRecDepth 100000 in
set_option maxHeartbeats 4000000 in
theorem rword_any (s : ByteArray) (i : Nat) (hi : i < s.size) (hs : s.size ≤ 1000000000) (w : World) : Calls Tryz.prog 34 #[.string s, .int .i64 (i : Int)] w fun e w' => WrdTo s i e ∧ Below w.heap.size w w' := by
  have hi' : (i : Int) < s.size := by omega
  obtain ⟨c, hc⟩ : ∃ c, s[i] = c := ⟨_, rfl⟩
  obtain ⟨m, hm⟩ : ∃ m, c.toNat = m := ⟨_, rfl⟩
  have hm2 : m < 256 := by rw [← hm]; exact c.toNat_lt
  have hcn : (s[i].toNat : Int) = m := by rw [hc, hm]
  have HSU : Hid (suf s i = c :: suf s (i + 1)) := by show _ = _; rw [suf_cons hi, hc]
  have HC := hidE hc
  have HM := hidE hm
  have HL := hidE (fun n hn w => rletter_any n hn w)
  have HD := hidE (fun n hn w => rdigit_any n hn w)
  clear hc hm
  go_enter Tryz.func34, Tryz.ntmps34
  go_upto_region 2 with fail
  obtain ⟨b, hb⟩ : ∃ b, w.heap.size = b := ⟨_, rfl⟩
  generalize hW1 : World.alloc _ _ = W1
  have HA1 : Hid (Wo W1 b 0 0 0 ⟨#[]⟩) := by
    rw [← hW1, ← hb]
    refine Wo.keep (w := w.alloc (.cells #[.int .i64 0, .int .i64 0, .string ⟨#[]⟩, .int .u64 0] 33)) (World.alloc_heap_new _ _) (Below.heap_alloc _ _ _ ?_)
    simp
  have HV1 : Hid (Wo W1 (b + 1) 0 i 0 ⟨#[]⟩) := by
    rw [← hW1, ← hb]
    have := World.alloc_heap_new (w.alloc (.cells #[.int .i64 0, .int .i64 0, .string ⟨#[]⟩, .int .u64 0] 33)) (.cells #[.int .i64 0, .int .i64 (i : Int), .string ⟨#[]⟩, .int .u64 0] 33)
    rwa [show (w.alloc (.cells #[.int .i64 0, .int .i64 0, .string ⟨#[]⟩, .int .u64 0] 33)).heap.size = w.heap.size + 1 by simp] at this
  have HW1 : Hid (Below b w W1) := by
    rw [← hW1, ← hb]
    exact ((Below.refl _ _).alloc (Nat.le_refl _) _).alloc (by simp) _
  clear hW1
  rw [hb]
  have HBB := hidE hb
  clear hb
  have hz1 : b + 1 < W1.heap.size := HV1.out.lt
  cases hl0 : letN m with
  | true =>
    have HLT := hidE hl0
    clear hl0
    go_wp2_with fail
    refine (HL.out m hm2 _).mono ?_
    rw [HLT.out]
    rintro e w2 ⟨rfl, rfl⟩
    go_wp2_with fail
    clear hcn
    go_loopw [9] (fun v wr => ∃ q : Nat, i ≤ q ∧ q ≤ s.size ∧ v = .int .i64 q ∧ wr = w2 ∧ (s.extract i q).data.toList.all isLD = true) (fun v _ => s.size - (intOf v).toNat)
    case atStart => exact ⟨i, Nat.le_refl _, by omega, rfl, rfl, by rw [ext_list]; simp⟩
    case round =>
      obtain ⟨q, hiq, hq, rfl, rfl, hal⟩ := hrel
      have HAL := hidE hal
      clear hal
      by_cases hlt : q < s.size
      · have hlt' : (q : Int) < s.size := by omega
        obtain ⟨n, hn⟩ : ∃ n, s[q].toNat = n := ⟨_, rfl⟩
        have hn2 : n < 256 := by rw [← hn]; exact s[q].toNat_lt
        have hn' : (s[q].toNat : Int) = n := by rw [hn]
        have HN := hidE hn
        clear hn
        go_wp2_with fail
        refine (HL.out n hn2 _).mono ?_
        cases hln : letN n with
        | true =>
          have HNX := hidE (run_next hiq hlt HAL.out (by rw [isLD, isL_let, HN.out, hln]; rfl))
          rintro e w3 ⟨rfl, rfl⟩
          go_wp2_with fail
          go_roundw
          case rel => exact ⟨q + 1, by omega, by omega, by go_num, trivial, HNX.out⟩
          case measure => simp [intOf]; omega
        | false =>
          rintro e w3 ⟨rfl, rfl⟩
          go_wp2_with fail
          refine (HD.out n hn2 _).mono ?_
          cases hdn : digN n with
          | true =>
            have HNX := hidE (run_next hiq hlt HAL.out (by rw [isLD, isL_let, isD_dig, HN.out, hln, hdn]; rfl))
            rintro e w3 ⟨rfl, rfl⟩
            go_wp2_with fail
            go_roundw
            case rel => exact ⟨q + 1, by omega, by omega, by go_num, trivial, HNX.out⟩
            case measure => simp [intOf]; omega
          | false =>
            have HEN : Hid (∀ c ∈ (suf s q).head?, isLD c = false) := by
              intro x hx
              rw [suf_cons hlt] at hx
              simp only [List.head?_cons, Option.mem_some_iff] at hx
              rw [← hx, isLD, isL_let, isD_dig, HN.out, hln, hdn]; rfl
            have hiq2 : i < q := by
              rcases Nat.lt_or_ge i q with h | h
              · exact h
              · have e : q = i := by omega
                subst e
                have h1 := HEN.out c (by rw [HSU.out]; simp)
                rw [isLD, isL_let, HM.out, HLT.out] at h1
                cases h1
            rintro e w3 ⟨rfl, rfl⟩
            have HRT := hidE (run_to hiq HAL.out HEN.out)
            have HWD : Hid (wordB Lib.validD (suf s i) = if nameOk Lib.validD (s.extract i q).data.toList = true then some (⟨1, (s.extract i q).data.toList, 0⟩, suf s q) else none) := by
              show _ = _
              rw [HSU.out, wordB, if_pos (by rw [isL_let, HM.out, HLT.out]), ← HSU.out, HRT.out.1, HRT.out.2]
            obtain ⟨T, hT⟩ : ∃ T, s.extract i q = T := ⟨_, rfl⟩
            have HTS : Hid (T.data.toList.length ≤ s.size) := by
              show _ ≤ _
              rw [← hT, ext_list]
              simp [suf]
              omega
            have HNM := hidE (fun w => rname_any T w (by have := HTS.out; have e : T.data.toList.length = T.size := rfl; omega))
            rw [hT] at HWD
            have hiq' : (i : Int) ≤ q := by omega
            have hqs' : (q : Int) ≤ s.size := by omega
            have a0 := HV1.out.c0
            have a2 := HV1.out.c2
            have az0 := HV1.out.z 0
            have az2 := HV1.out.z 2
            go_wp2_with fail
            go_region_with fail
            all_goals
              generalize hW2 : World.drew _ = W2
              have HV2 : Hid (Wo W2 (b + 1) 1 i 0 T) := by rw [← hW2]; exact (HV1.out.set0 1).set2 T
              have HA2 : Hid (Wo W2 b 0 0 0 ⟨#[]⟩) := by rw [← hW2]; exact (HA1.out.other (by omega)).other (by omega)
              have HB2 : Hid (Below b w W2) := by rw [← hW2]; exact ((HW1.out.setCell (Nat.le_succ _) _).setCell (Nat.le_succ _) _).drew
              clear hW2 HV1 HA1 HW1 a0 a2 az0 az2 hz1
              have a0 := HV2.out.c0
              have a1 := HV2.out.c1
              have a2 := HV2.out.c2
              have a3 := HV2.out.c3
              have az0 := HV2.out.z 0
              have az1 := HV2.out.z 1
              have az2 := HV2.out.z 2
              have az3 := HV2.out.z 3
              have r0 := HA2.out.c0
              have r1 := HA2.out.c1
              have r2 := HA2.out.c2
              have r3 := HA2.out.c3
              have rz0 := HA2.out.z 0
              have rz1 := HA2.out.z 1
              have rz2 := HA2.out.z 2
              have rz3 := HA2.out.z 3
              go_wp2_with fail
              go_region_with (refine (HNM.out _).mono ?_; rintro e w5 ⟨rfl, rfl⟩)
              all_goals
                clear a0 a1 a2 a3 az0 az1 az2 az3 r0 r1 r2 r3 rz0 rz1 rz2 rz3
                go_wp2_with fail
                have HB9 : Hid (Below b w (((((W2.setCell ⟨b, 0, none⟩ (.int .i64 1)).setCell ⟨b, 1, none⟩ (.int .i64 (i : Int))).setCell ⟨b, 2, none⟩ (.string T)).setCell ⟨b, 3, none⟩ (.int .u64 0))).drew) := ((((HB2.out.setCell (Nat.le_refl _) _).setCell (Nat.le_refl _) _).setCell (Nat.le_refl _) _).setCell (Nat.le_refl _) _).drew
                have HA9 : Hid (Wo (((((W2.setCell ⟨b, 0, none⟩ (.int .i64 1)).setCell ⟨b, 1, none⟩ (.int .i64 (i : Int))).setCell ⟨b, 2, none⟩ (.string T)).setCell ⟨b, 3, none⟩ (.int .u64 0))).drew b 1 i 0 T) := (((HA2.out.set0 _).set1 _).set2 _).set3 _
                generalize hW9 : (((((W2.setCell ⟨b, 0, none⟩ (.int .i64 1)).setCell ⟨b, 1, none⟩ (.int .i64 (i : Int))).setCell ⟨b, 2, none⟩ (.string T)).setCell ⟨b, 3, none⟩ (.int .u64 0))).drew = W9 at HB9 HA9 ⊢
                clear hW9
                have q0 := HA9.out.c0
                have q1 := HA9.out.c1
                have q2 := HA9.out.c2
                have q3 := HA9.out.c3
                refine bodyPost_ret (v := .tuple #[wordV ⟨1, T.data.toList, 0⟩ i, .int .i64 (q : Int), .bool (nameOk Lib.validD T.data.toList)]) ?_ rfl ?_
                · simp [results, Tryz.results34, go_sem, q0, q1, q2, q3, wordV, of_bs, W4.val]
                · exact ⟨wrd_of (d := ⟨1, T.data.toList, 0⟩) HTS.out hiq2 hq HWD.out, by rw [HBB.out]; exact HB9.out⟩
      · have hlt' : ¬ (q : Int) < s.size := by omega
        have HEN : Hid (∀ c ∈ (suf s q).head?, isLD c = false) := by
          intro x hx
          rw [suf_end (by omega)] at hx
          cases hx
        have hiq2 : i < q := by omega
        have HRT := hidE (run_to hiq HAL.out HEN.out)
        have HWD : Hid (wordB Lib.validD (suf s i) = if nameOk Lib.validD (s.extract i q).data.toList = true then some (⟨1, (s.extract i q).data.toList, 0⟩, suf s q) else none) := by
          show _ = _
          rw [HSU.out, wordB, if_pos (by rw [isL_let, HM.out, HLT.out]), ← HSU.out, HRT.out.1, HRT.out.2]
        obtain ⟨T, hT⟩ : ∃ T, s.extract i q = T := ⟨_, rfl⟩
        have HTS : Hid (T.data.toList.length ≤ s.size) := by
          show _ ≤ _
          rw [← hT, ext_list]
          simp [suf]
          omega
        have HNM := hidE (fun w => rname_any T w (by have := HTS.out; have e : T.data.toList.length = T.size := rfl; omega))
        rw [hT] at HWD
        have hiq' : (i : Int) ≤ q := by omega
        have hqs' : (q : Int) ≤ s.size := by omega
        have a0 := HV1.out.c0
        have a2 := HV1.out.c2
        have az0 := HV1.out.z 0
        have az2 := HV1.out.z 2
        go_wp2_with fail
        go_region_with fail
        all_goals
          generalize hW2 : World.drew _ = W2
          have HV2 : Hid (Wo W2 (b + 1) 1 i 0 T) := by rw [← hW2]; exact (HV1.out.set0 1).set2 T
          have HA2 : Hid (Wo W2 b 0 0 0 ⟨#[]⟩) := by rw [← hW2]; exact (HA1.out.other (by omega)).other (by omega)
          have HB2 : Hid (Below b w W2) := by rw [← hW2]; exact ((HW1.out.setCell (Nat.le_succ _) _).setCell (Nat.le_succ _) _).drew
          clear hW2 HV1 HA1 HW1 a0 a2 az0 az2 hz1
          have a0 := HV2.out.c0
          have a1 := HV2.out.c1
          have a2 := HV2.out.c2
          have a3 := HV2.out.c3
          have az0 := HV2.out.z 0
          have az1 := HV2.out.z 1
          have az2 := HV2.out.z 2
          have az3 := HV2.out.z 3
          have r0 := HA2.out.c0
          have r1 := HA2.out.c1
          have r2 := HA2.out.c2
          have r3 := HA2.out.c3
          have rz0 := HA2.out.z 0
          have rz1 := HA2.out.z 1
          have rz2 := HA2.out.z 2
          have rz3 := HA2.out.z 3
          go_wp2_with fail
          go_region_with (refine (HNM.out _).mono ?_; rintro e w5 ⟨rfl, rfl⟩)
          all_goals
            clear a0 a1 a2 a3 az0 az1 az2 az3 r0 r1 r2 r3 rz0 rz1 rz2 rz3
            go_wp2_with fail
            have HB9 : Hid (Below b w (((((W2.setCell ⟨b, 0, none⟩ (.int .i64 1)).setCell ⟨b, 1, none⟩ (.int .i64 (i : Int))).setCell ⟨b, 2, none⟩ (.string T)).setCell ⟨b, 3, none⟩ (.int .u64 0))).drew) := ((((HB2.out.setCell (Nat.le_refl _) _).setCell (Nat.le_refl _) _).setCell (Nat.le_refl _) _).setCell (Nat.le_refl _) _).drew
            have HA9 : Hid (Wo (((((W2.setCell ⟨b, 0, none⟩ (.int .i64 1)).setCell ⟨b, 1, none⟩ (.int .i64 (i : Int))).setCell ⟨b, 2, none⟩ (.string T)).setCell ⟨b, 3, none⟩ (.int .u64 0))).drew b 1 i 0 T) := (((HA2.out.set0 _).set1 _).set2 _).set3 _
            generalize hW9 : (((((W2.setCell ⟨b, 0, none⟩ (.int .i64 1)).setCell ⟨b, 1, none⟩ (.int .i64 (i : Int))).setCell ⟨b, 2, none⟩ (.string T)).setCell ⟨b, 3, none⟩ (.int .u64 0))).drew = W9 at HB9 HA9 ⊢
            clear hW9
            have q0 := HA9.out.c0
            have q1 := HA9.out.c1
            have q2 := HA9.out.c2
            have q3 := HA9.out.c3
            refine bodyPost_ret (v := .tuple #[wordV ⟨1, T.data.toList, 0⟩ i, .int .i64 (q : Int), .bool (nameOk Lib.validD T.data.toList)]) ?_ rfl ?_
            · simp [results, Tryz.results34, go_sem, q0, q1, q2, q3, wordV, of_bs, W4.val]
            · exact ⟨wrd_of (d := ⟨1, T.data.toList, 0⟩) HTS.out hiq2 hq HWD.out, by rw [HBB.out]; exact HB9.out⟩
  | false =>
    have HLF := hidE hl0
    clear hl0
    go_wp2_with fail
    refine (HL.out m hm2 _).mono ?_
    rw [HLF.out]
    rintro e w2 ⟨rfl, rfl⟩
    have HNL : Hid (isL c = false) := by show _ = _; rw [isL_let, HM.out, HLF.out]
    have HCE : Hid (∀ k : Nat, k < 256 → m = k → c = UInt8.ofNat k) := fun k hk h => byte_of hk (by rw [HM.out, h])
    have HCN : Hid (∀ k : Nat, k < 256 → ¬ m = k → ¬ c = UInt8.ofNat k) := fun k hk h he => h (by rw [← HM.out, he]; exact byte_nat hk)
    by_cases h96 : m = 96
    · subst h96
      have HWB : Hid (wordB Lib.validD (suf s i) = match quotB (suf s (i + 1)) with | some p => if nameOk Lib.validD p.1 then some (⟨2, p.1, 0⟩, p.2) else none | none => none) := by
        show _ = _
        rw [HSU.out, wordB, if_neg (by rw [HNL.out]; decide), if_pos (show c = 96 from HCE.out 96 (by decide) rfl)]
        rfl
      go_wp2_with fail
      refine (rquoted_any s i hi hs _).mono ?_
      rintro e w3 ⟨hq3, hb3⟩
      have HB3 := hidE (HW1.out.trans (hb3.mono (Nat.le_of_lt (Nat.lt_of_succ_lt hz1))))
      have HV3 : Hid (Wo w3 (b + 1) 0 i 0 ⟨#[]⟩) := HV1.out.below hb3 hz1
      have HA3 : Hid (Wo w3 b 0 0 0 ⟨#[]⟩) := HA1.out.below hb3 (by omega)
      clear hb3 HV1 HA1 HW1
      have a0 := HV3.out.c0
      have a1 := HV3.out.c1
      have a2 := HV3.out.c2
      have a3 := HV3.out.c3
      have az0 := HV3.out.z 0
      have az1 := HV3.out.z 1
      have az2 := HV3.out.z 2
      have az3 := HV3.out.z 3
      have r0 := HA3.out.c0
      have r1 := HA3.out.c1
      have r2 := HA3.out.c2
      have r3 := HA3.out.c3
      have rz0 := HA3.out.z 0
      have rz1 := HA3.out.z 1
      have rz2 := HA3.out.z 2
      have rz3 := HA3.out.z 3
      rcases hq3 with ⟨t, j, htl, hij, hjs, hrd, rfl⟩ | ⟨hrd, rfl⟩
      · have HWD : Hid (wordB Lib.validD (suf s i) = if (nameOk Lib.validD t) = true then some (⟨2, t, 0⟩, suf s j) else none) := by
          show _ = _
          rw [HWB.out, hrd]
        clear hrd
        obtain ⟨T, hT⟩ : ∃ T, bsOf t = T := ⟨_, rfl⟩
        obtain ⟨ok, hok⟩ : ∃ ok, (nameOk Lib.validD t) = ok := ⟨_, rfl⟩
        rw [hok] at HWD
        have HT := hidE hT
        rw [hT, hok]
        clear hT hok
        go_upto_region 12 with fail
        generalize hW4 : World.setCell _ _ _ = Wx
        have HV4 : Hid (Wo Wx (b + 1) 2 i 0 T) := by rw [← hW4]; exact (HV3.out.set0 2).set2 T
        have HA4 : Hid (Wo Wx b 0 0 0 ⟨#[]⟩) := by rw [← hW4]; exact (HA3.out.other (by omega)).other (by omega)
        have HB4 : Hid (Below b w Wx) := by rw [← hW4]; exact (HB3.out.setCell (Nat.le_succ _) _).setCell (Nat.le_succ _) _
        clear hW4 HV3 HA3 HB3
        clear a0 a1 a2 a3 az0 az1 az2 az3 r0 r1 r2 r3 rz0 rz1 rz2 rz3
        have a0 := HV4.out.c0
        have a1 := HV4.out.c1
        have a2 := HV4.out.c2
        have a3 := HV4.out.c3
        have az0 := HV4.out.z 0
        have az1 := HV4.out.z 1
        have az2 := HV4.out.z 2
        have az3 := HV4.out.z 3
        have r0 := HA4.out.c0
        have r1 := HA4.out.c1
        have r2 := HA4.out.c2
        have r3 := HA4.out.c3
        have rz0 := HA4.out.z 0
        have rz1 := HA4.out.z 1
        have rz2 := HA4.out.z 2
        have rz3 := HA4.out.z 3
        go_wp2_with fail
        clear a0 a1 a2 a3 az0 az1 az2 az3 r0 r1 r2 r3 rz0 rz1 rz2 rz3
        have HB9 : Hid (Below b w ((((Wx.setCell ⟨b, 0, none⟩ (.int .i64 2)).setCell ⟨b, 1, none⟩ (.int .i64 (i : Int))).setCell ⟨b, 2, none⟩ (.string T)).setCell ⟨b, 3, none⟩ (.int .u64 0))) := ((((HB4.out.setCell (Nat.le_refl _) _).setCell (Nat.le_refl _) _).setCell (Nat.le_refl _) _).setCell (Nat.le_refl _) _)
        have HA9 : Hid (Wo ((((Wx.setCell ⟨b, 0, none⟩ (.int .i64 2)).setCell ⟨b, 1, none⟩ (.int .i64 (i : Int))).setCell ⟨b, 2, none⟩ (.string T)).setCell ⟨b, 3, none⟩ (.int .u64 0)) b 2 i 0 T) := (((HA4.out.set0 _).set1 _).set2 _).set3 _
        generalize hW9 : ((((Wx.setCell ⟨b, 0, none⟩ (.int .i64 2)).setCell ⟨b, 1, none⟩ (.int .i64 (i : Int))).setCell ⟨b, 2, none⟩ (.string T)).setCell ⟨b, 3, none⟩ (.int .u64 0)) = W9 at HB9 HA9 ⊢
        clear hW9
        have q0 := HA9.out.c0
        have q1 := HA9.out.c1
        have q2 := HA9.out.c2
        have q3 := HA9.out.c3
        refine bodyPost_ret (v := .tuple #[wordV ⟨2, t, 0⟩ i, .int .i64 (j : Int), .bool ok]) ?_ rfl ?_
        · simp [results, Tryz.results34, go_sem, q0, q1, q2, q3, wordV, of_bs, W4.val, HT.out]
        · exact ⟨wrd_of (d := ⟨2, t, 0⟩) htl hij hjs HWD.out, by rw [HBB.out]; exact HB9.out⟩
      · have HWD : Hid (wordB Lib.validD (suf s i) = none) := by
          show _ = _
          rw [HWB.out, hrd]
        clear hrd
        go_upto_region 12 with fail
        generalize hW4 : World.setCell _ _ _ = Wx
        have HV4 : Hid (Wo Wx (b + 1) 2 i 0 ⟨#[]⟩) := by rw [← hW4]; exact (HV3.out.set0 2).set2 ⟨#[]⟩
        have HA4 : Hid (Wo Wx b 0 0 0 ⟨#[]⟩) := by rw [← hW4]; exact (HA3.out.other (by omega)).other (by omega)
        have HB4 : Hid (Below b w Wx) := by rw [← hW4]; exact (HB3.out.setCell (Nat.le_succ _) _).setCell (Nat.le_succ _) _
        clear hW4 HV3 HA3 HB3
        clear a0 a1 a2 a3 az0 az1 az2 az3 r0 r1 r2 r3 rz0 rz1 rz2 rz3
        have a0 := HV4.out.c0
        have a1 := HV4.out.c1
        have a2 := HV4.out.c2
        have a3 := HV4.out.c3
        have az0 := HV4.out.z 0
        have az1 := HV4.out.z 1
        have az2 := HV4.out.z 2
        have az3 := HV4.out.z 3
        have r0 := HA4.out.c0
        have r1 := HA4.out.c1
        have r2 := HA4.out.c2
        have r3 := HA4.out.c3
        have rz0 := HA4.out.z 0
        have rz1 := HA4.out.z 1
        have rz2 := HA4.out.z 2
        have rz3 := HA4.out.z 3
        go_wp2_with fail
        clear a0 a1 a2 a3 az0 az1 az2 az3 r0 r1 r2 r3 rz0 rz1 rz2 rz3
        have HB9 : Hid (Below b w ((((Wx.setCell ⟨b, 0, none⟩ (.int .i64 2)).setCell ⟨b, 1, none⟩ (.int .i64 (i : Int))).setCell ⟨b, 2, none⟩ (.string ⟨#[]⟩)).setCell ⟨b, 3, none⟩ (.int .u64 0))) := ((((HB4.out.setCell (Nat.le_refl _) _).setCell (Nat.le_refl _) _).setCell (Nat.le_refl _) _).setCell (Nat.le_refl _) _)
        have HA9 : Hid (Wo ((((Wx.setCell ⟨b, 0, none⟩ (.int .i64 2)).setCell ⟨b, 1, none⟩ (.int .i64 (i : Int))).setCell ⟨b, 2, none⟩ (.string ⟨#[]⟩)).setCell ⟨b, 3, none⟩ (.int .u64 0)) b 2 i 0 ⟨#[]⟩) := (((HA4.out.set0 _).set1 _).set2 _).set3 _
        generalize hW9 : ((((Wx.setCell ⟨b, 0, none⟩ (.int .i64 2)).setCell ⟨b, 1, none⟩ (.int .i64 (i : Int))).setCell ⟨b, 2, none⟩ (.string ⟨#[]⟩)).setCell ⟨b, 3, none⟩ (.int .u64 0)) = W9 at HB9 HA9 ⊢
        clear hW9
        have q0 := HA9.out.c0
        have q1 := HA9.out.c1
        have q2 := HA9.out.c2
        have q3 := HA9.out.c3
        refine bodyPost_ret (v := .tuple #[(W4.mk 2 i ⟨#[]⟩ 0).val, .int .i64 (i : Int), .bool false]) ?_ rfl ?_
        · simp [results, Tryz.results34, go_sem, q0, q1, q2, q3, wordV, of_bs, W4.val]
        · exact ⟨.inr ⟨HWD.out, _, _, rfl⟩, by rw [HBB.out]; exact HB9.out⟩
    · have g96 : ((m : Int) == 96) = false := ne_bool (by omega)
      by_cases hqq : m = 39 ∨ m = 34
      · have HZ : Hid (c = 39 ∨ c = 34) := hqq.imp (fun h => HCE.out 39 (by decide) h) (fun h => HCE.out 34 (by decide) h)
        have HWB : Hid (wordB Lib.validD (suf s i) = match textB c (suf s (i + 1)) with | some p => if Lib.validD p.1 then some (⟨3, p.1, 0⟩, p.2) else none | none => none) := by
          show _ = _
          rw [HSU.out, wordB, if_neg (by rw [HNL.out]; decide), if_neg (show ¬ c = 96 from HCN.out 96 (by decide) h96), if_pos HZ.out]
          rfl
        by_cases h39 : m = 39
        · subst h39
          go_wp2_with fail
          refine (rtext_any s i c hi HC.out HZ.out hs _).mono ?_
          rintro e w3 ⟨hq3, hb3⟩
          have HB3 := hidE (HW1.out.trans (hb3.mono (Nat.le_of_lt (Nat.lt_of_succ_lt hz1))))
          have HV3 : Hid (Wo w3 (b + 1) 0 i 0 ⟨#[]⟩) := HV1.out.below hb3 hz1
          have HA3 : Hid (Wo w3 b 0 0 0 ⟨#[]⟩) := HA1.out.below hb3 (by omega)
          clear hb3 HV1 HA1 HW1
          have a0 := HV3.out.c0
          have a1 := HV3.out.c1
          have a2 := HV3.out.c2
          have a3 := HV3.out.c3
          have az0 := HV3.out.z 0
          have az1 := HV3.out.z 1
          have az2 := HV3.out.z 2
          have az3 := HV3.out.z 3
          have r0 := HA3.out.c0
          have r1 := HA3.out.c1
          have r2 := HA3.out.c2
          have r3 := HA3.out.c3
          have rz0 := HA3.out.z 0
          have rz1 := HA3.out.z 1
          have rz2 := HA3.out.z 2
          have rz3 := HA3.out.z 3
          rcases hq3 with ⟨t, j, htl, hij, hjs, hrd, rfl⟩ | ⟨hrd, rfl⟩
          · have HWD : Hid (wordB Lib.validD (suf s i) = if (Lib.validD t) = true then some (⟨3, t, 0⟩, suf s j) else none) := by
              show _ = _
              rw [HWB.out, hrd]
            clear hrd
            obtain ⟨T, hT⟩ : ∃ T, bsOf t = T := ⟨_, rfl⟩
            obtain ⟨ok, hok⟩ : ∃ ok, (Lib.validD t) = ok := ⟨_, rfl⟩
            rw [hok] at HWD
            have HT := hidE hT
            rw [hT, hok]
            clear hT hok
            go_upto_region 16 with fail
            generalize hW4 : World.setCell _ _ _ = Wx
            have HV4 : Hid (Wo Wx (b + 1) 3 i 0 T) := by rw [← hW4]; exact (HV3.out.set0 3).set2 T
            have HA4 : Hid (Wo Wx b 0 0 0 ⟨#[]⟩) := by rw [← hW4]; exact (HA3.out.other (by omega)).other (by omega)
            have HB4 : Hid (Below b w Wx) := by rw [← hW4]; exact (HB3.out.setCell (Nat.le_succ _) _).setCell (Nat.le_succ _) _
            clear hW4 HV3 HA3 HB3
            clear a0 a1 a2 a3 az0 az1 az2 az3 r0 r1 r2 r3 rz0 rz1 rz2 rz3
            have a0 := HV4.out.c0
            have a1 := HV4.out.c1
            have a2 := HV4.out.c2
            have a3 := HV4.out.c3
            have az0 := HV4.out.z 0
            have az1 := HV4.out.z 1
            have az2 := HV4.out.z 2
            have az3 := HV4.out.z 3
            have r0 := HA4.out.c0
            have r1 := HA4.out.c1
            have r2 := HA4.out.c2
            have r3 := HA4.out.c3
            have rz0 := HA4.out.z 0
            have rz1 := HA4.out.z 1
            have rz2 := HA4.out.z 2
            have rz3 := HA4.out.z 3
            go_wp2_with fail
            clear a0 a1 a2 a3 az0 az1 az2 az3 r0 r1 r2 r3 rz0 rz1 rz2 rz3
            have HB9 : Hid (Below b w ((((Wx.setCell ⟨b, 0, none⟩ (.int .i64 3)).setCell ⟨b, 1, none⟩ (.int .i64 (i : Int))).setCell ⟨b, 2, none⟩ (.string T)).setCell ⟨b, 3, none⟩ (.int .u64 0))) := ((((HB4.out.setCell (Nat.le_refl _) _).setCell (Nat.le_refl _) _).setCell (Nat.le_refl _) _).setCell (Nat.le_refl _) _)
            have HA9 : Hid (Wo ((((Wx.setCell ⟨b, 0, none⟩ (.int .i64 3)).setCell ⟨b, 1, none⟩ (.int .i64 (i : Int))).setCell ⟨b, 2, none⟩ (.string T)).setCell ⟨b, 3, none⟩ (.int .u64 0)) b 3 i 0 T) := (((HA4.out.set0 _).set1 _).set2 _).set3 _
            generalize hW9 : ((((Wx.setCell ⟨b, 0, none⟩ (.int .i64 3)).setCell ⟨b, 1, none⟩ (.int .i64 (i : Int))).setCell ⟨b, 2, none⟩ (.string T)).setCell ⟨b, 3, none⟩ (.int .u64 0)) = W9 at HB9 HA9 ⊢
            clear hW9
            have q0 := HA9.out.c0
            have q1 := HA9.out.c1
            have q2 := HA9.out.c2
            have q3 := HA9.out.c3
            refine bodyPost_ret (v := .tuple #[wordV ⟨3, t, 0⟩ i, .int .i64 (j : Int), .bool ok]) ?_ rfl ?_
            · simp [results, Tryz.results34, go_sem, q0, q1, q2, q3, wordV, of_bs, W4.val, HT.out]
            · exact ⟨wrd_of (d := ⟨3, t, 0⟩) htl hij hjs HWD.out, by rw [HBB.out]; exact HB9.out⟩
          · have HWD : Hid (wordB Lib.validD (suf s i) = none) := by
              show _ = _
              rw [HWB.out, hrd]
            clear hrd
            go_upto_region 16 with fail
            generalize hW4 : World.setCell _ _ _ = Wx
            have HV4 : Hid (Wo Wx (b + 1) 3 i 0 ⟨#[]⟩) := by rw [← hW4]; exact (HV3.out.set0 3).set2 ⟨#[]⟩
            have HA4 : Hid (Wo Wx b 0 0 0 ⟨#[]⟩) := by rw [← hW4]; exact (HA3.out.other (by omega)).other (by omega)
            have HB4 : Hid (Below b w Wx) := by rw [← hW4]; exact (HB3.out.setCell (Nat.le_succ _) _).setCell (Nat.le_succ _) _
            clear hW4 HV3 HA3 HB3
            clear a0 a1 a2 a3 az0 az1 az2 az3 r0 r1 r2 r3 rz0 rz1 rz2 rz3
            have a0 := HV4.out.c0
            have a1 := HV4.out.c1
            have a2 := HV4.out.c2
            have a3 := HV4.out.c3
            have az0 := HV4.out.z 0
            have az1 := HV4.out.z 1
            have az2 := HV4.out.z 2
            have az3 := HV4.out.z 3
            have r0 := HA4.out.c0
            have r1 := HA4.out.c1
            have r2 := HA4.out.c2
            have r3 := HA4.out.c3
            have rz0 := HA4.out.z 0
            have rz1 := HA4.out.z 1
            have rz2 := HA4.out.z 2
            have rz3 := HA4.out.z 3
            go_wp2_with fail
            clear a0 a1 a2 a3 az0 az1 az2 az3 r0 r1 r2 r3 rz0 rz1 rz2 rz3
            have HB9 : Hid (Below b w ((((Wx.setCell ⟨b, 0, none⟩ (.int .i64 3)).setCell ⟨b, 1, none⟩ (.int .i64 (i : Int))).setCell ⟨b, 2, none⟩ (.string ⟨#[]⟩)).setCell ⟨b, 3, none⟩ (.int .u64 0))) := ((((HB4.out.setCell (Nat.le_refl _) _).setCell (Nat.le_refl _) _).setCell (Nat.le_refl _) _).setCell (Nat.le_refl _) _)
            have HA9 : Hid (Wo ((((Wx.setCell ⟨b, 0, none⟩ (.int .i64 3)).setCell ⟨b, 1, none⟩ (.int .i64 (i : Int))).setCell ⟨b, 2, none⟩ (.string ⟨#[]⟩)).setCell ⟨b, 3, none⟩ (.int .u64 0)) b 3 i 0 ⟨#[]⟩) := (((HA4.out.set0 _).set1 _).set2 _).set3 _
            generalize hW9 : ((((Wx.setCell ⟨b, 0, none⟩ (.int .i64 3)).setCell ⟨b, 1, none⟩ (.int .i64 (i : Int))).setCell ⟨b, 2, none⟩ (.string ⟨#[]⟩)).setCell ⟨b, 3, none⟩ (.int .u64 0)) = W9 at HB9 HA9 ⊢
            clear hW9
            have q0 := HA9.out.c0
            have q1 := HA9.out.c1
            have q2 := HA9.out.c2
            have q3 := HA9.out.c3
            refine bodyPost_ret (v := .tuple #[(W4.mk 3 i ⟨#[]⟩ 0).val, .int .i64 (i : Int), .bool false]) ?_ rfl ?_
            · simp [results, Tryz.results34, go_sem, q0, q1, q2, q3, wordV, of_bs, W4.val]
            · exact ⟨.inr ⟨HWD.out, _, _, rfl⟩, by rw [HBB.out]; exact HB9.out⟩
        · obtain rfl : m = 34 := by omega
          go_wp2_with fail
          refine (rtext_any s i c hi HC.out HZ.out hs _).mono ?_
          rintro e w3 ⟨hq3, hb3⟩
          have HB3 := hidE (HW1.out.trans (hb3.mono (Nat.le_of_lt (Nat.lt_of_succ_lt hz1))))
          have HV3 : Hid (Wo w3 (b + 1) 0 i 0 ⟨#[]⟩) := HV1.out.below hb3 hz1
          have HA3 : Hid (Wo w3 b 0 0 0 ⟨#[]⟩) := HA1.out.below hb3 (by omega)
          clear hb3 HV1 HA1 HW1
          have a0 := HV3.out.c0
          have a1 := HV3.out.c1
          have a2 := HV3.out.c2
          have a3 := HV3.out.c3
          have az0 := HV3.out.z 0
          have az1 := HV3.out.z 1
          have az2 := HV3.out.z 2
          have az3 := HV3.out.z 3
          have r0 := HA3.out.c0
          have r1 := HA3.out.c1
          have r2 := HA3.out.c2
          have r3 := HA3.out.c3
          have rz0 := HA3.out.z 0
          have rz1 := HA3.out.z 1
          have rz2 := HA3.out.z 2
          have rz3 := HA3.out.z 3
          rcases hq3 with ⟨t, j, htl, hij, hjs, hrd, rfl⟩ | ⟨hrd, rfl⟩
          · have HWD : Hid (wordB Lib.validD (suf s i) = if (Lib.validD t) = true then some (⟨3, t, 0⟩, suf s j) else none) := by
              show _ = _
              rw [HWB.out, hrd]
            clear hrd
            obtain ⟨T, hT⟩ : ∃ T, bsOf t = T := ⟨_, rfl⟩
            obtain ⟨ok, hok⟩ : ∃ ok, (Lib.validD t) = ok := ⟨_, rfl⟩
            rw [hok] at HWD
            have HT := hidE hT
            rw [hT, hok]
            clear hT hok
            go_upto_region 16 with fail
            generalize hW4 : World.setCell _ _ _ = Wx
            have HV4 : Hid (Wo Wx (b + 1) 3 i 0 T) := by rw [← hW4]; exact (HV3.out.set0 3).set2 T
            have HA4 : Hid (Wo Wx b 0 0 0 ⟨#[]⟩) := by rw [← hW4]; exact (HA3.out.other (by omega)).other (by omega)
            have HB4 : Hid (Below b w Wx) := by rw [← hW4]; exact (HB3.out.setCell (Nat.le_succ _) _).setCell (Nat.le_succ _) _
            clear hW4 HV3 HA3 HB3
            clear a0 a1 a2 a3 az0 az1 az2 az3 r0 r1 r2 r3 rz0 rz1 rz2 rz3
            have a0 := HV4.out.c0
            have a1 := HV4.out.c1
            have a2 := HV4.out.c2
            have a3 := HV4.out.c3
            have az0 := HV4.out.z 0
            have az1 := HV4.out.z 1
            have az2 := HV4.out.z 2
            have az3 := HV4.out.z 3
            have r0 := HA4.out.c0
            have r1 := HA4.out.c1
            have r2 := HA4.out.c2
            have r3 := HA4.out.c3
            have rz0 := HA4.out.z 0
            have rz1 := HA4.out.z 1
            have rz2 := HA4.out.z 2
            have rz3 := HA4.out.z 3
            go_wp2_with fail
            clear a0 a1 a2 a3 az0 az1 az2 az3 r0 r1 r2 r3 rz0 rz1 rz2 rz3
            have HB9 : Hid (Below b w ((((Wx.setCell ⟨b, 0, none⟩ (.int .i64 3)).setCell ⟨b, 1, none⟩ (.int .i64 (i : Int))).setCell ⟨b, 2, none⟩ (.string T)).setCell ⟨b, 3, none⟩ (.int .u64 0))) := ((((HB4.out.setCell (Nat.le_refl _) _).setCell (Nat.le_refl _) _).setCell (Nat.le_refl _) _).setCell (Nat.le_refl _) _)
            have HA9 : Hid (Wo ((((Wx.setCell ⟨b, 0, none⟩ (.int .i64 3)).setCell ⟨b, 1, none⟩ (.int .i64 (i : Int))).setCell ⟨b, 2, none⟩ (.string T)).setCell ⟨b, 3, none⟩ (.int .u64 0)) b 3 i 0 T) := (((HA4.out.set0 _).set1 _).set2 _).set3 _
            generalize hW9 : ((((Wx.setCell ⟨b, 0, none⟩ (.int .i64 3)).setCell ⟨b, 1, none⟩ (.int .i64 (i : Int))).setCell ⟨b, 2, none⟩ (.string T)).setCell ⟨b, 3, none⟩ (.int .u64 0)) = W9 at HB9 HA9 ⊢
            clear hW9
            have q0 := HA9.out.c0
            have q1 := HA9.out.c1
            have q2 := HA9.out.c2
            have q3 := HA9.out.c3
            refine bodyPost_ret (v := .tuple #[wordV ⟨3, t, 0⟩ i, .int .i64 (j : Int), .bool ok]) ?_ rfl ?_
            · simp [results, Tryz.results34, go_sem, q0, q1, q2, q3, wordV, of_bs, W4.val, HT.out]
            · exact ⟨wrd_of (d := ⟨3, t, 0⟩) htl hij hjs HWD.out, by rw [HBB.out]; exact HB9.out⟩
          · have HWD : Hid (wordB Lib.validD (suf s i) = none) := by
              show _ = _
              rw [HWB.out, hrd]
            clear hrd
            go_upto_region 16 with fail
            generalize hW4 : World.setCell _ _ _ = Wx
            have HV4 : Hid (Wo Wx (b + 1) 3 i 0 ⟨#[]⟩) := by rw [← hW4]; exact (HV3.out.set0 3).set2 ⟨#[]⟩
            have HA4 : Hid (Wo Wx b 0 0 0 ⟨#[]⟩) := by rw [← hW4]; exact (HA3.out.other (by omega)).other (by omega)
            have HB4 : Hid (Below b w Wx) := by rw [← hW4]; exact (HB3.out.setCell (Nat.le_succ _) _).setCell (Nat.le_succ _) _
            clear hW4 HV3 HA3 HB3
            clear a0 a1 a2 a3 az0 az1 az2 az3 r0 r1 r2 r3 rz0 rz1 rz2 rz3
            have a0 := HV4.out.c0
            have a1 := HV4.out.c1
            have a2 := HV4.out.c2
            have a3 := HV4.out.c3
            have az0 := HV4.out.z 0
            have az1 := HV4.out.z 1
            have az2 := HV4.out.z 2
            have az3 := HV4.out.z 3
            have r0 := HA4.out.c0
            have r1 := HA4.out.c1
            have r2 := HA4.out.c2
            have r3 := HA4.out.c3
            have rz0 := HA4.out.z 0
            have rz1 := HA4.out.z 1
            have rz2 := HA4.out.z 2
            have rz3 := HA4.out.z 3
            go_wp2_with fail
            clear a0 a1 a2 a3 az0 az1 az2 az3 r0 r1 r2 r3 rz0 rz1 rz2 rz3
            have HB9 : Hid (Below b w ((((Wx.setCell ⟨b, 0, none⟩ (.int .i64 3)).setCell ⟨b, 1, none⟩ (.int .i64 (i : Int))).setCell ⟨b, 2, none⟩ (.string ⟨#[]⟩)).setCell ⟨b, 3, none⟩ (.int .u64 0))) := ((((HB4.out.setCell (Nat.le_refl _) _).setCell (Nat.le_refl _) _).setCell (Nat.le_refl _) _).setCell (Nat.le_refl _) _)
            have HA9 : Hid (Wo ((((Wx.setCell ⟨b, 0, none⟩ (.int .i64 3)).setCell ⟨b, 1, none⟩ (.int .i64 (i : Int))).setCell ⟨b, 2, none⟩ (.string ⟨#[]⟩)).setCell ⟨b, 3, none⟩ (.int .u64 0)) b 3 i 0 ⟨#[]⟩) := (((HA4.out.set0 _).set1 _).set2 _).set3 _
            generalize hW9 : ((((Wx.setCell ⟨b, 0, none⟩ (.int .i64 3)).setCell ⟨b, 1, none⟩ (.int .i64 (i : Int))).setCell ⟨b, 2, none⟩ (.string ⟨#[]⟩)).setCell ⟨b, 3, none⟩ (.int .u64 0)) = W9 at HB9 HA9 ⊢
            clear hW9
            have q0 := HA9.out.c0
            have q1 := HA9.out.c1
            have q2 := HA9.out.c2
            have q3 := HA9.out.c3
            refine bodyPost_ret (v := .tuple #[(W4.mk 3 i ⟨#[]⟩ 0).val, .int .i64 (i : Int), .bool false]) ?_ rfl ?_
            · simp [results, Tryz.results34, go_sem, q0, q1, q2, q3, wordV, of_bs, W4.val]
            · exact ⟨.inr ⟨HWD.out, _, _, rfl⟩, by rw [HBB.out]; exact HB9.out⟩
      · have g39 : ((m : Int) == 39) = false := ne_bool (by omega)
        have g34 : ((m : Int) == 34) = false := ne_bool (by omega)
        have HNQ : Hid (¬ c = 96 ∧ ¬ (c = 39 ∨ c = 34)) := ⟨HCN.out 96 (by decide) h96, fun h => h.elim (HCN.out 39 (by decide) (by omega)) (HCN.out 34 (by decide) (by omega))⟩
        clear h96 hqq
        go_wp2_with fail
        refine (HD.out m hm2 _).mono ?_
        cases hd0 : digN m with
        | true =>
          have HID : Hid (isD c = true) := by show _ = _; rw [isD_dig, HM.out, hd0]
          have HWB : Hid (wordB Lib.validD (suf s i) = numB (suf s i)) := by
            show _ = _
            rw [HSU.out, wordB, if_neg (by rw [HNL.out]; decide), if_neg HNQ.out.1, if_neg HNQ.out.2, if_pos HID.out]
          rintro e w3 ⟨rfl, rfl⟩
          go_wp2_with fail
          refine (rnumber_any s i hi (by rw [HC.out]; exact HID.out) (by omega) _).mono ?_
          rintro e w4 ⟨hq3, rfl⟩
          have HB3 := HW1
          have HV3 := HV1
          have HA3 := HA1
          clear HV1 HA1 HW1
          have a0 := HV3.out.c0
          have a1 := HV3.out.c1
          have a2 := HV3.out.c2
          have a3 := HV3.out.c3
          have az0 := HV3.out.z 0
          have az1 := HV3.out.z 1
          have az2 := HV3.out.z 2
          have az3 := HV3.out.z 3
          have r0 := HA3.out.c0
          have r1 := HA3.out.c1
          have r2 := HA3.out.c2
          have r3 := HA3.out.c3
          have rz0 := HA3.out.z 0
          have rz1 := HA3.out.z 1
          have rz2 := HA3.out.z 2
          have rz3 := HA3.out.z 3
          rcases hq3 with ⟨n, j, hnM, hij, hjs, hrd, rfl⟩ | ⟨hrd, n, j, rfl⟩
          · have HWD : Hid (wordB Lib.validD (suf s i) = if true = true then some (⟨4, [], n⟩, suf s j) else none) := by
              show _ = _
              rw [HWB.out, hrd]; rfl
            clear hrd
            go_upto_region 20 with fail
            generalize hW4 : World.setCell _ _ _ = Wx
            have HV4 : Hid (Wo Wx (b + 1) 4 i n ⟨#[]⟩) := by rw [← hW4]; exact (HV3.out.set0 4).set3 n
            have HA4 : Hid (Wo Wx b 0 0 0 ⟨#[]⟩) := by rw [← hW4]; exact (HA3.out.other (by omega)).other (by omega)
            have HB4 : Hid (Below b w Wx) := by rw [← hW4]; exact (HB3.out.setCell (Nat.le_succ _) _).setCell (Nat.le_succ _) _
            clear hW4 HV3 HA3 HB3
            clear a0 a1 a2 a3 az0 az1 az2 az3 r0 r1 r2 r3 rz0 rz1 rz2 rz3
            have a0 := HV4.out.c0
            have a1 := HV4.out.c1
            have a2 := HV4.out.c2
            have a3 := HV4.out.c3
            have az0 := HV4.out.z 0
            have az1 := HV4.out.z 1
            have az2 := HV4.out.z 2
            have az3 := HV4.out.z 3
            have r0 := HA4.out.c0
            have r1 := HA4.out.c1
            have r2 := HA4.out.c2
            have r3 := HA4.out.c3
            have rz0 := HA4.out.z 0
            have rz1 := HA4.out.z 1
            have rz2 := HA4.out.z 2
            have rz3 := HA4.out.z 3
            go_wp2_with fail
            clear a0 a1 a2 a3 az0 az1 az2 az3 r0 r1 r2 r3 rz0 rz1 rz2 rz3
            have HB9 : Hid (Below b w ((((Wx.setCell ⟨b, 0, none⟩ (.int .i64 4)).setCell ⟨b, 1, none⟩ (.int .i64 (i : Int))).setCell ⟨b, 2, none⟩ (.string ⟨#[]⟩)).setCell ⟨b, 3, none⟩ (.int .u64 n))) := ((((HB4.out.setCell (Nat.le_refl _) _).setCell (Nat.le_refl _) _).setCell (Nat.le_refl _) _).setCell (Nat.le_refl _) _)
            have HA9 : Hid (Wo ((((Wx.setCell ⟨b, 0, none⟩ (.int .i64 4)).setCell ⟨b, 1, none⟩ (.int .i64 (i : Int))).setCell ⟨b, 2, none⟩ (.string ⟨#[]⟩)).setCell ⟨b, 3, none⟩ (.int .u64 n)) b 4 i n ⟨#[]⟩) := (((HA4.out.set0 _).set1 _).set2 _).set3 _
            generalize hW9 : ((((Wx.setCell ⟨b, 0, none⟩ (.int .i64 4)).setCell ⟨b, 1, none⟩ (.int .i64 (i : Int))).setCell ⟨b, 2, none⟩ (.string ⟨#[]⟩)).setCell ⟨b, 3, none⟩ (.int .u64 n)) = W9 at HB9 HA9 ⊢
            clear hW9
            have q0 := HA9.out.c0
            have q1 := HA9.out.c1
            have q2 := HA9.out.c2
            have q3 := HA9.out.c3
            refine bodyPost_ret (v := .tuple #[wordV ⟨4, [], n⟩ i, .int .i64 (j : Int), .bool true]) ?_ rfl ?_
            · simp [results, Tryz.results34, go_sem, q0, q1, q2, q3, wordV, of_bs, W4.val, bsOf]
            · exact ⟨wrd_of (d := ⟨4, [], n⟩) (Nat.zero_le _) hij hjs HWD.out, by rw [HBB.out]; exact HB9.out⟩
          · have HWD : Hid (wordB Lib.validD (suf s i) = none) := by
              show _ = _
              rw [HWB.out, hrd]
            clear hrd
            go_upto_region 20 with fail
            generalize hW4 : World.setCell _ _ _ = Wx
            have HV4 : Hid (Wo Wx (b + 1) 4 i n ⟨#[]⟩) := by rw [← hW4]; exact (HV3.out.set0 4).set3 n
            have HA4 : Hid (Wo Wx b 0 0 0 ⟨#[]⟩) := by rw [← hW4]; exact (HA3.out.other (by omega)).other (by omega)
            have HB4 : Hid (Below b w Wx) := by rw [← hW4]; exact (HB3.out.setCell (Nat.le_succ _) _).setCell (Nat.le_succ _) _
            clear hW4 HV3 HA3 HB3
            clear a0 a1 a2 a3 az0 az1 az2 az3 r0 r1 r2 r3 rz0 rz1 rz2 rz3
            have a0 := HV4.out.c0
            have a1 := HV4.out.c1
            have a2 := HV4.out.c2
            have a3 := HV4.out.c3
            have az0 := HV4.out.z 0
            have az1 := HV4.out.z 1
            have az2 := HV4.out.z 2
            have az3 := HV4.out.z 3
            have r0 := HA4.out.c0
            have r1 := HA4.out.c1
            have r2 := HA4.out.c2
            have r3 := HA4.out.c3
            have rz0 := HA4.out.z 0
            have rz1 := HA4.out.z 1
            have rz2 := HA4.out.z 2
            have rz3 := HA4.out.z 3
            go_wp2_with fail
            clear a0 a1 a2 a3 az0 az1 az2 az3 r0 r1 r2 r3 rz0 rz1 rz2 rz3
            have HB9 : Hid (Below b w ((((Wx.setCell ⟨b, 0, none⟩ (.int .i64 4)).setCell ⟨b, 1, none⟩ (.int .i64 (i : Int))).setCell ⟨b, 2, none⟩ (.string ⟨#[]⟩)).setCell ⟨b, 3, none⟩ (.int .u64 n))) := ((((HB4.out.setCell (Nat.le_refl _) _).setCell (Nat.le_refl _) _).setCell (Nat.le_refl _) _).setCell (Nat.le_refl _) _)
            have HA9 : Hid (Wo ((((Wx.setCell ⟨b, 0, none⟩ (.int .i64 4)).setCell ⟨b, 1, none⟩ (.int .i64 (i : Int))).setCell ⟨b, 2, none⟩ (.string ⟨#[]⟩)).setCell ⟨b, 3, none⟩ (.int .u64 n)) b 4 i n ⟨#[]⟩) := (((HA4.out.set0 _).set1 _).set2 _).set3 _
            generalize hW9 : ((((Wx.setCell ⟨b, 0, none⟩ (.int .i64 4)).setCell ⟨b, 1, none⟩ (.int .i64 (i : Int))).setCell ⟨b, 2, none⟩ (.string ⟨#[]⟩)).setCell ⟨b, 3, none⟩ (.int .u64 n)) = W9 at HB9 HA9 ⊢
            clear hW9
            have q0 := HA9.out.c0
            have q1 := HA9.out.c1
            have q2 := HA9.out.c2
            have q3 := HA9.out.c3
            refine bodyPost_ret (v := .tuple #[(W4.mk 4 i ⟨#[]⟩ n).val, .int .i64 (j : Int), .bool false]) ?_ rfl ?_
            · simp [results, Tryz.results34, go_sem, q0, q1, q2, q3, wordV, of_bs, W4.val]
            · exact ⟨.inr ⟨HWD.out, _, _, rfl⟩, by rw [HBB.out]; exact HB9.out⟩
        | false =>
          have HID : Hid (isD c = false) := by show _ = _; rw [isD_dig, HM.out, hd0]
          have HWB : Hid (wordB Lib.validD (suf s i) = signB (suf s i)) := by
            show _ = _
            rw [HSU.out, wordB, if_neg (by rw [HNL.out]; decide), if_neg HNQ.out.1, if_neg HNQ.out.2, if_neg (by rw [HID.out]; decide)]
          rintro e w3 ⟨rfl, rfl⟩
          go_wp2_with fail
          refine (rsigns_any _).mono ?_
          rintro e w4 ⟨rfl, hb4, hs4, ht4⟩
          obtain ⟨p, hp⟩ : ∃ p, w3.heap.size = p := ⟨_, rfl⟩
          have HB4 := hidE (HW1.out.trans (hb4.mono (Nat.le_of_lt (Nat.lt_of_succ_lt hz1))))
          have HV4 : Hid (Wo w4 (b + 1) 0 i 0 ⟨#[]⟩) := HV1.out.below hb4 hz1
          have HA4 : Hid (Wo w4 b 0 0 0 ⟨#[]⟩) := HA1.out.below hb4 (by omega)
          rw [hp] at ht4 ⊢
          have hpb : b + 1 < p := by omega
          have HT4 := hidE ht4
          have HSF : Hid (signB (suf s i) = (sgL.find? (begins (suf s i))).map fun K => (⟨5, K.data.toList, 0⟩, (suf s i).drop K.size)) := sign_first _
          have HST := hidE (fun K (hK : K.size ≤ 1000) w => starts_any s i K (by omega) (by omega) hK w)
          clear ht4 hb4 hs4 hp HV1 HA1 HW1 hz1
          go_wp2_with fail
          go_loopw [20] (fun v wr => ∃ q : Nat, q ≤ 22 ∧ v = .int .i64 q ∧ wr = w4 ∧ sgL.find? (begins (suf s i)) = (sgL.drop q).find? (begins (suf s i))) (fun v _ => 22 - (intOf v).toNat)
          case atStart => exact ⟨0, by omega, rfl, rfl, rfl⟩
          case round =>
            obtain ⟨q, hq, rfl, rfl, hf⟩ := hrel
            have HF := hidE hf
            clear hf
            by_cases hlt : q < 22
            · have hlt' : (q : Int) < 22 := by omega
              obtain ⟨K, hK⟩ : ∃ K, sgL[q]? = some K := ⟨_, List.getElem?_eq_getElem hlt⟩
              have hKs := sg_size K (List.mem_of_getElem? hK)
              have k0 := HT4.out q K hK
              have HK := hidE hK
              have HSK := hidE (HST.out K (by omega))
              have HFS := hidE (HF.out.trans (find_step hK))
              clear hK
              go_wp2_with fail
              refine (HSK.out _).mono ?_
              cases hst : startsB s i K.data.toList with
              | true =>
                have hKl := starts_len hst
                have HWD : Hid (wordB Lib.validD (suf s i) = if true = true then some (⟨5, K.data.toList, 0⟩, suf s (i + K.size)) else none) := by
                  show _ = _
                  rw [HWB.out, HSF.out, HFS.out, if_pos (show begins (suf s i) K = true from hst)]
                  simp [suf, List.drop_drop]
                obtain ⟨j, hj⟩ : ∃ j, i + K.size = j := ⟨_, rfl⟩
                rw [hj] at HWD
                have hj' : (i : Int) + (K.size : Int) = (j : Int) := by omega
                have hwj : IntKind.i64.wrap (j : Int) = (j : Int) := by rw [IntKind.wrap_i64]; omega
                rintro e w5 ⟨rfl, rfl⟩
                have a0 := HV4.out.c0
                have a2 := HV4.out.c2
                have az0 := HV4.out.z 0
                have az2 := HV4.out.z 2
                clear hst hj
                go_wp2_with fail
                go_region_with fail
                all_goals
                  generalize hW2 : World.drew _ = W2
                  have HV2 : Hid (Wo W2 (b + 1) 5 i 0 K) := by rw [← hW2]; exact (HV4.out.set0 5).set2 K
                  have HA2 : Hid (Wo W2 b 0 0 0 ⟨#[]⟩) := by rw [← hW2]; exact (HA4.out.other (by omega)).other (by omega)
                  have HB2 : Hid (Below b w W2) := by rw [← hW2]; exact ((HB4.out.setCell (Nat.le_succ _) _).setCell (Nat.le_succ _) _).drew
                  have k2 : W2.cell? ⟨p, q, none⟩ = some (.string K) := by
                    rw [← hW2]
                    exact (cell_other (w := World.setCell _ _ _) (by omega)).trans ((cell_other (by omega)).trans k0)
                  clear hW2 HV4 HA4 HB4 a0 a2 az0 az2 k0 HT4
                  have a0 := HV2.out.c0
                  have a1 := HV2.out.c1
                  have a2 := HV2.out.c2
                  have a3 := HV2.out.c3
                  have az0 := HV2.out.z 0
                  have az1 := HV2.out.z 1
                  have az2 := HV2.out.z 2
                  have az3 := HV2.out.z 3
                  have r0 := HA2.out.c0
                  have r1 := HA2.out.c1
                  have r2 := HA2.out.c2
                  have r3 := HA2.out.c3
                  have rz0 := HA2.out.z 0
                  have rz1 := HA2.out.z 1
                  have rz2 := HA2.out.z 2
                  have rz3 := HA2.out.z 3
                  go_wp2_with fail
                  go_region_with fail
                  all_goals
                    clear a0 a1 a2 a3 az0 az1 az2 az3 r0 r1 r2 r3 rz0 rz1 rz2 rz3
                    clear k2
                    go_wp2_with fail
                    have HB9 : Hid (Below b w (((((W2.setCell ⟨b, 0, none⟩ (.int .i64 5)).setCell ⟨b, 1, none⟩ (.int .i64 (i : Int))).setCell ⟨b, 2, none⟩ (.string K)).setCell ⟨b, 3, none⟩ (.int .u64 0))).drew) := ((((HB2.out.setCell (Nat.le_refl _) _).setCell (Nat.le_refl _) _).setCell (Nat.le_refl _) _).setCell (Nat.le_refl _) _).drew
                    have HA9 : Hid (Wo (((((W2.setCell ⟨b, 0, none⟩ (.int .i64 5)).setCell ⟨b, 1, none⟩ (.int .i64 (i : Int))).setCell ⟨b, 2, none⟩ (.string K)).setCell ⟨b, 3, none⟩ (.int .u64 0))).drew b 5 i 0 K) := (((HA2.out.set0 _).set1 _).set2 _).set3 _
                    generalize hW9 : (((((W2.setCell ⟨b, 0, none⟩ (.int .i64 5)).setCell ⟨b, 1, none⟩ (.int .i64 (i : Int))).setCell ⟨b, 2, none⟩ (.string K)).setCell ⟨b, 3, none⟩ (.int .u64 0))).drew = W9 at HB9 HA9 ⊢
                    clear hW9
                    have q0 := HA9.out.c0
                    have q1 := HA9.out.c1
                    have q2 := HA9.out.c2
                    have q3 := HA9.out.c3
                    refine bodyPost_ret (v := .tuple #[wordV ⟨5, K.data.toList, 0⟩ i, .int .i64 (j : Int), .bool true]) ?_ rfl ?_
                    · simp [results, Tryz.results34, go_sem, q0, q1, q2, q3, wordV, of_bs, W4.val]
                    · exact ⟨wrd_of (d := ⟨5, K.data.toList, 0⟩) (by show K.size ≤ s.size; omega) (by omega) (by omega) HWD.out, by rw [HBB.out]; exact HB9.out⟩
              | false =>
                have HNX : Hid (sgL.find? (begins (suf s i)) = (sgL.drop (q + 1)).find? (begins (suf s i))) := by
                  show _ = _
                  rw [HFS.out, if_neg (show ¬ begins (suf s i) K = true by rw [show begins (suf s i) K = false from hst]; decide)]
                rintro e w5 ⟨rfl, rfl⟩
                clear k0 hst
                go_wp2_with fail
                go_roundw
                case rel => exact ⟨q + 1, by omega, by go_num, trivial, HNX.out⟩
                case measure => simp [intOf]; omega
            · have hlt' : ¬ (q : Int) < 22 := by omega
              have HWD : Hid (wordB Lib.validD (suf s i) = none) := by
                show _ = _
                rw [HWB.out, HSF.out, HF.out, List.drop_of_length_le (by show 22 ≤ q; omega)]
                rfl
              have a0 := HV4.out.c0
              have a1 := HV4.out.c1
              have a2 := HV4.out.c2
              have a3 := HV4.out.c3
              have az0 := HV4.out.z 0
              have az1 := HV4.out.z 1
              have az2 := HV4.out.z 2
              have az3 := HV4.out.z 3
              have r0 := HA4.out.c0
              have r1 := HA4.out.c1
              have r2 := HA4.out.c2
              have r3 := HA4.out.c3
              have rz0 := HA4.out.z 0
              have rz1 := HA4.out.z 1
              have rz2 := HA4.out.z 2
              have rz3 := HA4.out.z 3
              go_wp2_with fail
              clear a0 a1 a2 a3 az0 az1 az2 az3 r0 r1 r2 r3 rz0 rz1 rz2 rz3
              have HB9 : Hid (Below b w ((((wr.setCell ⟨b, 0, none⟩ (.int .i64 0)).setCell ⟨b, 1, none⟩ (.int .i64 (i : Int))).setCell ⟨b, 2, none⟩ (.string ⟨#[]⟩)).setCell ⟨b, 3, none⟩ (.int .u64 0))) := ((((HB4.out.setCell (Nat.le_refl _) _).setCell (Nat.le_refl _) _).setCell (Nat.le_refl _) _).setCell (Nat.le_refl _) _)
              have HA9 : Hid (Wo ((((wr.setCell ⟨b, 0, none⟩ (.int .i64 0)).setCell ⟨b, 1, none⟩ (.int .i64 (i : Int))).setCell ⟨b, 2, none⟩ (.string ⟨#[]⟩)).setCell ⟨b, 3, none⟩ (.int .u64 0)) b 0 i 0 ⟨#[]⟩) := (((HA4.out.set0 _).set1 _).set2 _).set3 _
              generalize hW9 : ((((wr.setCell ⟨b, 0, none⟩ (.int .i64 0)).setCell ⟨b, 1, none⟩ (.int .i64 (i : Int))).setCell ⟨b, 2, none⟩ (.string ⟨#[]⟩)).setCell ⟨b, 3, none⟩ (.int .u64 0)) = W9 at HB9 HA9 ⊢
              clear hW9
              have q0 := HA9.out.c0
              have q1 := HA9.out.c1
              have q2 := HA9.out.c2
              have q3 := HA9.out.c3
              refine bodyPost_ret (v := .tuple #[(W4.mk 0 i ⟨#[]⟩ 0).val, .int .i64 (i : Int), .bool false]) ?_ rfl ?_
              · simp [results, Tryz.results34, go_sem, q0, q1, q2, q3, wordV, of_bs, W4.val]
              · exact ⟨.inr ⟨HWD.out, _, _, rfl⟩, by rw [HBB.out]; exact HB9.out⟩
end Go.Proofs.YtbjcdpenfijfoaaGreatDoor
