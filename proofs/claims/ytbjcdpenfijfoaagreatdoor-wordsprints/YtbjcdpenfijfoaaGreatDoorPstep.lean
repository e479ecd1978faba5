/- The reader reads the next word. -/
import Derived.Test.YtbjcdpenfijfoaaGreatDoorPnum
namespace Go.Proofs.YtbjcdpenfijfoaaGreatDoor
open Go.RowKit Go.Shelf Go.Lexed
set_option linter.unusedVariables false
set_option linter.unusedSimpArgs false
/-- A word, as it lies in a block of its own. -/
def Wo (w : World) (p : Nat) (k i n : Int) (t : ByteArray) : Prop := w.heap[p]? = some (.cells #[.int .i64 k, .int .i64 i, .string t, .int .u64 n] 33 (0, 0))
section
variable {w w' : World} {p : Nat} {k i n : Int} {t : ByteArray}
theorem Wo.lt (h : Wo w p k i n t) : p < w.heap.size := (Array.getElem?_eq_some_iff.1 h).1
theorem Wo.c0 (h : Wo w p k i n t) : w.cell? ⟨p, 0, none⟩ = some (.int .i64 k) := by simp [World.cell?, show w.heap[p]? = _ from h]
theorem Wo.c1 (h : Wo w p k i n t) : w.cell? ⟨p, 1, none⟩ = some (.int .i64 i) := by simp [World.cell?, show w.heap[p]? = _ from h]
theorem Wo.c2 (h : Wo w p k i n t) : w.cell? ⟨p, 2, none⟩ = some (.string t) := by simp [World.cell?, show w.heap[p]? = _ from h]
theorem Wo.c3 (h : Wo w p k i n t) : w.cell? ⟨p, 3, none⟩ = some (.int .u64 n) := by simp [World.cell?, show w.heap[p]? = _ from h]
theorem Wo.z (h : Wo w p k i n t) (c : Nat) : w.frozen? ⟨p, c, none⟩ = false := by simp [World.frozen?, show w.heap[p]? = _ from h]
theorem Wo.keep (h : Wo w p k i n t) (e : w'.heap[p]? = w.heap[p]?) : Wo w' p k i n t := e.trans h
theorem Wo.fr {a B : Nat} (h : Wo w p k i n t) (hf : Fr a B w w') (hB : p < B) (ha : p ≠ a) : Wo w' p k i n t := h.keep (hf.block p hB ha)
theorem Wo.below {B : Nat} (h : Wo w p k i n t) (hf : Below B w w') (hB : p < B) : Wo w' p k i n t := h.keep (hf.block p hB)
theorem Wo.drewN (h : Wo w p k i n t) (m : Nat) : Wo (w.drewN m) p k i n t := h
theorem Wo.other {q c : Nat} {u : Value} (h : Wo w p k i n t) (hq : p ≠ q) : Wo (w.setCell ⟨q, c, none⟩ u) p k i n t := h.keep (Below.heap_setCell _ _ _ _ hq)
theorem Wo.set0 (h : Wo w p k i n t) (k' : Int) : Wo (w.setCell ⟨p, 0, none⟩ (.int .i64 k')) p k' i n t := by
  have hl := h.lt
  have e : w.heap[p] = .cells #[.int .i64 k, .int .i64 i, .string t, .int .u64 n] 33 (0, 0) := by
    have := show w.heap[p]? = _ from h
    rw [Array.getElem?_eq_getElem hl] at this; exact Option.some.inj this
  unfold Wo
  simp [World.setCell, hl, Array.getElem_modify, e]
theorem Wo.set1 (h : Wo w p k i n t) (i' : Int) : Wo (w.setCell ⟨p, 1, none⟩ (.int .i64 i')) p k i' n t := by
  have hl := h.lt
  have e : w.heap[p] = .cells #[.int .i64 k, .int .i64 i, .string t, .int .u64 n] 33 (0, 0) := by
    have := show w.heap[p]? = _ from h
    rw [Array.getElem?_eq_getElem hl] at this; exact Option.some.inj this
  unfold Wo
  simp [World.setCell, hl, Array.getElem_modify, e]
theorem Wo.set2 (h : Wo w p k i n t) (t' : ByteArray) : Wo (w.setCell ⟨p, 2, none⟩ (.string t')) p k i n t' := by
  have hl := h.lt
  have e : w.heap[p] = .cells #[.int .i64 k, .int .i64 i, .string t, .int .u64 n] 33 (0, 0) := by
    have := show w.heap[p]? = _ from h
    rw [Array.getElem?_eq_getElem hl] at this; exact Option.some.inj this
  unfold Wo
  simp [World.setCell, hl, Array.getElem_modify, e]
theorem Wo.set3 (h : Wo w p k i n t) (n' : Int) : Wo (w.setCell ⟨p, 3, none⟩ (.int .u64 n')) p k i n' t := by
  have hl := h.lt
  have e : w.heap[p] = .cells #[.int .i64 k, .int .i64 i, .string t, .int .u64 n] 33 (0, 0) := by
    have := show w.heap[p]? = _ from h
    rw [Array.getElem?_eq_getElem hl] at this; exact Option.some.inj this
  unfold Wo
  simp [World.setCell, hl, Array.getElem_modify, e]
end
theorem Fr.elsewhere {a B : Nat} {w w' : World} (h : Fr a B w w') {q c : Nat} (hq : B ≤ q) (u : Value) : Fr a B w (w'.setCell ⟨q, c, none⟩ u) :=
  ⟨h.os, h.tape, h.output, (by simp [World.setCell]; exact h.size), fun i hi ha => (Below.heap_setCell _ _ _ _ (by show i ≠ q; omega)).trans (h.block i hi ha)⟩
theorem Rd.other {w : World} {a : Nat} {s : ByteArray} {k b : Nat} (h : Rd w a s k b) {q c : Nat} {u : Value} (hq : a ≠ q) : Rd (w.setCell ⟨q, c, none⟩ u) a s k b := h.kept (Below.heap_setCell _ _ _ _ hq)
/-- A word as a value. -/
def wordV (d : Wd) (i : Nat) : Value := .agg #[.int .i64 (d.kind : Int), .int .i64 (i : Int), .string (bsOf d.text), .int .u64 (d.num : Int)]
def noWord : Value := .agg #[.int .i64 0, .int .i64 0, .string ⟨#[]⟩, .int .u64 0]
theorem quot_len : ∀ (n : Nat) (l : List UInt8), l.length ≤ n → ∀ p, quotB l = some p → p.1.length ≤ l.length
  | n, [], _, p, h => by simp [quotB] at h
  | 0, c :: r, hl, p, h => by simp at hl
  | n + 1, c :: r, hl, p, h => by
    simp only [List.length_cons] at hl
    rw [quotB.eq_def] at h
    simp only at h
    split at h
    · cases r with
      | nil => simp only [Option.some.injEq] at h; subst h; simp
      | cons d r' =>
        simp only [List.length_cons] at hl
        simp only at h
        split at h
        · cases hq : quotB r' with
          | none => rw [hq] at h; cases h
          | some x =>
            rw [hq] at h
            simp only [Option.map_some, Option.some.injEq] at h
            subst h
            have := quot_len n r' (by omega) x hq
            simp; omega
        · simp only [Option.some.injEq] at h; subst h; simp
    · cases hq : quotB r with
      | none => rw [hq] at h; cases h
      | some x =>
        rw [hq] at h
        simp only [Option.map_some, Option.some.injEq] at h
        subst h
        have := quot_len n r (by omega) x hq
        simp; omega
/-- What reading the next word answers. -/
def Stepped (a : Nat) (s : ByteArray) (k : Nat) (w : World) (e : Ending) (w' : World) : Prop :=
  ∃ j i : Nat, k ≤ j ∧ j ≤ s.size ∧ i ≤ s.size ∧ Rd w' a s i j ∧ Fr a w.heap.size w w' ∧
    ((e = .returned (.tuple #[noWord, .bool false]) ∧ skipB (suf s k) = ([], true)) ∨
     (∃ d : Wd, e = .returned (.tuple #[wordV d j, .bool true]) ∧ j < i ∧ d.text.length ≤ 4 * s.size ∧ skipB (suf s k) = (suf s j, true) ∧ j < s.size ∧ wordB Lib.validD (suf s j) = some (d, suf s i)) ∨
     (e = gaveUp ∧ (skipB (suf s k) = (suf s j, false) ∨ (skipB (suf s k) = (suf s j, true) ∧ j < s.size ∧ wordB Lib.validD (suf s j) = none))))
set_option maxRecDepth 100000 in
set_option maxHeartbeats 4000000 in
theorem step_any (a : Nat) (s : ByteArray) (k b : Nat) (w : World) (h : Rd w a s k b) (hk : k ≤ s.size) (hs : s.size ≤ 10000000) (hE : Env w) (h8 : 8 ≤ a) :
    Calls Tryz.prog 50 #[.pointer (some ⟨a, 0, none⟩)] w fun e w' => Stepped a s k w e w' := by
  have H := hidE h
  have ha := h.lt
  have HE := hidE hE
  clear h hE
  go_enter Tryz.func50, Tryz.ntmps50
  go_wp2_with fail
  generalize hW0 : World.alloc _ _ = W0
  have HR0 : Hid (Rd W0 a s k b) := by rw [← hW0]; exact H.out.below ((Below.refl _ _).alloc (Nat.le_refl _) _) ha
  have HF0 : Hid (Fr a w.heap.size w W0) := by rw [← hW0]; exact (Fr.refl _ _ _).alloc (Nat.le_refl _) _
  have HB0 : Hid (Wo W0 w.heap.size 0 0 0 ⟨#[]⟩) := by rw [← hW0]; exact World.alloc_heap_new _ _
  clear hW0
  refine (pass_any a s k b W0 HR0.out hk (by omega)).mono ?_
  rintro e w1 ⟨j0, j, hkj, hj0, hj, hr1, hf1, ⟨rfl, hij, hsk⟩ | ⟨rfl, hsk⟩⟩
  · subst hij
    have hz0 := HB0.out.lt
    have HF1 : Hid (Fr a w.heap.size w w1) := HF0.out.trans (hf1.mono (by omega))
    have HB1 : Hid (Wo w1 w.heap.size 0 0 0 ⟨#[]⟩) := HB0.out.fr hf1 hz0 (by omega)
    have HR1 := hidE hr1
    have HSK := hidE hsk
    clear hr1 hf1 hsk HR0 HF0 HB0 hz0
    have c0 := HR1.out.c0
    have c1 := HR1.out.c1
    by_cases hjs : j < s.size
    · have hjs' : ((j : Int) == s.size) = false := ne_bool (by omega)
      go_wp2_with fail
      go_quiet (fail)
      generalize hW2 : World.drewN _ _ = W2
      have HR2 : Hid (Rd W2 a s j j) := by rw [← hW2]; exact HR1.out.drewN _
      have HF2 : Hid (Fr a w.heap.size w W2) := by rw [← hW2]; exact HF1.out.drewN _
      have HB2 : Hid (Wo W2 w.heap.size 0 0 0 ⟨#[]⟩) := by rw [← hW2]; exact HB1.out.drewN _
      clear hW2 HR1 HF1 HB1 c0 c1
      have c0 := HR2.out.c0
      have c1 := HR2.out.c1
      have hjlt : (j : Int) < s.size := by omega
      go_upto_region 5 with fail
      generalize hW3 : World.alloc _ _ = W3
      have hz2 := HB2.out.lt
      have ha2 := HR2.out.lt
      have HB : Hid (Below W2.heap.size W2 W3) := by rw [← hW3]; exact (Below.refl _ _).alloc (Nat.le_refl _) _
      have HR3 : Hid (Rd W3 a s j j) := HR2.out.below HB.out ha2
      have HF3 : Hid (Fr a w.heap.size w W3) := HF2.out.trans (Fr.of_below (HB.out.mono HF2.out.size))
      have HB3 : Hid (Wo W3 w.heap.size 0 0 0 ⟨#[]⟩) := HB2.out.below HB.out hz2
      have HW3 : Hid (Wo W3 W2.heap.size 0 j 0 ⟨#[]⟩) := by rw [← hW3]; exact World.alloc_heap_new _ _
      clear hW3 HR2 HF2 HB2 c0 c1 HB
      obtain ⟨p, hp⟩ : ∃ p, W2.heap.size = p := ⟨_, rfl⟩
      rw [hp] at hz2 ha2 HW3 ⊢
      clear hp
      have c0 := HR3.out.c0
      have c1 := HR3.out.c1
      go_quiet (fail)
      generalize hW4 : World.drewN _ _ = W4
      have HR4 : Hid (Rd W4 a s j j) := by rw [← hW4]; exact HR3.out.drewN _
      have HF4 : Hid (Fr a w.heap.size w W4) := by rw [← hW4]; exact HF3.out.drewN _
      have HB4 : Hid (Wo W4 w.heap.size 0 0 0 ⟨#[]⟩) := by rw [← hW4]; exact HB3.out.drewN _
      have HW4 : Hid (Wo W4 p 0 j 0 ⟨#[]⟩) := by rw [← hW4]; exact HW3.out.drewN _
      clear hW4 HR3 HF3 HB3 HW3 c0 c1
      obtain ⟨m, hm⟩ : ∃ m, s[j].toNat = m := ⟨_, rfl⟩
      have hm' : (s[j].toNat : Int) = m := by rw [hm]
      have hm2 : m < 256 := by rw [← hm]; exact s[j].toNat_lt
      have HM := hidE hm
      have HC : Hid (∀ x : UInt8, m = x.toNat → s[j] = x) := fun x hx => UInt8.toNat_inj.1 (by rw [hm, hx])
      clear hm
      rw [hm']
      have HLet := hidE (fun w => letter_any m hm2 w)
      have HDig := hidE (fun w => digit_any m hm2 w)
      have HT := hidE need_true
      have HNF := hidE need_false
      cases hl : letN m with
      | true =>
        have HWD : Hid (wordB Lib.validD (suf s j) = if nameOk Lib.validD ((suf s j).takeWhile isLD) then some (⟨1, (suf s j).takeWhile isLD, 0⟩, (suf s j).dropWhile isLD) else none) := by
          show _ = _
          have e := suf_cons hjs
          have hc : isL s[j] = true := by rw [isL_let, HM.out]; exact hl
          rw [e]
          simp only [wordB, hc, if_true]
        have HTL : Hid (((suf s j).takeWhile isLD).length ≤ s.size) := by
          have h1 : ((suf s j).takeWhile isLD).length ≤ (suf s j).length := (List.takeWhile_prefix _).length_le
          have h2 := suf_len s j
          show _ ≤ _
          omega
        rw [hl] at HLet
        go_wp2_with fail
        refine (HLet.out _).mono ?_
        rintro e w1 ⟨rfl, rfl⟩
        go_wp2_with fail
        refine (run_any a s j j _ HR4.out hj (by omega)).mono ?_
        rintro e w5 ⟨rfl, i, hji0, hi, hsi, hr5, hf5⟩
        have hp4 := HW4.out.lt
        have HR5 := hidE hr5
        have HF5 : Hid (Fr a w.heap.size w w5) := HF4.out.trans (hf5.mono HF4.out.size)
        have HB5 : Hid (Wo w5 w.heap.size 0 0 0 ⟨#[]⟩) := HB4.out.fr hf5 (by omega) (by omega)
        have HW5 : Hid (Wo w5 p 0 j 0 ⟨#[]⟩) := HW4.out.fr hf5 hp4 (by omega)
        rw [← hsi] at HWD
        generalize (suf s j).takeWhile isLD = T at HWD HTL ⊢
        clear hr5 hf5 hsi HR4 HF4 HB4 HW4 hp4 HLet HDig
        have a0 := HW5.out.c0
        have a2 := HW5.out.c2
        have x0 := HW5.out.z 0
        have x2 := HW5.out.z 2
        go_upto_region 13 with fail
        have HR6 : Hid (Rd ((w5.setCell ⟨p, 0, none⟩ (.int .i64 1)).setCell ⟨p, 2, none⟩ (.string (bsOf T))) a s i j) := (HR5.out.other (by omega)).other (by omega)
        have HF6 : Hid (Fr a w.heap.size w ((w5.setCell ⟨p, 0, none⟩ (.int .i64 1)).setCell ⟨p, 2, none⟩ (.string (bsOf T)))) := (HF5.out.elsewhere (by omega) _).elsewhere (by omega) _
        have HB6 : Hid (Wo ((w5.setCell ⟨p, 0, none⟩ (.int .i64 1)).setCell ⟨p, 2, none⟩ (.string (bsOf T))) w.heap.size 0 0 0 ⟨#[]⟩) := (HB5.out.other (by omega)).other (by omega)
        have HW6 : Hid (Wo ((w5.setCell ⟨p, 0, none⟩ (.int .i64 1)).setCell ⟨p, 2, none⟩ (.string (bsOf T))) p 1 j 0 (bsOf T)) := (HW5.out.set0 1).set2 _
        generalize hW6 : World.setCell _ _ _ = W6 at HR6 HF6 HB6 HW6 ⊢
        clear hW6 HR5 HF5 HB5 HW5 a0 a2 x0 x2
        have hts : (bsOf T).size ≤ 10000000000 := by rw [bsOf_size]; have := HTL.out; omega
        have HNM := hidE (name_any (bsOf T) hts W6 (HE.out.fr HF6.out h8 HE.out.room))
        rw [bsOf_list] at HNM
        have a2 := HW6.out.c2
        go_wp2_with fail
        refine HNM.out.mono ?_
        rintro e w7 ⟨rfl, hb7⟩
        have hz6 := HB6.out.lt
        have hp6 := HW6.out.lt
        have hr6 := HR6.out.lt
        have HR7 : Hid (Rd w7 a s i j) := HR6.out.below hb7 hr6
        have HF7 : Hid (Fr a w.heap.size w w7) := HF6.out.trans (Fr.of_below (hb7.mono (by omega)))
        have HB7 : Hid (Wo w7 w.heap.size 0 0 0 ⟨#[]⟩) := HB6.out.below hb7 hz6
        have HW7 : Hid (Wo w7 p 1 j 0 (bsOf T)) := HW6.out.below hb7 hp6
        clear hb7 HR6 HF6 HB6 HW6 a2 HNM
        cases hnm : nameOk Lib.validD T with
        | false =>
          have HNO : Hid (wordB Lib.validD (suf s j) = none) := by show _ = _; rw [HWD.out, hnm]; rfl
          go_wp2_with fail
          refine (HNF.out _).mono ?_
          rintro e w8 ⟨rfl, rfl⟩
          exact ⟨rfl, j, i, hkj, hj, hi, HR7.out, HF7.out, .inr (.inr ⟨rfl, .inr ⟨HSK.out, hjs, HNO.out⟩⟩)⟩
        | true =>
          have HOK : Hid (wordB Lib.validD (suf s j) = some (⟨1, T, 0⟩, suf s i)) := by show _ = _; rw [HWD.out, hnm]; rfl
          have hji : j < i := by
            have h1 := wordB_lt _ HOK.out
            simp only [suf_len] at h1
            omega
          have hlen : Hid (T.length ≤ 4 * s.size) := by show _ ≤ _; have := HTL.out; omega
          go_wp2_with fail
          refine (HT.out _).mono ?_
          rintro e w8 ⟨rfl, rfl⟩
          have a0 := HW7.out.c0
          have a1 := HW7.out.c1
          have a2 := HW7.out.c2
          have a3 := HW7.out.c3
          have b0 := HB7.out.c0
          have b1 := HB7.out.c1
          have b2 := HB7.out.c2
          have b3 := HB7.out.c3
          have y0 := HB7.out.z 0
          have y1 := HB7.out.z 1
          have y2 := HB7.out.z 2
          have y3 := HB7.out.z 3
          go_wp2_with fail
          have HF9 : Hid (Fr a w.heap.size w ((((w8.setCell ⟨w.heap.size, 0, none⟩ (.int .i64 1)).setCell ⟨w.heap.size, 1, none⟩ (.int .i64 (j : Int))).setCell ⟨w.heap.size, 2, none⟩ (.string (bsOf T))).setCell ⟨w.heap.size, 3, none⟩ (.int .u64 0))) := (((HF7.out.elsewhere (Nat.le_refl _) _).elsewhere (Nat.le_refl _) _).elsewhere (Nat.le_refl _) _).elsewhere (Nat.le_refl _) _
          have HR9 : Hid (Rd ((((w8.setCell ⟨w.heap.size, 0, none⟩ (.int .i64 1)).setCell ⟨w.heap.size, 1, none⟩ (.int .i64 (j : Int))).setCell ⟨w.heap.size, 2, none⟩ (.string (bsOf T))).setCell ⟨w.heap.size, 3, none⟩ (.int .u64 0)) a s i j) := (((HR7.out.other (by omega)).other (by omega)).other (by omega)).other (by omega)
          have HB9 : Hid (Wo ((((w8.setCell ⟨w.heap.size, 0, none⟩ (.int .i64 1)).setCell ⟨w.heap.size, 1, none⟩ (.int .i64 (j : Int))).setCell ⟨w.heap.size, 2, none⟩ (.string (bsOf T))).setCell ⟨w.heap.size, 3, none⟩ (.int .u64 0)) w.heap.size 1 j 0 (bsOf T)) := (((HB7.out.set0 _).set1 _).set2 _).set3 _
          generalize hW9 : World.setCell _ _ _ = W9 at HF9 HR9 HB9 ⊢
          clear hW9
          have q0 := HB9.out.c0
          have q1 := HB9.out.c1
          have q2 := HB9.out.c2
          have q3 := HB9.out.c3
          refine bodyPost_ret (v := .tuple #[wordV ⟨1, T, 0⟩ j, .bool true]) ?_ rfl ?_
          · simp [results, Tryz.results50, go_sem, q0, q1, q2, q3, wordV]
          · exact ⟨j, i, hkj, hj, hi, HR9.out, HF9.out, .inr (.inl ⟨⟨1, T, 0⟩, rfl, hji, hlen.out, HSK.out, hjs, HOK.out⟩)⟩
      | false =>
        rw [hl] at HLet
        have HNL : Hid (isL s[j] = false) := by show _ = _; rw [isL_let, HM.out]; exact hl
        go_wp2_with fail
        refine (HLet.out _).mono ?_
        rintro e w1 ⟨rfl, rfl⟩
        by_cases h96 : m = 96
        · have h96' : ((m : Int) == 96) = true := eq_bool (by omega)
          have HCC := hidE (HC.out 96 h96)
          clear h96
          go_wp2_with fail
          refine (quoted_any a s j j _ HR4.out hjs (by omega)).mono ?_
          rintro e w5 ⟨i, hi, hr5, hf5, ⟨T, rfl, hji0, hqt⟩ | ⟨rfl, hqt⟩⟩
          · have HWD : Hid (wordB Lib.validD (suf s j) = if nameOk Lib.validD T then some (⟨2, T, 0⟩, suf s i) else none) := by
              show _ = _
              rw [suf_cons hjs, HCC.out]
              have h1 : isL 96 = false := rfl
              simp only [wordB, h1, Bool.false_eq_true, if_false, if_true, hqt]
            have HTL : Hid (T.length ≤ s.size) := by
              have h1 := quot_len _ _ (Nat.le_refl _) _ hqt
              have h2 := suf_len s (j + 1)
              show _ ≤ _
              simp only at h1
              omega
            have hp4 := HW4.out.lt
            have HR5 := hidE hr5
            have HF5 : Hid (Fr a w.heap.size w w5) := HF4.out.trans (hf5.mono HF4.out.size)
            have HB5 : Hid (Wo w5 w.heap.size 0 0 0 ⟨#[]⟩) := HB4.out.fr hf5 (by omega) (by omega)
            have HW5 : Hid (Wo w5 p 0 j 0 ⟨#[]⟩) := HW4.out.fr hf5 hp4 (by omega)
            clear hr5 hf5 hqt HR4 HF4 HB4 HW4 hp4 HLet HDig
            have a0 := HW5.out.c0
            have a2 := HW5.out.c2
            have x0 := HW5.out.z 0
            have x2 := HW5.out.z 2
            go_upto_region 15 with fail
            have HR6 : Hid (Rd ((w5.setCell ⟨p, 0, none⟩ (.int .i64 2)).setCell ⟨p, 2, none⟩ (.string (bsOf T))) a s i j) := (HR5.out.other (by omega)).other (by omega)
            have HF6 : Hid (Fr a w.heap.size w ((w5.setCell ⟨p, 0, none⟩ (.int .i64 2)).setCell ⟨p, 2, none⟩ (.string (bsOf T)))) := (HF5.out.elsewhere (by omega) _).elsewhere (by omega) _
            have HB6 : Hid (Wo ((w5.setCell ⟨p, 0, none⟩ (.int .i64 2)).setCell ⟨p, 2, none⟩ (.string (bsOf T))) w.heap.size 0 0 0 ⟨#[]⟩) := (HB5.out.other (by omega)).other (by omega)
            have HW6 : Hid (Wo ((w5.setCell ⟨p, 0, none⟩ (.int .i64 2)).setCell ⟨p, 2, none⟩ (.string (bsOf T))) p 2 j 0 (bsOf T)) := (HW5.out.set0 2).set2 _
            generalize hW6 : World.setCell _ _ _ = W6 at HR6 HF6 HB6 HW6 ⊢
            clear hW6 HR5 HF5 HB5 HW5 a0 a2 x0 x2
            have hts : (bsOf T).size ≤ 10000000000 := by rw [bsOf_size]; have := HTL.out; omega
            have HNM := hidE (name_any (bsOf T) hts W6 (HE.out.fr HF6.out h8 HE.out.room))
            rw [bsOf_list] at HNM
            have a2 := HW6.out.c2
            go_wp2_with fail
            refine HNM.out.mono ?_
            rintro e w7 ⟨rfl, hb7⟩
            have hz6 := HB6.out.lt
            have hp6 := HW6.out.lt
            have hr6 := HR6.out.lt
            have HR7 : Hid (Rd w7 a s i j) := HR6.out.below hb7 hr6
            have HF7 : Hid (Fr a w.heap.size w w7) := HF6.out.trans (Fr.of_below (hb7.mono (by omega)))
            have HB7 : Hid (Wo w7 w.heap.size 0 0 0 ⟨#[]⟩) := HB6.out.below hb7 hz6
            have HW7 : Hid (Wo w7 p 2 j 0 (bsOf T)) := HW6.out.below hb7 hp6
            clear hb7 HR6 HF6 HB6 HW6 a2 HNM
            cases hnm : nameOk Lib.validD T with
            | false =>
              have HNO : Hid (wordB Lib.validD (suf s j) = none) := by show _ = _; rw [HWD.out, hnm]; rfl
              go_wp2_with fail
              refine (HNF.out _).mono ?_
              rintro e w8 ⟨rfl, rfl⟩
              exact ⟨rfl, j, i, hkj, hj, hi, HR7.out, HF7.out, .inr (.inr ⟨rfl, .inr ⟨HSK.out, hjs, HNO.out⟩⟩)⟩
            | true =>
              have HOK : Hid (wordB Lib.validD (suf s j) = some (⟨2, T, 0⟩, suf s i)) := by show _ = _; rw [HWD.out, hnm]; rfl
              have hji : j < i := by
                have h1 := wordB_lt _ HOK.out
                simp only [suf_len] at h1
                omega
              have hlen : Hid (T.length ≤ 4 * s.size) := by show _ ≤ _; have := HTL.out; omega
              go_wp2_with fail
              refine (HT.out _).mono ?_
              rintro e w8 ⟨rfl, rfl⟩
              have a0 := HW7.out.c0
              have a1 := HW7.out.c1
              have a2 := HW7.out.c2
              have a3 := HW7.out.c3
              have b0 := HB7.out.c0
              have b1 := HB7.out.c1
              have b2 := HB7.out.c2
              have b3 := HB7.out.c3
              have y0 := HB7.out.z 0
              have y1 := HB7.out.z 1
              have y2 := HB7.out.z 2
              have y3 := HB7.out.z 3
              go_wp2_with fail
              have HF9 : Hid (Fr a w.heap.size w ((((w8.setCell ⟨w.heap.size, 0, none⟩ (.int .i64 2)).setCell ⟨w.heap.size, 1, none⟩ (.int .i64 (j : Int))).setCell ⟨w.heap.size, 2, none⟩ (.string (bsOf T))).setCell ⟨w.heap.size, 3, none⟩ (.int .u64 0))) := (((HF7.out.elsewhere (Nat.le_refl _) _).elsewhere (Nat.le_refl _) _).elsewhere (Nat.le_refl _) _).elsewhere (Nat.le_refl _) _
              have HR9 : Hid (Rd ((((w8.setCell ⟨w.heap.size, 0, none⟩ (.int .i64 2)).setCell ⟨w.heap.size, 1, none⟩ (.int .i64 (j : Int))).setCell ⟨w.heap.size, 2, none⟩ (.string (bsOf T))).setCell ⟨w.heap.size, 3, none⟩ (.int .u64 0)) a s i j) := (((HR7.out.other (by omega)).other (by omega)).other (by omega)).other (by omega)
              have HB9 : Hid (Wo ((((w8.setCell ⟨w.heap.size, 0, none⟩ (.int .i64 2)).setCell ⟨w.heap.size, 1, none⟩ (.int .i64 (j : Int))).setCell ⟨w.heap.size, 2, none⟩ (.string (bsOf T))).setCell ⟨w.heap.size, 3, none⟩ (.int .u64 0)) w.heap.size 2 j 0 (bsOf T)) := (((HB7.out.set0 _).set1 _).set2 _).set3 _
              generalize hW9 : World.setCell _ _ _ = W9 at HF9 HR9 HB9 ⊢
              clear hW9
              have q0 := HB9.out.c0
              have q1 := HB9.out.c1
              have q2 := HB9.out.c2
              have q3 := HB9.out.c3
              refine bodyPost_ret (v := .tuple #[wordV ⟨2, T, 0⟩ j, .bool true]) ?_ rfl ?_
              · simp [results, Tryz.results50, go_sem, q0, q1, q2, q3, wordV]
              · exact ⟨j, i, hkj, hj, hi, HR9.out, HF9.out, .inr (.inl ⟨⟨2, T, 0⟩, rfl, hji, hlen.out, HSK.out, hjs, HOK.out⟩)⟩
          · have HNO : Hid (wordB Lib.validD (suf s j) = none) := by
              show _ = _
              rw [suf_cons hjs, HCC.out]
              have h1 : isL 96 = false := rfl
              simp only [wordB, h1, Bool.false_eq_true, if_false, if_true, hqt]
            exact ⟨rfl, j, i, hkj, hj, hi, hr5, HF4.out.trans (hf5.mono HF4.out.size), .inr (.inr ⟨rfl, .inr ⟨HSK.out, hjs, HNO.out⟩⟩)⟩
        · have h96' : ((m : Int) == 96) = false := ne_bool (by omega)
          by_cases hq : m = 39 ∨ m = 34
          · have hq' : ((m : Int) == 39 || (m : Int) == 34) = true := by
              rcases hq with h | h <;> simp [h]
            have HCC : Hid (s[j] ≠ 96 ∧ (s[j] = 39 ∨ s[j] = 34)) := by
              refine ⟨fun e => h96 (by rw [← HM.out, e]; rfl), ?_⟩
              rcases hq with h | h
              · exact .inl (HC.out 39 h)
              · exact .inr (HC.out 34 h)
            have HQ92 : Hid (s[j] ≠ 92) := by
              intro e
              rcases HCC.out.2 with h | h <;> rw [h] at e <;> cases e
            obtain ⟨cq, hcq⟩ : ∃ c, s[j] = c := ⟨_, rfl⟩
            have HCL := hidE (fun w hr => closed_any a s j j w hr hjs (by omega) HQ92.out)
            rw [hcq] at HCC HCL
            have HWD0 : Hid (wordB Lib.validD (suf s j) = match textB cq (suf s (j + 1)) with | some p => if Lib.validD p.1 then some (⟨3, p.1, 0⟩, p.2) else none | none => none) := by
              show _ = _
              have h1 := HNL.out
              have h2 := HCC.out
              rw [suf_cons hjs]
              rw [hcq] at h1 ⊢
              simp only [wordB, h1, h2.1, h2.2, Bool.false_eq_true, if_false, if_true]
              cases textB cq (suf s (j + 1)) <;> rfl
            clear hcq
            by_cases h39 : m = 39
            · have h39' : ((m : Int) == 39) = true := eq_bool (by omega)
              clear hq h39 h96 hq'
              go_wp2_with fail
              refine (HCL.out _ HR4.out).mono ?_
              rintro e w5 ⟨i, hi, hr5, hf5, ⟨T, rfl, hji0, htl, hqt⟩ | ⟨rfl, hqt⟩⟩
              · have HWD : Hid (wordB Lib.validD (suf s j) = if Lib.validD T then some (⟨3, T, 0⟩, suf s i) else none) := by
                  show _ = _
                  rw [HWD0.out, hqt]
                have HTL : Hid (T.length ≤ 4 * s.size) := htl
                have hp4 := HW4.out.lt
                have HR5 := hidE hr5
                have HF5 : Hid (Fr a w.heap.size w w5) := HF4.out.trans (hf5.mono HF4.out.size)
                have HB5 : Hid (Wo w5 w.heap.size 0 0 0 ⟨#[]⟩) := HB4.out.fr hf5 (by omega) (by omega)
                have HW5 : Hid (Wo w5 p 0 j 0 ⟨#[]⟩) := HW4.out.fr hf5 hp4 (by omega)
                clear hr5 hf5 hqt HR4 HF4 HB4 HW4 hp4 HLet HDig htl
                have a0 := HW5.out.c0
                have a2 := HW5.out.c2
                have x0 := HW5.out.z 0
                have x2 := HW5.out.z 2
                go_upto_region 17 with fail
                have HR6 : Hid (Rd ((w5.setCell ⟨p, 0, none⟩ (.int .i64 3)).setCell ⟨p, 2, none⟩ (.string (bsOf T))) a s i j) := (HR5.out.other (by omega)).other (by omega)
                have HF6 : Hid (Fr a w.heap.size w ((w5.setCell ⟨p, 0, none⟩ (.int .i64 3)).setCell ⟨p, 2, none⟩ (.string (bsOf T)))) := (HF5.out.elsewhere (by omega) _).elsewhere (by omega) _
                have HB6 : Hid (Wo ((w5.setCell ⟨p, 0, none⟩ (.int .i64 3)).setCell ⟨p, 2, none⟩ (.string (bsOf T))) w.heap.size 0 0 0 ⟨#[]⟩) := (HB5.out.other (by omega)).other (by omega)
                have HW6 : Hid (Wo ((w5.setCell ⟨p, 0, none⟩ (.int .i64 3)).setCell ⟨p, 2, none⟩ (.string (bsOf T))) p 3 j 0 (bsOf T)) := (HW5.out.set0 3).set2 _
                generalize hW6 : World.setCell _ _ _ = W6 at HR6 HF6 HB6 HW6 ⊢
                clear hW6 HR5 HF5 HB5 HW5 a0 a2 x0 x2
                have hts : (bsOf T).size ≤ 10000000000 := by rw [bsOf_size]; have := HTL.out; omega
                have HNM := hidE (valid_any (bsOf T) hts W6 (HE.out.fr HF6.out h8 HE.out.room))
                rw [bsOf_list] at HNM
                have a2 := HW6.out.c2
                go_wp2_with fail
                refine HNM.out.mono ?_
                rintro e w7 ⟨rfl, hb7⟩
                have hz6 := HB6.out.lt
                have hp6 := HW6.out.lt
                have hr6 := HR6.out.lt
                have HR7 : Hid (Rd w7 a s i j) := HR6.out.below hb7 hr6
                have HF7 : Hid (Fr a w.heap.size w w7) := HF6.out.trans (Fr.of_below (hb7.mono (by omega)))
                have HB7 : Hid (Wo w7 w.heap.size 0 0 0 ⟨#[]⟩) := HB6.out.below hb7 hz6
                have HW7 : Hid (Wo w7 p 3 j 0 (bsOf T)) := HW6.out.below hb7 hp6
                clear hb7 HR6 HF6 HB6 HW6 a2 HNM
                cases hnm : Lib.validD T with
                | false =>
                  have HNO : Hid (wordB Lib.validD (suf s j) = none) := by show _ = _; rw [HWD.out, hnm]; rfl
                  go_wp2_with fail
                  refine (HNF.out _).mono ?_
                  rintro e w8 ⟨rfl, rfl⟩
                  exact ⟨rfl, j, i, hkj, hj, hi, HR7.out, HF7.out, .inr (.inr ⟨rfl, .inr ⟨HSK.out, hjs, HNO.out⟩⟩)⟩
                | true =>
                  have HOK : Hid (wordB Lib.validD (suf s j) = some (⟨3, T, 0⟩, suf s i)) := by show _ = _; rw [HWD.out, hnm]; rfl
                  have hji : j < i := by
                    have h1 := wordB_lt _ HOK.out
                    simp only [suf_len] at h1
                    omega
                  have hlen : Hid (T.length ≤ 4 * s.size) := by show _ ≤ _; have := HTL.out; omega
                  go_wp2_with fail
                  refine (HT.out _).mono ?_
                  rintro e w8 ⟨rfl, rfl⟩
                  have a0 := HW7.out.c0
                  have a1 := HW7.out.c1
                  have a2 := HW7.out.c2
                  have a3 := HW7.out.c3
                  have b0 := HB7.out.c0
                  have b1 := HB7.out.c1
                  have b2 := HB7.out.c2
                  have b3 := HB7.out.c3
                  have y0 := HB7.out.z 0
                  have y1 := HB7.out.z 1
                  have y2 := HB7.out.z 2
                  have y3 := HB7.out.z 3
                  go_wp2_with fail
                  have HF9 : Hid (Fr a w.heap.size w ((((w8.setCell ⟨w.heap.size, 0, none⟩ (.int .i64 3)).setCell ⟨w.heap.size, 1, none⟩ (.int .i64 (j : Int))).setCell ⟨w.heap.size, 2, none⟩ (.string (bsOf T))).setCell ⟨w.heap.size, 3, none⟩ (.int .u64 0))) := (((HF7.out.elsewhere (Nat.le_refl _) _).elsewhere (Nat.le_refl _) _).elsewhere (Nat.le_refl _) _).elsewhere (Nat.le_refl _) _
                  have HR9 : Hid (Rd ((((w8.setCell ⟨w.heap.size, 0, none⟩ (.int .i64 3)).setCell ⟨w.heap.size, 1, none⟩ (.int .i64 (j : Int))).setCell ⟨w.heap.size, 2, none⟩ (.string (bsOf T))).setCell ⟨w.heap.size, 3, none⟩ (.int .u64 0)) a s i j) := (((HR7.out.other (by omega)).other (by omega)).other (by omega)).other (by omega)
                  have HB9 : Hid (Wo ((((w8.setCell ⟨w.heap.size, 0, none⟩ (.int .i64 3)).setCell ⟨w.heap.size, 1, none⟩ (.int .i64 (j : Int))).setCell ⟨w.heap.size, 2, none⟩ (.string (bsOf T))).setCell ⟨w.heap.size, 3, none⟩ (.int .u64 0)) w.heap.size 3 j 0 (bsOf T)) := (((HB7.out.set0 _).set1 _).set2 _).set3 _
                  generalize hW9 : World.setCell _ _ _ = W9 at HF9 HR9 HB9 ⊢
                  clear hW9
                  have q0 := HB9.out.c0
                  have q1 := HB9.out.c1
                  have q2 := HB9.out.c2
                  have q3 := HB9.out.c3
                  refine bodyPost_ret (v := .tuple #[wordV ⟨3, T, 0⟩ j, .bool true]) ?_ rfl ?_
                  · simp [results, Tryz.results50, go_sem, q0, q1, q2, q3, wordV]
                  · exact ⟨j, i, hkj, hj, hi, HR9.out, HF9.out, .inr (.inl ⟨⟨3, T, 0⟩, rfl, hji, hlen.out, HSK.out, hjs, HOK.out⟩)⟩
              · have HNO : Hid (wordB Lib.validD (suf s j) = none) := by show _ = _; rw [HWD0.out, hqt]
                exact ⟨rfl, j, i, hkj, hj, hi, hr5, HF4.out.trans (hf5.mono HF4.out.size), .inr (.inr ⟨rfl, .inr ⟨HSK.out, hjs, HNO.out⟩⟩)⟩
            · have h39' : ((m : Int) == 39) = false := ne_bool (by omega)
              have h34' : ((m : Int) == 34) = true := eq_bool (by omega)
              clear hq h39 h96 hq'
              go_wp2_with fail
              refine (HCL.out _ HR4.out).mono ?_
              rintro e w5 ⟨i, hi, hr5, hf5, ⟨T, rfl, hji0, htl, hqt⟩ | ⟨rfl, hqt⟩⟩
              · have HWD : Hid (wordB Lib.validD (suf s j) = if Lib.validD T then some (⟨3, T, 0⟩, suf s i) else none) := by
                  show _ = _
                  rw [HWD0.out, hqt]
                have HTL : Hid (T.length ≤ 4 * s.size) := htl
                have hp4 := HW4.out.lt
                have HR5 := hidE hr5
                have HF5 : Hid (Fr a w.heap.size w w5) := HF4.out.trans (hf5.mono HF4.out.size)
                have HB5 : Hid (Wo w5 w.heap.size 0 0 0 ⟨#[]⟩) := HB4.out.fr hf5 (by omega) (by omega)
                have HW5 : Hid (Wo w5 p 0 j 0 ⟨#[]⟩) := HW4.out.fr hf5 hp4 (by omega)
                clear hr5 hf5 hqt HR4 HF4 HB4 HW4 hp4 HLet HDig htl
                have a0 := HW5.out.c0
                have a2 := HW5.out.c2
                have x0 := HW5.out.z 0
                have x2 := HW5.out.z 2
                go_upto_region 17 with fail
                have HR6 : Hid (Rd ((w5.setCell ⟨p, 0, none⟩ (.int .i64 3)).setCell ⟨p, 2, none⟩ (.string (bsOf T))) a s i j) := (HR5.out.other (by omega)).other (by omega)
                have HF6 : Hid (Fr a w.heap.size w ((w5.setCell ⟨p, 0, none⟩ (.int .i64 3)).setCell ⟨p, 2, none⟩ (.string (bsOf T)))) := (HF5.out.elsewhere (by omega) _).elsewhere (by omega) _
                have HB6 : Hid (Wo ((w5.setCell ⟨p, 0, none⟩ (.int .i64 3)).setCell ⟨p, 2, none⟩ (.string (bsOf T))) w.heap.size 0 0 0 ⟨#[]⟩) := (HB5.out.other (by omega)).other (by omega)
                have HW6 : Hid (Wo ((w5.setCell ⟨p, 0, none⟩ (.int .i64 3)).setCell ⟨p, 2, none⟩ (.string (bsOf T))) p 3 j 0 (bsOf T)) := (HW5.out.set0 3).set2 _
                generalize hW6 : World.setCell _ _ _ = W6 at HR6 HF6 HB6 HW6 ⊢
                clear hW6 HR5 HF5 HB5 HW5 a0 a2 x0 x2
                have hts : (bsOf T).size ≤ 10000000000 := by rw [bsOf_size]; have := HTL.out; omega
                have HNM := hidE (valid_any (bsOf T) hts W6 (HE.out.fr HF6.out h8 HE.out.room))
                rw [bsOf_list] at HNM
                have a2 := HW6.out.c2
                go_wp2_with fail
                refine HNM.out.mono ?_
                rintro e w7 ⟨rfl, hb7⟩
                have hz6 := HB6.out.lt
                have hp6 := HW6.out.lt
                have hr6 := HR6.out.lt
                have HR7 : Hid (Rd w7 a s i j) := HR6.out.below hb7 hr6
                have HF7 : Hid (Fr a w.heap.size w w7) := HF6.out.trans (Fr.of_below (hb7.mono (by omega)))
                have HB7 : Hid (Wo w7 w.heap.size 0 0 0 ⟨#[]⟩) := HB6.out.below hb7 hz6
                have HW7 : Hid (Wo w7 p 3 j 0 (bsOf T)) := HW6.out.below hb7 hp6
                clear hb7 HR6 HF6 HB6 HW6 a2 HNM
                cases hnm : Lib.validD T with
                | false =>
                  have HNO : Hid (wordB Lib.validD (suf s j) = none) := by show _ = _; rw [HWD.out, hnm]; rfl
                  go_wp2_with fail
                  refine (HNF.out _).mono ?_
                  rintro e w8 ⟨rfl, rfl⟩
                  exact ⟨rfl, j, i, hkj, hj, hi, HR7.out, HF7.out, .inr (.inr ⟨rfl, .inr ⟨HSK.out, hjs, HNO.out⟩⟩)⟩
                | true =>
                  have HOK : Hid (wordB Lib.validD (suf s j) = some (⟨3, T, 0⟩, suf s i)) := by show _ = _; rw [HWD.out, hnm]; rfl
                  have hji : j < i := by
                    have h1 := wordB_lt _ HOK.out
                    simp only [suf_len] at h1
                    omega
                  have hlen : Hid (T.length ≤ 4 * s.size) := by show _ ≤ _; have := HTL.out; omega
                  go_wp2_with fail
                  refine (HT.out _).mono ?_
                  rintro e w8 ⟨rfl, rfl⟩
                  have a0 := HW7.out.c0
                  have a1 := HW7.out.c1
                  have a2 := HW7.out.c2
                  have a3 := HW7.out.c3
                  have b0 := HB7.out.c0
                  have b1 := HB7.out.c1
                  have b2 := HB7.out.c2
                  have b3 := HB7.out.c3
                  have y0 := HB7.out.z 0
                  have y1 := HB7.out.z 1
                  have y2 := HB7.out.z 2
                  have y3 := HB7.out.z 3
                  go_wp2_with fail
                  have HF9 : Hid (Fr a w.heap.size w ((((w8.setCell ⟨w.heap.size, 0, none⟩ (.int .i64 3)).setCell ⟨w.heap.size, 1, none⟩ (.int .i64 (j : Int))).setCell ⟨w.heap.size, 2, none⟩ (.string (bsOf T))).setCell ⟨w.heap.size, 3, none⟩ (.int .u64 0))) := (((HF7.out.elsewhere (Nat.le_refl _) _).elsewhere (Nat.le_refl _) _).elsewhere (Nat.le_refl _) _).elsewhere (Nat.le_refl _) _
                  have HR9 : Hid (Rd ((((w8.setCell ⟨w.heap.size, 0, none⟩ (.int .i64 3)).setCell ⟨w.heap.size, 1, none⟩ (.int .i64 (j : Int))).setCell ⟨w.heap.size, 2, none⟩ (.string (bsOf T))).setCell ⟨w.heap.size, 3, none⟩ (.int .u64 0)) a s i j) := (((HR7.out.other (by omega)).other (by omega)).other (by omega)).other (by omega)
                  have HB9 : Hid (Wo ((((w8.setCell ⟨w.heap.size, 0, none⟩ (.int .i64 3)).setCell ⟨w.heap.size, 1, none⟩ (.int .i64 (j : Int))).setCell ⟨w.heap.size, 2, none⟩ (.string (bsOf T))).setCell ⟨w.heap.size, 3, none⟩ (.int .u64 0)) w.heap.size 3 j 0 (bsOf T)) := (((HB7.out.set0 _).set1 _).set2 _).set3 _
                  generalize hW9 : World.setCell _ _ _ = W9 at HF9 HR9 HB9 ⊢
                  clear hW9
                  have q0 := HB9.out.c0
                  have q1 := HB9.out.c1
                  have q2 := HB9.out.c2
                  have q3 := HB9.out.c3
                  refine bodyPost_ret (v := .tuple #[wordV ⟨3, T, 0⟩ j, .bool true]) ?_ rfl ?_
                  · simp [results, Tryz.results50, go_sem, q0, q1, q2, q3, wordV]
                  · exact ⟨j, i, hkj, hj, hi, HR9.out, HF9.out, .inr (.inl ⟨⟨3, T, 0⟩, rfl, hji, hlen.out, HSK.out, hjs, HOK.out⟩)⟩
              · have HNO : Hid (wordB Lib.validD (suf s j) = none) := by show _ = _; rw [HWD0.out, hqt]
                exact ⟨rfl, j, i, hkj, hj, hi, hr5, HF4.out.trans (hf5.mono HF4.out.size), .inr (.inr ⟨rfl, .inr ⟨HSK.out, hjs, HNO.out⟩⟩)⟩
          · have hq1 : ((m : Int) == 39) = false := ne_bool (by omega)
            have hq2 : ((m : Int) == 34) = false := ne_bool (by omega)
            go_wp2_with fail
            refine (HDig.out _).mono ?_
            rintro e w1 ⟨rfl, rfl⟩
            cases hd : digN m with
            | true =>
              have HWD : Hid (wordB Lib.validD (suf s j) = match numK ((suf s j).takeWhile isLD) with | some u => some (⟨4, [], u⟩, (suf s j).dropWhile isLD) | none => none) := by
                show _ = _
                have h1 := HNL.out
                have h2 : isD s[j] = true := by rw [isD_dig, HM.out]; exact hd
                have h3 : ¬ s[j] = 96 := fun e => h96 (by rw [← HM.out, e]; rfl)
                have h4 : ¬ (s[j] = 39 ∨ s[j] = 34) := by
                  rintro (e | e)
                  · exact hq (.inl (by rw [← HM.out, e]; rfl))
                  · exact hq (.inr (by rw [← HM.out, e]; rfl))
                have h5 : wordB Lib.validD (suf s j) = numB (suf s j) := by
                  rw [suf_cons hjs]
                  simp only [wordB, h1, h2, h3, h4, Bool.false_eq_true, if_false, if_true]
                have h6 : ((suf s j).takeWhile isLD).head? = (suf s j).head? := by
                  rw [suf_cons hjs]
                  have : isLD s[j] = true := by simp [isLD, h2]
                  simp [List.takeWhile, this]
                rw [h5, num_run]
                unfold numK
                rw [h6]
                by_cases hc : ((suf s j).takeWhile isLD).all isD = true ∧ valD ((suf s j).takeWhile isLD) ≤ 9223372036854775808 ∧ ((suf s j).head? ≠ some 48 ∨ ((suf s j).takeWhile isLD).length = 1)
                · rw [if_pos hc, if_pos hc]
                · rw [if_neg hc, if_neg hc]
              have HTL : Hid (((suf s j).takeWhile isLD).length ≤ s.size ∧ 0 < ((suf s j).takeWhile isLD).length) := by
                have h1 : ((suf s j).takeWhile isLD).length ≤ (suf s j).length := (List.takeWhile_prefix _).length_le
                have h2 := suf_len s j
                refine ⟨by omega, ?_⟩
                rw [suf_cons hjs]
                have h3 : isD s[j] = true := by rw [isD_dig, HM.out]; exact hd
                have : isLD s[j] = true := by simp [isLD, h3]
                simp [List.takeWhile, this]
              clear h96 hq
              go_wp2_with fail
              refine (run_any a s j j _ HR4.out hj (by omega)).mono ?_
              rintro e w5 ⟨rfl, i, hji0, hi, hsi, hr5, hf5⟩
              rw [← hsi] at HWD
              generalize (suf s j).takeWhile isLD = T at HWD HTL ⊢
              have hp4 := HW4.out.lt
              have HR5 := hidE hr5
              have HF5 : Hid (Fr a w.heap.size w w5) := HF4.out.trans (hf5.mono HF4.out.size)
              have HB5 : Hid (Wo w5 w.heap.size 0 0 0 ⟨#[]⟩) := HB4.out.fr hf5 (by omega) (by omega)
              have HW5 : Hid (Wo w5 p 0 j 0 ⟨#[]⟩) := HW4.out.fr hf5 hp4 (by omega)
              clear hr5 hf5 hsi HR4 HF4 HB4 HW4 hp4 HLet HDig
              have hts : (bsOf T).size ≤ 10000000000 := by rw [bsOf_size]; have := HTL.out.1; omega
              have hts0 : 0 < (bsOf T).size := by rw [bsOf_size]; exact HTL.out.2
              have HNM := hidE (number_any (bsOf T) hts hts0 w5 (HE.out.fr HF5.out h8 HE.out.room))
              rw [bsOf_list] at HNM
              go_wp2_with fail
              refine HNM.out.mono ?_
              rintro e w6 ⟨hb6, ⟨u, rfl, hu⟩ | ⟨rfl, hu⟩⟩
              · have hz5 := HB5.out.lt
                have hp5 := HW5.out.lt
                have hr5 := HR5.out.lt
                have HR5' : Hid (Rd w6 a s i j) := HR5.out.below hb6 hr5
                have HF5' : Hid (Fr a w.heap.size w w6) := HF5.out.trans (Fr.of_below (hb6.mono (by omega)))
                have HB5' : Hid (Wo w6 w.heap.size 0 0 0 ⟨#[]⟩) := HB5.out.below hb6 hz5
                have HW5' : Hid (Wo w6 p 0 j 0 ⟨#[]⟩) := HW5.out.below hb6 hp5
                have HOK : Hid (wordB Lib.validD (suf s j) = some (⟨4, [], u⟩, suf s i)) := by show _ = _; rw [HWD.out, hu]
                have hji : j < i := by
                  have h1 := wordB_lt _ HOK.out
                  simp only [suf_len] at h1
                  omega
                have hlen : Hid ((⟨4, [], u⟩ : Wd).text.length ≤ 4 * s.size) := Nat.zero_le _
                clear hb6 hu HR5 HF5 HB5 HW5 HNM HWD
                have a0 := HW5'.out.c0
                have a3 := HW5'.out.c3
                have x0 := HW5'.out.z 0
                have x3 := HW5'.out.z 3
                go_upto_region 23 with fail
                have HR6 : Hid (Rd ((w6.setCell ⟨p, 0, none⟩ (.int .i64 4)).setCell ⟨p, 3, none⟩ (.int .u64 (u : Int))) a s i j) := (HR5'.out.other (by omega)).other (by omega)
                have HF6 : Hid (Fr a w.heap.size w ((w6.setCell ⟨p, 0, none⟩ (.int .i64 4)).setCell ⟨p, 3, none⟩ (.int .u64 (u : Int)))) := (HF5'.out.elsewhere (by omega) _).elsewhere (by omega) _
                have HB6 : Hid (Wo ((w6.setCell ⟨p, 0, none⟩ (.int .i64 4)).setCell ⟨p, 3, none⟩ (.int .u64 (u : Int))) w.heap.size 0 0 0 ⟨#[]⟩) := (HB5'.out.other (by omega)).other (by omega)
                have HW6 : Hid (Wo ((w6.setCell ⟨p, 0, none⟩ (.int .i64 4)).setCell ⟨p, 3, none⟩ (.int .u64 (u : Int))) p 4 j (u : Int) ⟨#[]⟩) := (HW5'.out.set0 4).set3 _
                generalize hW6 : World.setCell _ _ _ = W6 at HR6 HF6 HB6 HW6 ⊢
                clear hW6 HR5' HF5' HB5' HW5' a0 a3 x0 x3
                have a0 := HW6.out.c0
                have a1 := HW6.out.c1
                have a2 := HW6.out.c2
                have a3 := HW6.out.c3
                have b0 := HB6.out.c0
                have b1 := HB6.out.c1
                have b2 := HB6.out.c2
                have b3 := HB6.out.c3
                have y0 := HB6.out.z 0
                have y1 := HB6.out.z 1
                have y2 := HB6.out.z 2
                have y3 := HB6.out.z 3
                go_wp2_with fail
                have HF9 : Hid (Fr a w.heap.size w ((((W6.setCell ⟨w.heap.size, 0, none⟩ (.int .i64 4)).setCell ⟨w.heap.size, 1, none⟩ (.int .i64 (j : Int))).setCell ⟨w.heap.size, 2, none⟩ (.string ⟨#[]⟩)).setCell ⟨w.heap.size, 3, none⟩ (.int .u64 (u : Int)))) := (((HF6.out.elsewhere (Nat.le_refl _) _).elsewhere (Nat.le_refl _) _).elsewhere (Nat.le_refl _) _).elsewhere (Nat.le_refl _) _
                have HR9 : Hid (Rd ((((W6.setCell ⟨w.heap.size, 0, none⟩ (.int .i64 4)).setCell ⟨w.heap.size, 1, none⟩ (.int .i64 (j : Int))).setCell ⟨w.heap.size, 2, none⟩ (.string ⟨#[]⟩)).setCell ⟨w.heap.size, 3, none⟩ (.int .u64 (u : Int))) a s i j) := (((HR6.out.other (by omega)).other (by omega)).other (by omega)).other (by omega)
                have HB9 : Hid (Wo ((((W6.setCell ⟨w.heap.size, 0, none⟩ (.int .i64 4)).setCell ⟨w.heap.size, 1, none⟩ (.int .i64 (j : Int))).setCell ⟨w.heap.size, 2, none⟩ (.string ⟨#[]⟩)).setCell ⟨w.heap.size, 3, none⟩ (.int .u64 (u : Int))) w.heap.size 4 j (u : Int) ⟨#[]⟩) := (((HB6.out.set0 _).set1 _).set2 _).set3 _
                generalize hW9 : World.setCell _ _ _ = W9 at HF9 HR9 HB9 ⊢
                clear hW9
                have q0 := HB9.out.c0
                have q1 := HB9.out.c1
                have q2 := HB9.out.c2
                have q3 := HB9.out.c3
                refine bodyPost_ret (v := .tuple #[wordV ⟨4, [], u⟩ j, .bool true]) ?_ rfl ?_
                · simp [results, Tryz.results50, go_sem, q0, q1, q2, q3, wordV, bsOf]
                · exact ⟨j, i, hkj, hj, hi, HR9.out, HF9.out, .inr (.inl ⟨⟨4, [], u⟩, rfl, hji, hlen.out, HSK.out, hjs, HOK.out⟩)⟩
              · have HNO : Hid (wordB Lib.validD (suf s j) = none) := by show _ = _; rw [HWD.out, hu]
                have hr5 := HR5.out.lt
                exact ⟨rfl, j, i, hkj, hj, hi, HR5.out.below hb6 hr5, HF5.out.trans (Fr.of_below (hb6.mono HF5.out.size)), .inr (.inr ⟨rfl, .inr ⟨HSK.out, hjs, HNO.out⟩⟩)⟩
            | false =>
              have HWD : Hid (wordB Lib.validD (suf s j) = signB (suf s j)) := by
                show _ = _
                have h1 := HNL.out
                have h2 : isD s[j] = false := by rw [isD_dig, HM.out]; exact hd
                have h3 : ¬ s[j] = 96 := fun e => h96 (by rw [← HM.out, e]; rfl)
                have h4 : ¬ (s[j] = 39 ∨ s[j] = 34) := by
                  rintro (e | e)
                  · exact hq (.inl (by rw [← HM.out, e]; rfl))
                  · exact hq (.inr (by rw [← HM.out, e]; rfl))
                rw [suf_cons hjs]
                simp only [wordB, h1, h2, h3, h4, Bool.false_eq_true, if_false, if_true]
              clear h96 hq
              go_wp2_with fail
              refine (ahead_any a s j j 2 _ HR4.out hj (by omega) (by decide) (by decide)).mono ?_
              rintro e w5 ⟨rfl, m5, rfl⟩
              generalize hW5 : World.drewN _ _ = W5
              have HR5 : Hid (Rd W5 a s j j) := by rw [← hW5]; exact HR4.out.drewN _
              have HF5 : Hid (Fr a w.heap.size w W5) := by rw [← hW5]; exact HF4.out.drewN _
              have HB5 : Hid (Wo W5 w.heap.size 0 0 0 ⟨#[]⟩) := by rw [← hW5]; exact HB4.out.drewN _
              have HW5 : Hid (Wo W5 p 0 j 0 ⟨#[]⟩) := by rw [← hW5]; exact HW4.out.drewN _
              clear hW5 HR4 HF4 HB4 HW4
              go_wp2_with fail
              refine (sign_any (aheadB s j 2) _).mono ?_
              rintro e w6 ⟨rfl, rfl⟩
              cases h2 : signOk (aheadB s j 2).data.toList with
              | true =>
                obtain ⟨d, hd1, HT2⟩ : ∃ d, ∃ h : j + 1 < s.size, s[j + 1] = d ∧ twoB s[j] d = true := by
                  by_cases h : j + 1 < s.size
                  · rw [← ByteArray.toList_eq, ahead_two h] at h2
                    exact ⟨s[j + 1], h, rfl, h2⟩
                  · rw [← ByteArray.toList_eq, ahead_no (by omega)] at h2; cases h2
                obtain ⟨i, hij⟩ : ∃ i, j + 2 = i := ⟨_, rfl⟩
                have HOK : Hid (wordB Lib.validD (suf s j) = some (⟨5, [s[j], d], 0⟩, suf s i)) := by
                  show _ = _
                  rw [HWD.out, suf_cons hjs, suf_cons hd1, HT2.1, ← hij]
                  simp only [signB, HT2.2, if_true]
                have HTX : Hid (s.extract j i = bsOf [s[j], d]) := by
                  show _ = _
                  rw [← hij, ext_two hd1, HT2.1]; rfl
                have hi : i ≤ s.size := by omega
                have hji : j < i := by omega
                have HIJ := hidE hij
                clear hij HT2 hd1 h2 HWD HLet HDig
                have c1 := HR5.out.c1
                have z1 := HR5.out.z1
                go_upto_region 21 with fail
                have HR8 : Hid (Rd ((w6.setCell ⟨a, 1, none⟩ (.int .i64 ((j : Int) + 1))).setCell ⟨a, 1, none⟩ (.int .i64 ((j : Int) + 1 + 1))) a s i j) := (HR5.out.at (j + 1) _ (by go_num)).at i _ (by have := HIJ.out; omega)
                have HF8 : Hid (Fr a w.heap.size w ((w6.setCell ⟨a, 1, none⟩ (.int .i64 ((j : Int) + 1))).setCell ⟨a, 1, none⟩ (.int .i64 ((j : Int) + 1 + 1)))) := (HF5.out.put _ _).put _ _
                have HB8 : Hid (Wo ((w6.setCell ⟨a, 1, none⟩ (.int .i64 ((j : Int) + 1))).setCell ⟨a, 1, none⟩ (.int .i64 ((j : Int) + 1 + 1))) w.heap.size 0 0 0 ⟨#[]⟩) := (HB5.out.other (by omega)).other (by omega)
                have HW8 : Hid (Wo ((w6.setCell ⟨a, 1, none⟩ (.int .i64 ((j : Int) + 1))).setCell ⟨a, 1, none⟩ (.int .i64 ((j : Int) + 1 + 1))) p 0 j 0 ⟨#[]⟩) := (HW5.out.other (by omega)).other (by omega)
                generalize hW8 : World.setCell _ _ _ = W8 at HR8 HF8 HB8 HW8 ⊢
                clear hW8 HR5 HF5 HB5 HW5 c1 z1
                have hlen : Hid ((⟨5, [s[j], d], 0⟩ : Wd).text.length ≤ 4 * s.size) := by show 2 ≤ _; omega
                have c0 := HR8.out.c0
                have c1 := HR8.out.c1
                have a0 := HW8.out.c0
                have a1 := HW8.out.c1
                have a2 := HW8.out.c2
                have x0 := HW8.out.z 0
                have x2 := HW8.out.z 2
                have s0 : (0 : Int) ≤ j := by omega
                have s1 : (j : Int) ≤ i := by omega
                have s2 : (i : Int) ≤ s.size := by omega
                have hpa : p ≠ a := by omega
                go_region
                all_goals
                  have HR6 : Hid (Rd ((W8.setCell ⟨p, 0, none⟩ (.int .i64 5)).setCell ⟨p, 2, none⟩ (.string (s.extract j i))).drew a s i j) := (HR8.out.other (by omega)).other (by omega)
                  have HF6 : Hid (Fr a w.heap.size w ((W8.setCell ⟨p, 0, none⟩ (.int .i64 5)).setCell ⟨p, 2, none⟩ (.string (s.extract j i))).drew) := ((HF8.out.elsewhere (by omega) _).elsewhere (by omega) _).drew
                  have HB6 : Hid (Wo ((W8.setCell ⟨p, 0, none⟩ (.int .i64 5)).setCell ⟨p, 2, none⟩ (.string (s.extract j i))).drew w.heap.size 0 0 0 ⟨#[]⟩) := (HB8.out.other (by omega)).other (by omega)
                  have HW6 : Hid (Wo ((W8.setCell ⟨p, 0, none⟩ (.int .i64 5)).setCell ⟨p, 2, none⟩ (.string (s.extract j i))).drew p 5 j 0 (bsOf [s[j], d])) := by rw [← HTX.out]; exact (HW8.out.set0 5).set2 _
                  generalize hW6 : World.drew _ = W6 at HR6 HF6 HB6 HW6 ⊢
                  clear hW6 HR8 HF8 HB8 HW8 c0 c1 a0 a1 a2 x0 x2 HTX
                  have a0 := HW6.out.c0
                  have a1 := HW6.out.c1
                  have a2 := HW6.out.c2
                  have a3 := HW6.out.c3
                  have b0 := HB6.out.c0
                  have b1 := HB6.out.c1
                  have b2 := HB6.out.c2
                  have b3 := HB6.out.c3
                  have y0 := HB6.out.z 0
                  have y1 := HB6.out.z 1
                  have y2 := HB6.out.z 2
                  have y3 := HB6.out.z 3
                  go_wp2_with fail
                  have HF9 : Hid (Fr a w.heap.size w ((((W6.setCell ⟨w.heap.size, 0, none⟩ (.int .i64 5)).setCell ⟨w.heap.size, 1, none⟩ (.int .i64 (j : Int))).setCell ⟨w.heap.size, 2, none⟩ (.string (bsOf [s[j], d]))).setCell ⟨w.heap.size, 3, none⟩ (.int .u64 0))) := (((HF6.out.elsewhere (Nat.le_refl _) _).elsewhere (Nat.le_refl _) _).elsewhere (Nat.le_refl _) _).elsewhere (Nat.le_refl _) _
                  have HR9 : Hid (Rd ((((W6.setCell ⟨w.heap.size, 0, none⟩ (.int .i64 5)).setCell ⟨w.heap.size, 1, none⟩ (.int .i64 (j : Int))).setCell ⟨w.heap.size, 2, none⟩ (.string (bsOf [s[j], d]))).setCell ⟨w.heap.size, 3, none⟩ (.int .u64 0)) a s i j) := (((HR6.out.other (by omega)).other (by omega)).other (by omega)).other (by omega)
                  have HB9 : Hid (Wo ((((W6.setCell ⟨w.heap.size, 0, none⟩ (.int .i64 5)).setCell ⟨w.heap.size, 1, none⟩ (.int .i64 (j : Int))).setCell ⟨w.heap.size, 2, none⟩ (.string (bsOf [s[j], d]))).setCell ⟨w.heap.size, 3, none⟩ (.int .u64 0)) w.heap.size 5 j 0 (bsOf [s[j], d])) := (((HB6.out.set0 _).set1 _).set2 _).set3 _
                  generalize hW9 : World.setCell _ _ _ = W9 at HF9 HR9 HB9 ⊢
                  clear hW9
                  have q0 := HB9.out.c0
                  have q1 := HB9.out.c1
                  have q2 := HB9.out.c2
                  have q3 := HB9.out.c3
                  refine bodyPost_ret (v := .tuple #[wordV ⟨5, [s[j], d], 0⟩ j, .bool true]) ?_ rfl ?_
                  · simp [results, Tryz.results50, go_sem, q0, q1, q2, q3, wordV]
                  · exact ⟨j, i, hkj, hj, hi, HR9.out, HF9.out, .inr (.inl ⟨⟨5, [s[j], d], 0⟩, rfl, hji, hlen.out, HSK.out, hjs, HOK.out⟩)⟩
              | false =>
                have HN2 : Hid (∀ h : j + 1 < s.size, twoB s[j] s[j + 1] = false) := fun h => by
                  rw [← ByteArray.toList_eq, ahead_two h] at h2
                  exact h2
                clear h2 HLet HDig
                go_wp2_with fail
                refine (ahead_any a s j j 1 _ HR5.out hj (by omega) (by decide) (by decide)).mono ?_
                rintro e w7 ⟨rfl, m7, rfl⟩
                generalize hW7 : World.drewN _ _ = W7
                have HR7 : Hid (Rd W7 a s j j) := by rw [← hW7]; exact HR5.out.drewN _
                have HF7 : Hid (Fr a w.heap.size w W7) := by rw [← hW7]; exact HF5.out.drewN _
                have HB7 : Hid (Wo W7 w.heap.size 0 0 0 ⟨#[]⟩) := by rw [← hW7]; exact HB5.out.drewN _
                have HW7 : Hid (Wo W7 p 0 j 0 ⟨#[]⟩) := by rw [← hW7]; exact HW5.out.drewN _
                clear hW7 HR5 HF5 HB5 HW5
                have HSG : Hid (∀ w, Calls Tryz.prog 59 #[.string (aheadB s j 1)] w fun e w' => e = .returned (.bool (oneB s[j])) ∧ w' = w) := fun w => by
                  have := sign_any (aheadB s j 1) w
                  rwa [← ByteArray.toList_eq, ahead_one hjs] at this
                generalize aheadB s j 1 = t1 at HSG ⊢
                go_wp2_with fail
                refine (HSG.out _).mono ?_
                rintro e w8 ⟨rfl, rfl⟩
                cases h1 : oneB s[j] with
                | true =>
                  obtain ⟨i, hij⟩ : ∃ i, j + 1 = i := ⟨_, rfl⟩
                  have HOK : Hid (wordB Lib.validD (suf s j) = some (⟨5, [s[j]], 0⟩, suf s i)) := by
                    show _ = _
                    rw [HWD.out, suf_cons hjs, ← hij]
                    by_cases h : j + 1 < s.size
                    · rw [suf_cons h]
                      simp only [signB, HN2.out h, h1, Bool.false_eq_true, if_false, if_true]
                    · rw [suf_end (by omega)]
                      simp only [signB, h1, if_true]
                  have HTX : Hid (s.extract j i = bsOf [s[j]]) := by
                    show _ = _
                    rw [← hij, ext_one hjs]; rfl
                  have hi : i ≤ s.size := by omega
                  have hji : j < i := by omega
                  have HIJ := hidE hij
                  have hlen : Hid ((⟨5, [s[j]], 0⟩ : Wd).text.length ≤ 4 * s.size) := by show 1 ≤ _; omega
                  clear hij h1 HWD HSG HN2
                  have c1 := HR7.out.c1
                  have z1 := HR7.out.z1
                  go_upto_region 21 with fail
                  have HR8 : Hid (Rd (w8.setCell ⟨a, 1, none⟩ (.int .i64 ((j : Int) + 1))) a s i j) := HR7.out.at i _ (by have := HIJ.out; omega)
                  have HF8 : Hid (Fr a w.heap.size w (w8.setCell ⟨a, 1, none⟩ (.int .i64 ((j : Int) + 1)))) := HF7.out.put _ _
                  have HB8 : Hid (Wo (w8.setCell ⟨a, 1, none⟩ (.int .i64 ((j : Int) + 1))) w.heap.size 0 0 0 ⟨#[]⟩) := HB7.out.other (by omega)
                  have HW8 : Hid (Wo (w8.setCell ⟨a, 1, none⟩ (.int .i64 ((j : Int) + 1))) p 0 j 0 ⟨#[]⟩) := HW7.out.other (by omega)
                  generalize hW8 : World.setCell _ _ _ = W8 at HR8 HF8 HB8 HW8 ⊢
                  clear hW8 HR7 HF7 HB7 HW7 c1 z1
                  have c0 := HR8.out.c0
                  have c1 := HR8.out.c1
                  have a0 := HW8.out.c0
                  have a1 := HW8.out.c1
                  have a2 := HW8.out.c2
                  have x0 := HW8.out.z 0
                  have x2 := HW8.out.z 2
                  have s0 : (0 : Int) ≤ j := by omega
                  have s1 : (j : Int) ≤ i := by omega
                  have s2 : (i : Int) ≤ s.size := by omega
                  have hpa : p ≠ a := by omega
                  go_region
                  all_goals
                    have HR6 : Hid (Rd ((W8.setCell ⟨p, 0, none⟩ (.int .i64 5)).setCell ⟨p, 2, none⟩ (.string (s.extract j i))).drew a s i j) := (HR8.out.other (by omega)).other (by omega)
                    have HF6 : Hid (Fr a w.heap.size w ((W8.setCell ⟨p, 0, none⟩ (.int .i64 5)).setCell ⟨p, 2, none⟩ (.string (s.extract j i))).drew) := ((HF8.out.elsewhere (by omega) _).elsewhere (by omega) _).drew
                    have HB6 : Hid (Wo ((W8.setCell ⟨p, 0, none⟩ (.int .i64 5)).setCell ⟨p, 2, none⟩ (.string (s.extract j i))).drew w.heap.size 0 0 0 ⟨#[]⟩) := (HB8.out.other (by omega)).other (by omega)
                    have HW6 : Hid (Wo ((W8.setCell ⟨p, 0, none⟩ (.int .i64 5)).setCell ⟨p, 2, none⟩ (.string (s.extract j i))).drew p 5 j 0 (bsOf [s[j]])) := by rw [← HTX.out]; exact (HW8.out.set0 5).set2 _
                    generalize hW6 : World.drew _ = W6 at HR6 HF6 HB6 HW6 ⊢
                    clear hW6 HR8 HF8 HB8 HW8 c0 c1 a0 a1 a2 x0 x2 HTX
                    have a0 := HW6.out.c0
                    have a1 := HW6.out.c1
                    have a2 := HW6.out.c2
                    have a3 := HW6.out.c3
                    have b0 := HB6.out.c0
                    have b1 := HB6.out.c1
                    have b2 := HB6.out.c2
                    have b3 := HB6.out.c3
                    have y0 := HB6.out.z 0
                    have y1 := HB6.out.z 1
                    have y2 := HB6.out.z 2
                    have y3 := HB6.out.z 3
                    go_wp2_with fail
                    have HF9 : Hid (Fr a w.heap.size w ((((W6.setCell ⟨w.heap.size, 0, none⟩ (.int .i64 5)).setCell ⟨w.heap.size, 1, none⟩ (.int .i64 (j : Int))).setCell ⟨w.heap.size, 2, none⟩ (.string (bsOf [s[j]]))).setCell ⟨w.heap.size, 3, none⟩ (.int .u64 0))) := (((HF6.out.elsewhere (Nat.le_refl _) _).elsewhere (Nat.le_refl _) _).elsewhere (Nat.le_refl _) _).elsewhere (Nat.le_refl _) _
                    have HR9 : Hid (Rd ((((W6.setCell ⟨w.heap.size, 0, none⟩ (.int .i64 5)).setCell ⟨w.heap.size, 1, none⟩ (.int .i64 (j : Int))).setCell ⟨w.heap.size, 2, none⟩ (.string (bsOf [s[j]]))).setCell ⟨w.heap.size, 3, none⟩ (.int .u64 0)) a s i j) := (((HR6.out.other (by omega)).other (by omega)).other (by omega)).other (by omega)
                    have HB9 : Hid (Wo ((((W6.setCell ⟨w.heap.size, 0, none⟩ (.int .i64 5)).setCell ⟨w.heap.size, 1, none⟩ (.int .i64 (j : Int))).setCell ⟨w.heap.size, 2, none⟩ (.string (bsOf [s[j]]))).setCell ⟨w.heap.size, 3, none⟩ (.int .u64 0)) w.heap.size 5 j 0 (bsOf [s[j]])) := (((HB6.out.set0 _).set1 _).set2 _).set3 _
                    generalize hW9 : World.setCell _ _ _ = W9 at HF9 HR9 HB9 ⊢
                    clear hW9
                    have q0 := HB9.out.c0
                    have q1 := HB9.out.c1
                    have q2 := HB9.out.c2
                    have q3 := HB9.out.c3
                    refine bodyPost_ret (v := .tuple #[wordV ⟨5, [s[j]], 0⟩ j, .bool true]) ?_ rfl ?_
                    · simp [results, Tryz.results50, go_sem, q0, q1, q2, q3, wordV]
                    · exact ⟨j, i, hkj, hj, hi, HR9.out, HF9.out, .inr (.inl ⟨⟨5, [s[j]], 0⟩, rfl, hji, hlen.out, HSK.out, hjs, HOK.out⟩)⟩
                | false =>
                  have HNO : Hid (wordB Lib.validD (suf s j) = none) := by
                    show _ = _
                    rw [HWD.out, suf_cons hjs]
                    by_cases h : j + 1 < s.size
                    · rw [suf_cons h]
                      simp only [signB, HN2.out h, h1, Bool.false_eq_true, if_false]
                    · rw [suf_end (by omega)]
                      simp only [signB, h1, Bool.false_eq_true, if_false]
                  clear h1 HSG
                  go_wp2_with fail
                  refine (HNF.out _).mono ?_
                  rintro e w9 ⟨rfl, rfl⟩
                  exact ⟨rfl, j, j, hkj, hj, hj, HR7.out, HF7.out, .inr (.inr ⟨rfl, .inr ⟨HSK.out, hjs, HNO.out⟩⟩)⟩
    · have hjs' : ((j : Int) == s.size) = true := eq_bool (by omega)
      have b0 := HB1.out.c0
      have b1 := HB1.out.c1
      have b2 := HB1.out.c2
      have b3 := HB1.out.c3
      have y0 := HB1.out.z 0
      have y1 := HB1.out.z 1
      have y2 := HB1.out.z 2
      have y3 := HB1.out.z 3
      go_wp2_with fail
      go_quiet (fail)
      generalize hW2 : World.drewN _ _ = W2
      have HR2 : Hid (Rd W2 a s j j) := by rw [← hW2]; exact HR1.out.drewN _
      have HF2 : Hid (Fr a w.heap.size w W2) := by rw [← hW2]; exact HF1.out.drewN _
      have HB2 : Hid (Wo W2 w.heap.size 0 0 0 ⟨#[]⟩) := by rw [← hW2]; exact HB1.out.drewN _
      clear hW2 HR1 HF1 HB1 c0 c1 b0 b1 b2 b3 y0 y1 y2 y3
      have b0 := HB2.out.c0
      have b1 := HB2.out.c1
      have b2 := HB2.out.c2
      have b3 := HB2.out.c3
      have y0 := HB2.out.z 0
      have y1 := HB2.out.z 1
      have y2 := HB2.out.z 2
      have y3 := HB2.out.z 3
      go_wp2_with fail
      have HF5 : Hid (Fr a w.heap.size w ((((W2.setCell ⟨w.heap.size, 0, none⟩ (.int .i64 0)).setCell ⟨w.heap.size, 1, none⟩ (.int .i64 0)).setCell ⟨w.heap.size, 2, none⟩ (.string ⟨#[]⟩)).setCell ⟨w.heap.size, 3, none⟩ (.int .u64 0))) := (((HF2.out.elsewhere (Nat.le_refl _) _).elsewhere (Nat.le_refl _) _).elsewhere (Nat.le_refl _) _).elsewhere (Nat.le_refl _) _
      have HR5 : Hid (Rd ((((W2.setCell ⟨w.heap.size, 0, none⟩ (.int .i64 0)).setCell ⟨w.heap.size, 1, none⟩ (.int .i64 0)).setCell ⟨w.heap.size, 2, none⟩ (.string ⟨#[]⟩)).setCell ⟨w.heap.size, 3, none⟩ (.int .u64 0)) a s j j) := (((HR2.out.other (by omega)).other (by omega)).other (by omega)).other (by omega)
      generalize hW5 : World.setCell _ _ _ = W5 at HF5 HR5 ⊢
      have HB5 : Hid (Wo W5 w.heap.size 0 0 0 ⟨#[]⟩) := by rw [← hW5]; exact (((HB2.out.set0 0).set1 0).set2 _).set3 0
      have q0 := HB5.out.c0
      have q1 := HB5.out.c1
      have q2 := HB5.out.c2
      have q3 := HB5.out.c3
      refine bodyPost_ret (v := .tuple #[noWord, .bool false]) ?_ rfl ?_
      · simp [results, Tryz.results50, go_sem, q0, q1, q2, q3, noWord]
      · refine ⟨j, j, hkj, hj, hj, HR5.out, HF5.out, .inl ⟨rfl, ?_⟩⟩
        rw [HSK.out, suf_end (by omega)]
  · refine ⟨rfl, j0, j, hkj, hj0, hj, hr1, HF0.out.trans (hf1.mono HF0.out.size), .inr (.inr ⟨rfl, .inl hsk⟩)⟩
end Go.Proofs.YtbjcdpenfijfoaaGreatDoor
