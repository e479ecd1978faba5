/- Text and Quote, whatever the value. -/
import Derived.Test.YtbpmhgcjefpigaaGreatDoorTell3G
import Derived.Test.YtbpmhgcjefpigaaGreatDoorJoin11
namespace Go.Proofs.YtbpmhgcjefpigaaGreatDoor
open Go.RowKit Go.Shelf Go.Lib
set_option linter.unusedVariables false

theorem boolBytes_len (b : Bool) : (boolBytes b).length ≤ 5 := by cases b <;> decide
theorem keyBytes_drop (ks : List ByteArray) (i : Nat) : (((ks.getD i ⟨#[]⟩).size : Int)) + keyBytes (ks.drop (i + 1)) ≤ keyBytes (ks.drop i) := by
  by_cases h : i < ks.length
  · rw [List.drop_eq_getElem_cons h, keyBytes_cons, List.getD_eq_getElem?_getD, List.getElem?_eq_getElem h]
    exact Int.le_refl _
  · rw [List.drop_of_length_le (by omega), List.drop_of_length_le (by omega), List.getD_eq_getElem?_getD, List.getElem?_eq_none (by omega)]
    decide
mutual
theorem tellG_len : ∀ (T : Tree), Ranged T → ((tellG T).length : Int) + 6 ≤ 30 * T.total
  | .mk k b n s ks ts, h => by
    simp only [Ranged] at h
    have h1 := tellAllG_len ts h.2 true ks 0
    have h2 := tellAllG_len ts h.2 false ks 0
    have h3 := boolBytes_len b
    have h4 := itoa_length_le n h.1.1 h.1.2
    have h5 := escAll_len s.data.toList
    have h6 : s.data.toList.length = s.size := rfl
    have h7 := keyBytes_nonneg ks
    have h8 := totalL_len ts
    rw [List.drop_zero] at h1 h2
    rw [tellG]
    simp only [Tree.total, quoteB]
    split
    · omega
    · split
      · omega
      · split
        · simp only [List.length_append, List.length_cons, List.length_nil]; omega
        · split
          · simp only [List.length_append, List.length_cons, List.length_nil]; omega
          · split
            · simp only [List.length_append, List.length_cons, List.length_nil]; omega
            · split
              · simp only [List.length_append, List.length_cons, List.length_nil]; omega
              · split
                · simp only [List.length_append, List.length_cons, List.length_nil]; omega
                · simp only [List.length_cons, List.length_nil]; omega
theorem tellAllG_len : ∀ (ts : List Tree), RangedL ts → ∀ (mp : Bool) (ks : List ByteArray) (i : Nat), ((tellAllG mp ks i ts).length : Int) ≤ 30 * Tree.totalL ts + 2 * keyBytes (ks.drop i)
  | [], _, mp, ks, i => by
    have := keyBytes_nonneg (ks.drop i)
    rw [tellAllG]
    simp only [Tree.totalL, List.length_nil]
    omega
  | t :: ts, h, mp, ks, i => by
    simp only [RangedL] at h
    have h1 := tellG_len t h.1
    have h2 := tellAllG_len ts h.2 mp ks (i + 1)
    have h3 := keyBytes_drop ks i
    have h4 := nameG_len (ks.getD i ⟨#[]⟩)
    have h5 : (nameG (ks.getD i ⟨#[]⟩)).data.toList.length = (nameG (ks.getD i ⟨#[]⟩)).size := rfl
    have h6 : (if i = 0 then ([] : List UInt8) else [44, 32]).length ≤ 2 := by split <;> simp
    rw [tellAllG]
    simp only [Tree.totalL, List.length_append]
    cases mp
    · simp only [Bool.false_eq_true, if_false, List.length_nil]; omega
    · simp only [if_true, List.length_append, List.length_cons, List.length_nil]; omega
end
theorem tellG_pos : ∀ (T : Tree), 0 < (tellG T).length
  | .mk k b n s ks ts => by
    rw [tellG]
    split
    · cases b <;> decide
    · split
      · unfold itoa; split
        · simp
        · exact digits_pos _
      · split
        · simp [quoteB]
        · split
          · simp
          · split
            · simp
            · split
              · simp
              · split <;> simp

set_option maxHeartbeats 1000000 in
theorem Text_anyG (T : Tree) (hc : checkN T = 0) (hran : Ranged T) (htot : T.total ≤ 1000000) (hm : Modest T) (B : Nat) (v : Value) (w : World) (hB : B ≤ w.heap.size) (hv : Lies B w v T) (hT : Tabs w) (hP : TabBelow Tryz.prog w.heap.size w "internal/strconv.uint64pow10" .u64 pow10Tab) (hM : ML w) (h2 : 2 < w.heap.size) :
    Calls Tryz.prog 39 #[v] w fun e w' => e = .returned (.tuple #[.string ⟨(tellG T).toArray⟩, .int .i64 0]) ∧ Below w.heap.size w w' := by
  have hv0 := hv
  have hmay : mayT T = true := by
    rw [check_eq] at hc
    by_cases h : mayT T = true
    · exact h
    · rw [if_neg h] at hc; omega
  have hpos := tellG_pos T
  have hlen := tellG_len T hran
  have HT := hidE (tell_anyG T hmay hran htot)
  obtain ⟨k, b, nn, s, ks, ts⟩ := T
  simp only [Lies] at hv
  obtain ⟨ka, kc, la, lc, rfl, -⟩ := hv
  obtain ⟨W1, hW1⟩ : ∃ W1, w.alloc (.cells #[.int .i64 k, .bool b, .int .i64 nn, .string s, .slice ka ks.length kc, .slice la ts.length lc] 26) = W1 := ⟨_, rfl⟩
  have hb1 : Below w.heap.size w W1 := hW1 ▸ (Below.refl _ _).alloc (Nat.le_refl _) _
  have hq1 : W1.heap[w.heap.size]? = some (.cells #[.int .i64 k, .bool b, .int .i64 nn, .string s, .slice ka ks.length kc, .slice la ts.length lc] 26 (0, 0)) := hW1 ▸ World.alloc_heap_new _ _
  have hl1 := (hv0.below (hb1.mono hB)).mono (Nat.le_trans hB hb1.size)
  have HC := hidE (check_any _ _ _ hl1 (hT.below hb1) hm.1 hm.2)
  rw [hc] at HC
  have HX := hidE (And.intro hb1 (And.intro hq1 hl1))
  have HW1 := hidE hW1
  have HP := hidE (And.intro hP (And.intro hT (And.intro hM h2)))
  have HL : Hid (0 < (tellG (.mk k b nn s ks ts)).length ∧ (tellG (.mk k b nn s ks ts)).length ≤ 1000000000) := ⟨hpos, by omega⟩
  clear hW1 hb1 hq1 hl1 hP hT hm hv0 hc hpos hlen hmay hran htot hM h2
  go_enter Tryz.func39, Tryz.ntmps39
  go_wp2_with fail
  rw [HW1.out]
  refine HC.out.mono ?_
  rintro e w2 ⟨rfl, hb2⟩
  have hb12 : Below w.heap.size w w2 := below_on HX.out.1 hb2
  have hq2 : w2.heap[w.heap.size]? = some (.cells #[.int .i64 k, .bool b, .int .i64 nn, .string s, .slice ka ks.length kc, .slice la ts.length lc] 26 (0, 0)) :=
    (hb2.block w.heap.size (Array.getElem?_eq_some_iff.1 HX.out.2.1).1).trans HX.out.2.1
  have y0 := box_cell hq2 (i := 0) rfl
  have y1 := box_cell hq2 (i := 1) rfl
  have y2 := box_cell hq2 (i := 2) rfl
  have y3 := box_cell hq2 (i := 3) rfl
  have y4 := box_cell hq2 (i := 4) rfl
  have y5 := box_cell hq2 (i := 5) rfl
  have hl2 := (HX.out.2.2.below hb2).mono hb2.size
  have htb : TBG w2.heap.size w2 := by
    refine ⟨fun w' h => HP.out.2.1.below (hb12.trans (h.mono hb12.size)), fun w' h => HP.out.1 w' (hb12.trans (h.mono hb12.size)), fun w' h => ?_, fun w' h => ?_⟩
    · obtain ⟨m, hm⟩ := HP.out.2.2.1
      exact ⟨m, ((hb12.trans (h.mono hb12.size)).cell (p := ⟨2, 0, none⟩) HP.out.2.2.2).trans hm⟩
    · have h1 := HP.out.2.2.2
      have h3 := hb12.size
      have h4 := h.size
      omega
  have HTL := hidE (HT.out w2.heap.size 0 (.slice none 0 0) [] _ w2 (World.ownsRow_nil _ _ _ _) (Nat.le_refl _) hl2 htb (by have := HL.out.2; omega))
  have HB12 := hidE hb12
  clear hb2 hb12 hq2 hl2 htb HC HX HP
  go_wp2_with fail
  refine HTL.out.mono ?_
  rintro e w3 ⟨v', rfl, ht⟩
  have hown := ht.own
  rw [Nat.zero_add, List.nil_append] at hown
  obtain ⟨g, cap, rfl⟩ := own_slice hown HL.out.1
  have hcv := own_bytes hown
  have HF : Hid (Below w.heap.size w w3) := HB12.out.trans ((ht.below (World.ownsRow_nil _ _ _ _) (Nat.le_refl _)).mono HB12.out.size)
  clear ht hown HTL y0 y1 y2 y3 y4 y5
  obtain ⟨bs, hbs⟩ : ∃ bs, tellG (.mk k b nn s ks ts) = bs := ⟨_, rfl⟩
  have HBS := hidE hbs
  rw [hbs] at hcv ⊢
  clear hbs
  go_wp2_with fail
  go_ret2
  exact ⟨by rw [HBS.out]; rfl, HF.out⟩

/-- What Quote answers. -/
def quoteN (s : ByteArray) : ByteArray := if validD s.data.toList = true then ⟨(quoteB s).toArray⟩ else ⟨#[]⟩
set_option maxHeartbeats 1000000 in
theorem Quote_any (s : ByteArray) (hs : s.size ≤ 100000000) (w : World) (hT : Tabs w) : Calls Tryz.prog 44 #[.string s] w fun e w' => e = .returned (.string (quoteN s)) ∧ Below w.heap.size w w' := by
  have HV := hidE (valid_any s w (by unfold maxLen; omega) hT)
  obtain ⟨vd, hvd⟩ : ∃ x, validD s.data.toList = x := ⟨_, rfl⟩
  rw [hvd] at HV
  have HQ : Hid (quoteN s = if vd = true then ⟨(quoteB s).toArray⟩ else ⟨#[]⟩) := by show _ = _; unfold quoteN; rw [hvd]
  have hpos : 0 < (quoteB s).length := by simp [quoteB]
  clear hvd hT
  go_enter Tryz.func44, Tryz.ntmps44
  go_wp2_with fail
  refine HV.out.mono ?_
  rintro e w1 ⟨rfl, hb1⟩
  have HB1 := hidE hb1
  clear hb1 HV
  cases vd with
  | false =>
    have HN : Hid (quoteN s = ⟨#[]⟩) := HQ.out
    go_wp2_with fail
    go_ret
    exact ⟨by rw [HN.out]; rfl, HB1.out⟩
  | true =>
    have HN : Hid (quoteN s = ⟨(quoteB s).toArray⟩) := HQ.out
    have HC := hidE (quote_any s (by omega) w1.heap.size 0 (.slice none 0 0) [] w1 (World.ownsRow_nil _ _ _ _) (Nat.le_refl _) (by omega))
    go_wp2_with fail
    refine HC.out.mono ?_
    rintro e w3 ⟨v', rfl, ht⟩
    have hown := ht.own
    rw [Nat.zero_add, List.nil_append] at hown
    obtain ⟨g, cap, rfl⟩ := own_slice hown hpos
    have hcv := own_bytes hown
    have HF : Hid (Below w.heap.size w w3) := HB1.out.trans ((ht.below (World.ownsRow_nil _ _ _ _) (Nat.le_refl _)).mono HB1.out.size)
    clear ht hown HC
    obtain ⟨bs, hbs⟩ : ∃ bs, quoteB s = bs := ⟨_, rfl⟩
    have HBS := hidE hbs
    rw [hbs] at hcv ⊢
    clear hbs
    go_wp2_with fail
    go_ret
    exact ⟨by rw [HN.out, HBS.out]; rfl, HF.out⟩
/-- What Name answers. -/
def nameN (s : ByteArray) : ByteArray := if validD s.data.toList = true then nameG s else ⟨#[]⟩
set_option maxHeartbeats 1000000 in
theorem Name_any (s : ByteArray) (hs : s.size ≤ 100000000) (w : World) (hT : Tabs w) (hM : ML w) (h2 : 2 < w.heap.size) : Calls Tryz.prog 45 #[.string s] w fun e w' => e = .returned (.string (nameN s)) ∧ Below w.heap.size w w' := by
  by_cases hv : validD s.data.toList = true
  · have := name_anyG s (by omega) hv w hT hM h2
    unfold nameN
    rw [if_pos hv]
    exact this
  · have HV := hidE (valid_any s w (by unfold maxLen; omega) hT)
    have hv' : validD s.data.toList = false := by simpa using hv
    rw [hv'] at HV
    have HN : Hid (nameN s = ⟨#[]⟩) := by show _ = _; unfold nameN; rw [if_neg hv]
    clear hv hv' hT hM
    go_enter Tryz.func45, Tryz.ntmps45
    go_wp2_with fail
    refine HV.out.mono ?_
    rintro e w1 ⟨rfl, hb1⟩
    have HB1 := hidE hb1
    clear hb1
    go_wp2_with fail
    go_ret
    exact ⟨by rw [HN.out]; rfl, HB1.out⟩
end Go.Proofs.YtbpmhgcjefpigaaGreatDoor
