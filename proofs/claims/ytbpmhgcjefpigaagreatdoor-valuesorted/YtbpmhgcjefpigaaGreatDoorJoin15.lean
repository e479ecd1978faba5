/- Text and Quote, whatever the value. A map of texts that were met; rows of copies that grow. Once, at any list of values that may be. -/
import Derived.Test.YtbpmhgcjefpigaaGreatDoorTell3G
import Derived.Test.YtbpmhgcjefpigaaGreatDoorJoin9
import Derived.Test.YtbpmhgcjefpigaaGreatDoorFcopy
import Derived.StringKeys
import Derived.MapKept
import Derived.Test.YtbpmhgcjefpigaaGreatDoorJoin10
namespace Go.Proofs.YtbpmhgcjefpigaaGreatDoor
open Go.RowKit Go.Shelf Go.Lib
set_option linter.unusedVariables false
theorem boolBytes_len (b : Bool) : (boolBytes b).length ≤ 5 := by cases b <;> decide
theorem keyBytes_drop (ks : List ByteArray) (i : Nat) : (((ks.getD i ⟨#[]⟩).size : Int)) + keyBytes (ks.drop (i + 1)) ≤ keyBytes (ks.drop i) := by
  by_cases h : i < ks.length
  · rw [List.drop_eq_getElem_cons h, keyBytes_cons, List.getD_eq_getElem?_getD, List.getElem?_eq_getElem h]
    exact Int.le_refl _
  · rw [List.drop_of_length_le (by omega), List.drop_of_length_le (by omega), List.getD_eq_getElem?_getD, List.getElem?_eq_none (by omega)]
    decide
mutual
theorem tellG_len : ∀ (T : Tree), Ranged T → ((tellG T).length : Int) + 6 ≤ 30 * T.total
  | .mk k b n s ks ts, h => by
    simp only [Ranged] at h
    have h1 := tellAllG_len ts h.2 true ks 0
    have h2 := tellAllG_len ts h.2 false ks 0
    have h3 := boolBytes_len b
    have h4 := itoa_length_le n h.1.1 h.1.2
    have h5 := escAll_len s.data.toList
    have h6 : s.data.toList.length = s.size := rfl
    have h7 := keyBytes_nonneg ks
    have h8 := totalL_len ts
    rw [List.drop_zero] at h1 h2
    rw [tellG]
    simp only [Tree.total, quoteB]
    split
    · omega
    · split
      · omega
      · split
        · simp only [List.length_append, List.length_cons, List.length_nil]; omega
        · split
          · simp only [List.length_append, List.length_cons, List.length_nil]; omega
          · split
            · simp only [List.length_append, List.length_cons, List.length_nil]; omega
            · split
              · simp only [List.length_append, List.length_cons, List.length_nil]; omega
              · split
                · simp only [List.length_append, List.length_cons, List.length_nil]; omega
                · simp only [List.length_cons, List.length_nil]; omega
theorem tellAllG_len : ∀ (ts : List Tree), RangedL ts → ∀ (mp : Bool) (ks : List ByteArray) (i : Nat), ((tellAllG mp ks i ts).length : Int) ≤ 30 * Tree.totalL ts + 2 * keyBytes (ks.drop i)
  | [], _, mp, ks, i => by
    have := keyBytes_nonneg (ks.drop i)
    rw [tellAllG]
    simp only [Tree.totalL, List.length_nil]
    omega
  | t :: ts, h, mp, ks, i => by
    simp only [RangedL] at h
    have h1 := tellG_len t h.1
    have h2 := tellAllG_len ts h.2 mp ks (i + 1)
    have h3 := keyBytes_drop ks i
    have h4 := nameG_len (ks.getD i ⟨#[]⟩)
    have h5 : (nameG (ks.getD i ⟨#[]⟩)).data.toList.length = (nameG (ks.getD i ⟨#[]⟩)).size := rfl
    have h6 : (if i = 0 then ([] : List UInt8) else [44, 32]).length ≤ 2 := by split <;> simp
    rw [tellAllG]
    simp only [Tree.totalL, List.length_append]
    cases mp
    · simp only [Bool.false_eq_true, if_false, List.length_nil]; omega
    · simp only [if_true, List.length_append, List.length_cons, List.length_nil]; omega
end
theorem tellG_pos : ∀ (T : Tree), 0 < (tellG T).length
  | .mk k b n s ks ts => by
    rw [tellG]
    split
    · cases b <;> decide
    · split
      · unfold itoa; split
        · simp
        · exact digits_pos _
      · split
        · simp [quoteB]
        · split
          · simp
          · split
            · simp
            · split
              · simp
              · split <;> simp
set_option maxHeartbeats 1000000 in
theorem Text_anyG (T : Tree) (hc : checkN T = 0) (hran : Ranged T) (htot : T.total ≤ 1000000) (hm : Modest T) (B : Nat) (v : Value) (w : World) (hB : B ≤ w.heap.size) (hv : Lies B w v T) (hT : Tabs w) (hP : TabBelow Tryz.prog w.heap.size w "internal/strconv.uint64pow10" .u64 pow10Tab) (hM : ML w) (h2 : 2 < w.heap.size) :
    Calls Tryz.prog 39 #[v] w fun e w' => e = .returned (.tuple #[.string ⟨(tellG T).toArray⟩, .int .i64 0]) ∧ Below w.heap.size w w' := by
  have hv0 := hv
  have hmay : mayT T = true := by
    rw [check_eq] at hc
    by_cases h : mayT T = true
    · exact h
    · rw [if_neg h] at hc; omega
  have hpos := tellG_pos T
  have hlen := tellG_len T hran
  have HT := hidE (tell_anyG T hmay hran htot)
  obtain ⟨k, b, nn, s, ks, ts⟩ := T
  simp only [Lies] at hv
  obtain ⟨ka, kc, la, lc, rfl, -⟩ := hv
  obtain ⟨W1, hW1⟩ : ∃ W1, w.alloc (.cells #[.int .i64 k, .bool b, .int .i64 nn, .string s, .slice ka ks.length kc, .slice la ts.length lc] 26) = W1 := ⟨_, rfl⟩
  have hb1 : Below w.heap.size w W1 := hW1 ▸ (Below.refl _ _).alloc (Nat.le_refl _) _
  have hq1 : W1.heap[w.heap.size]? = some (.cells #[.int .i64 k, .bool b, .int .i64 nn, .string s, .slice ka ks.length kc, .slice la ts.length lc] 26 (0, 0)) := hW1 ▸ World.alloc_heap_new _ _
  have hl1 := (hv0.below (hb1.mono hB)).mono (Nat.le_trans hB hb1.size)
  have HC := hidE (check_any _ _ _ hl1 (hT.below hb1) hm.1 hm.2)
  rw [hc] at HC
  have HX := hidE (And.intro hb1 (And.intro hq1 hl1))
  have HW1 := hidE hW1
  have HP := hidE (And.intro hP (And.intro hT (And.intro hM h2)))
  have HL : Hid (0 < (tellG (.mk k b nn s ks ts)).length ∧ (tellG (.mk k b nn s ks ts)).length ≤ 1000000000) := ⟨hpos, by omega⟩
  clear hW1 hb1 hq1 hl1 hP hT hm hv0 hc hpos hlen hmay hran htot hM h2
  go_enter Tryz.func39, Tryz.ntmps39
  go_wp2_with fail
  rw [HW1.out]
  refine HC.out.mono ?_
  rintro e w2 ⟨rfl, hb2⟩
  have hb12 : Below w.heap.size w w2 := below_on HX.out.1 hb2
  have hq2 : w2.heap[w.heap.size]? = some (.cells #[.int .i64 k, .bool b, .int .i64 nn, .string s, .slice ka ks.length kc, .slice la ts.length lc] 26 (0, 0)) :=
    (hb2.block w.heap.size (Array.getElem?_eq_some_iff.1 HX.out.2.1).1).trans HX.out.2.1
  have y0 := box_cell hq2 (i := 0) rfl
  have y1 := box_cell hq2 (i := 1) rfl
  have y2 := box_cell hq2 (i := 2) rfl
  have y3 := box_cell hq2 (i := 3) rfl
  have y4 := box_cell hq2 (i := 4) rfl
  have y5 := box_cell hq2 (i := 5) rfl
  have hl2 := (HX.out.2.2.below hb2).mono hb2.size
  have htb : TBG w2.heap.size w2 := by
    refine ⟨fun w' h => HP.out.2.1.below (hb12.trans (h.mono hb12.size)), fun w' h => HP.out.1 w' (hb12.trans (h.mono hb12.size)), fun w' h => ?_, fun w' h => ?_⟩
    · obtain ⟨m, hm⟩ := HP.out.2.2.1
      exact ⟨m, ((hb12.trans (h.mono hb12.size)).cell (p := ⟨2, 0, none⟩) HP.out.2.2.2).trans hm⟩
    · have h1 := HP.out.2.2.2
      have h3 := hb12.size
      have h4 := h.size
      omega
  have HTL := hidE (HT.out w2.heap.size 0 (.slice none 0 0) [] _ w2 (World.ownsRow_nil _ _ _ _) (Nat.le_refl _) hl2 htb (by have := HL.out.2; omega))
  have HB12 := hidE hb12
  clear hb2 hb12 hq2 hl2 htb HC HX HP
  go_wp2_with fail
  refine HTL.out.mono ?_
  rintro e w3 ⟨v', rfl, ht⟩
  have hown := ht.own
  rw [Nat.zero_add, List.nil_append] at hown
  obtain ⟨g, cap, rfl⟩ := own_slice hown HL.out.1
  have hcv := own_bytes hown
  have HF : Hid (Below w.heap.size w w3) := HB12.out.trans ((ht.below (World.ownsRow_nil _ _ _ _) (Nat.le_refl _)).mono HB12.out.size)
  clear ht hown HTL y0 y1 y2 y3 y4 y5
  obtain ⟨bs, hbs⟩ : ∃ bs, tellG (.mk k b nn s ks ts) = bs := ⟨_, rfl⟩
  have HBS := hidE hbs
  rw [hbs] at hcv ⊢
  clear hbs
  go_wp2_with fail
  go_ret2
  exact ⟨by rw [HBS.out]; rfl, HF.out⟩
end Go.Proofs.YtbpmhgcjefpigaaGreatDoor

namespace Go.Proofs.YtbpmhgcjefpigaaGreatDoor
open Go.RowKit Go.Shelf Go.WideShapes Go.Lib
set_option linter.unusedVariables false
set_option linter.unusedSimpArgs false
/-- The map at b holds just these texts. -/
def SeenAt (w : World) (b : Nat) (ss : List ByteArray) : Prop := ∃ es clock, w.heap[b]? = some (.map es clock) ∧ es.toList.map (·.key) = ss.map Value.string ∧ (∀ e ∈ es.toList, e.val = .agg #[]) ∧ ∀ s ∈ ss, s.size ≤ maxLen
theorem SeenAt.block {w w' : World} {b : Nat} {ss : List ByteArray} (h : SeenAt w b ss) (hb : w'.heap[b]? = w.heap[b]?) : SeenAt w' b ss := by
  obtain ⟨es, clock, h1, h2⟩ := h
  exact ⟨es, clock, hb.trans h1, h2⟩
theorem SeenAt.lt {w : World} {b : Nat} {ss : List ByteArray} (h : SeenAt w b ss) : b < w.heap.size := by
  obtain ⟨es, clock, h1, _⟩ := h
  exact (Array.getElem?_eq_some_iff.1 h1).1
theorem seen_none (w : World) : SeenAt (w.alloc (.map #[] 0)) w.heap.size [] := ⟨#[], 0, World.alloc_heap_new _ _, rfl, by simp, by simp⟩
theorem Tryz.underlying87' : Tryz.prog.underlying 87 = some (.map 9 88) := by kernel_rfl
theorem zero88 (w : World) : (zeroValue 88).run Tryz.prog w = .ok (.agg #[]) w := by kernel_rfl
theorem seen_keys {es : Array MapEntry} {ss : List ByteArray} (h : es.toList.map (·.key) = ss.map Value.string) (hs : ∀ s ∈ ss, s.size ≤ maxLen) : ∀ e ∈ es.toList, ∃ l, Go.keyOf Tryz.prog 9 e.key = some l := by
  intro e he
  have : e.key ∈ ss.map Value.string := by rw [← h]; exact List.mem_map.2 ⟨e, he, rfl⟩
  obtain ⟨s, hm, e1⟩ := List.mem_map.1 this
  exact ⟨_, by rw [← e1]; exact WideMaps.keyOf_string_mk Tryz.underlying9 (hs s hm)⟩
theorem seen_look {w : World} {b : Nat} {ss : List ByteArray} (h : SeenAt w b ss) (s : ByteArray) (hs : s.size ≤ maxLen) (x : Bool) (hx : x = true ↔ s ∈ ss) : (Instr.lookup 87 (.map (some b)) (.string s) true).run Tryz.prog w = .ok (.tuple #[.agg #[], .bool x]) w := by
  obtain ⟨es, clock, h1, h2, h3, h4⟩ := h
  have K := WideMaps.string_law (P := Tryz.prog) Tryz.underlying9
  have hkey := WideMaps.keyOf_string_mk (P := Tryz.prog) Tryz.underlying9 hs
  rcases K.find w hkey es.toList (seen_keys h2 h4) with ⟨f1, f2⟩ | ⟨j, e0, f1, f2, f3⟩
  · have hn : s ∉ ss := fun hm => by
      have : Value.string s ∈ es.toList.map (·.key) := by rw [h2]; exact List.mem_map.2 ⟨s, hm, rfl⟩
      obtain ⟨e, he, e1⟩ := List.mem_map.1 this
      exact f2 e he e1
    obtain rfl : x = false := by cases x; rfl; exact absurd (hx.1 rfl) hn
    simp [Instr.lookup, run_underlying Tryz.underlying87', MapKept.run_getObj_map h1, K.check w _ hkey, f1, zero88, Result.andThen]
  · have hm0 : e0 ∈ es.toList := List.mem_of_getElem? f2
    have hm : s ∈ ss := by
      have : e0.key ∈ es.toList.map (·.key) := List.mem_map.2 ⟨e0, hm0, rfl⟩
      rw [h2, f3] at this
      obtain ⟨s', hs', e1⟩ := List.mem_map.1 this
      simp only [Value.string.injEq] at e1
      rwa [e1] at hs'
    obtain rfl : x = true := hx.2 hm
    simp [Instr.lookup, run_underlying Tryz.underlying87', MapKept.run_getObj_map h1, K.check w _ hkey, f1, h3 e0 hm0, Result.andThen]
theorem seen_put {w : World} {b : Nat} {ss : List ByteArray} (h : SeenAt w b ss) (s : ByteArray) (hs : s.size ≤ maxLen) (hn : s ∉ ss) :
    ∃ w', (Instr.mapUpdate 87 (.map (some b)) (.string s) (.agg #[])).run Tryz.prog w = .ok () w' ∧ SeenAt w' b (ss ++ [s]) ∧ w'.heap.size = w.heap.size ∧ (∀ k, k ≠ b → w'.heap[k]? = w.heap[k]?) ∧ Below b w w' := by
  obtain ⟨es, clock, h1, h2, h3, h4⟩ := h
  have hlt : b < w.heap.size := (Array.getElem?_eq_some_iff.1 h1).1
  have K := WideMaps.string_law (P := Tryz.prog) Tryz.underlying9
  have hkey := WideMaps.keyOf_string_mk (P := Tryz.prog) Tryz.underlying9 hs
  rcases K.find w hkey es.toList (seen_keys h2 h4) with ⟨f1, f2⟩ | ⟨j, e0, f1, f2, f3⟩
  · refine ⟨{ w with heap := w.heap.setIfInBounds b (.map (es.push ⟨.string s, .agg #[], clock⟩) (clock + 1)) }, ?_, ⟨es.push ⟨.string s, .agg #[], clock⟩, clock + 1, ?_, ?_, ?_, ?_⟩, ?_, ?_, ⟨rfl, rfl, rfl, ?_, ?_⟩⟩
    · simp [Instr.mapUpdate, run_underlying Tryz.underlying87', MapKept.run_getObj_map h1, K.check w false hkey, f1, MapKept.run_setObj_map _ h1, Result.andThen]
    · simp [hlt]
    · simp [h2]
    · intro e he
      simp only [Array.toList_push, List.mem_append, List.mem_singleton] at he
      rcases he with he | rfl
      · exact h3 e he
      · rfl
    · intro x hx
      rcases List.mem_append.1 hx with hx | hx
      · exact h4 x hx
      · simp only [List.mem_cons, List.not_mem_nil, or_false] at hx; rw [hx]; exact hs
    · simp
    · intro k hk
      simp [Array.getElem?_setIfInBounds_ne (Ne.symm hk)]
    · simp
    · intro k hk
      have : k ≠ b := by omega
      simp [Array.getElem?_setIfInBounds_ne (Ne.symm this)]
  · exfalso
    have hm0 : e0 ∈ es.toList := List.mem_of_getElem? f2
    have : e0.key ∈ es.toList.map (·.key) := List.mem_map.2 ⟨e0, hm0, rfl⟩
    rw [h2, f3] at this
    obtain ⟨s', hs', e1⟩ := List.mem_map.1 this
    simp only [Value.string.injEq] at e1
    rw [e1] at hs'
    exact hn hs'
/-- Copies in a row: each in memory of its own, apart from the row. -/
inductive RowF (A : Nat) (g : Option Nat) (w : World) : List Value → List Tree → Prop
  | nil : RowF A g w [] []
  | cons {lo hi : Nat} {c0 c1 c2 c3 c4 c5 : Value} {r : List Value} {t : Tree} {ts : List Tree} (h : LiesF lo hi w (.agg #[c0, c1, c2, c3, c4, c5]) t) (h1 : A ≤ lo) (h2 : hi ≤ w.heap.size) (h3 : ∀ q, g = some q → q < lo ∨ hi ≤ q) (k : RowF A g w r ts) : RowF A g w (c0 :: c1 :: c2 :: c3 :: c4 :: c5 :: r) (t :: ts)
theorem RowF.append {A : Nat} {g : Option Nat} {w : World} {xs ys : List Value} {ts us : List Tree} (h : RowF A g w xs ts) (k : RowF A g w ys us) : RowF A g w (xs ++ ys) (ts ++ us) := by
  induction h with
  | nil => exact k
  | cons h h1 h2 h3 _ ih => exact .cons h h1 h2 h3 ih
theorem RowF.step {A : Nat} {g g' : Option Nat} {w w' : World} {xs : List Value} {ts : List Tree} (h : RowF A g w xs ts) (hk : ∀ b, A ≤ b → b < w.heap.size → some b ≠ g → w'.heap[b]? = w.heap[b]?) (hs : w.heap.size ≤ w'.heap.size)
    (hg : g' = g ∨ ∃ q, g' = some q ∧ w.heap.size ≤ q) : RowF A g' w' xs ts := by
  induction h with
  | nil => exact .nil
  | @cons lo hi _ _ _ _ _ _ _ _ _ h h1 h2 h3 _ ih =>
    refine .cons (h.keep fun b o hb1 hb2 => ?_) h1 (Nat.le_trans h2 hs) (fun q hq => ?_) ih
    · have hne : some b ≠ g := fun e => by
        have := h3 b e.symm
        omega
      have hb := hk b (by omega) (by omega) hne
      exact ⟨World.cell?_of_block (a := ⟨b, o, none⟩) hb, World.frozen?_of_block (a := ⟨b, o, none⟩) hb⟩
    · rcases hg with e | ⟨q', e, hq'⟩
      · exact h3 q (e ▸ hq)
      · rw [e] at hq
        have : q' = q := by simpa using hq
        omega
theorem RowF.row {A : Nat} {g : Option Nat} {w : World} {xs : List Value} {ts : List Tree} (h : RowF A g w xs ts) : xs.length = ts.length * 6 := by
  induction h with
  | nil => rfl
  | cons _ _ _ _ _ ih => simp only [List.length_cons, ih]; omega
/-- 'append(row, value)' in the walk. -/
theorem append_six {ops : Array Oper} {rest : List Oper} {o : Oper} {a : Act} {Q : Exit → Act → World → Prop} (w : World) (hgd : o.guard = none) (sl x : Operand)
    (ho : o.op = .call { callee := .builtin .append, args := #[sl, x], argTypes := #[24, 24] }) (base n : Nat) (v : Value) (xs : List Value) (hs : a.eval sl = v) (hown : w.ownsRow base 26 6 v n xs) (ad : Addr) (ys : List Value) (hx : a.eval x = .slice (some ad) 1 1)
    (hm : ys.length = 6) (hc : ∀ j u, ys[j]? = some u → w.cell? (ad.add j) = some u) (hone : ∀ u ∈ ys, u.oneCell' = true) (hn : n + 1 ≤ 1000000) (hB : base ≤ w.heap.size)
    (h : ∀ v' w', w'.ownsRow base 26 6 v' (n + 1) (xs ++ ys) → w.grownBy w' v.ownBlock → (v'.ownBlock = v.ownBlock ∨ v'.ownBlock = some w.heap.size) → wpList Tryz.prog ops Q rest (a.put o.dst v') w') : wpList Tryz.prog ops Q (o :: rest) a w := by
  refine wpList_plain hgd fun K hK => ?_
  obtain ⟨i0, hi, hz0, hz1, hz2⟩ := info_parts Tryz.info26
  obtain ⟨v', w', hr, h2, h3, _, h5⟩ := run_append_own_at (P := Tryz.prog) w base 24 o.type 26 i0 _ 6 88 Tryz.underlying24 hi hz0 hz1 hz2 rfl (by decide) v n xs hown ad 1 1 ys (by rw [hm]) hc hone (by unfold maxLen; omega) (by omega) hB
  unfold Oper.wp execOp
  simp only [ho, resolve, invoke, builtin, Sem.run_bind, Sem.run_pure, Result.andThen_ok, List.map_toArray, List.map_cons, List.map_nil, hs, hx, hr]
  exact hK _ _ (h v' w' h2 h3 h5)
end Go.Proofs.YtbpmhgcjefpigaaGreatDoor

namespace Go.Proofs.YtbpmhgcjefpigaaGreatDoor
open Go.RowKit Go.Shelf Go.WideShapes Go.Lib
set_option linter.unusedVariables false
set_option linter.unusedSimpArgs false
def txt (t : Tree) : ByteArray := ⟨(tellG t).toArray⟩
def hasT (out : List Tree) (t : Tree) : Bool := (out.map tellG).contains (tellG t)
theorem hasT_iff (out : List Tree) (t : Tree) : hasT out t = true ↔ txt t ∈ out.map txt := by
  unfold hasT
  rw [List.contains_iff_mem, List.mem_map, List.mem_map]
  constructor
  · rintro ⟨u, hu, e⟩; exact ⟨u, hu, by unfold txt; rw [e]⟩
  · rintro ⟨u, hu, e⟩
    refine ⟨u, hu, ?_⟩
    have := congrArg (fun b : ByteArray => b.data.toList) e
    simpa [txt] using this
/-- Each where it comes first. -/
def outL (ts : List Tree) : List Tree := ts.foldl (fun out t => if hasT out t = true then out else out ++ [t]) []
theorem outL_take {ts : List Tree} {j : Nat} {t : Tree} (h : ts[j]? = some t) : outL (ts.take (j + 1)) = if hasT (outL (ts.take j)) t = true then outL (ts.take j) else outL (ts.take j) ++ [t] := by
  rw [List.take_add_one, h]
  show outL (ts.take j ++ [t]) = _
  unfold outL
  rw [List.foldl_append]
  rfl
theorem outL_len (ts : List Tree) (j : Nat) (hj : j ≤ ts.length) : (outL (ts.take j)).length ≤ j := by
  induction j with
  | zero => simp [outL]
  | succ j ih =>
    have := ih (by omega)
    rw [outL_take (List.getElem?_eq_getElem (by omega : j < ts.length))]
    split
    · omega
    · rw [List.length_append]; simp; omega
theorem own_keep' {base e size n : Nat} {xs : List Value} {v : Value} {w w1 : World} (hown : w.ownsRow base e size v n xs) (hk : ∀ q, base ≤ q → q < w.heap.size → w1.heap[q]? = w.heap[q]?) : w1.ownsRow base e size v n xs := by
  obtain ⟨g1, ⟨g2, g3⟩ | ⟨g, cap, cur, g2, g3, g4, g5⟩⟩ := hown
  · exact ⟨g1, .inl ⟨g2, g3⟩⟩
  · exact ⟨g1, .inr ⟨g, cap, cur, g2, g3, (hk g g3 (Array.getElem?_eq_some_iff.1 g4).1).trans g4, g5⟩⟩
theorem own_keep {base e size n : Nat} {xs : List Value} {v : Value} {w w1 : World} (hown : w.ownsRow base e size v n xs) (hb : Below w.heap.size w w1) : w1.ownsRow base e size v n xs := own_keep' hown fun q _ hq => hb.block q hq
end Go.Proofs.YtbpmhgcjefpigaaGreatDoor

