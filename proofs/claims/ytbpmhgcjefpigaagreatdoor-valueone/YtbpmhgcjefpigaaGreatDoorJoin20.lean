/- A map of texts that were met; rows of copies that grow. Once, at any list of values that may be. -/
import Derived.Test.YtbpmhgcjefpigaaGreatDoorTextG
import Derived.Test.YtbpmhgcjefpigaaGreatDoorFcopy
import Derived.StringKeys
import Derived.MapKept
import Derived.Test.YtbpmhgcjefpigaaGreatDoorJoin12
namespace Go.Proofs.YtbpmhgcjefpigaaGreatDoor
open Go.RowKit Go.Shelf Go.WideShapes Go.Lib
set_option linter.unusedVariables false
set_option linter.unusedSimpArgs false

/-- The map at b holds just these texts. -/
def SeenAt (w : World) (b : Nat) (ss : List ByteArray) : Prop := ∃ es clock, w.heap[b]? = some (.map es clock) ∧ es.toList.map (·.key) = ss.map Value.string ∧ (∀ e ∈ es.toList, e.val = .agg #[]) ∧ ∀ s ∈ ss, s.size ≤ maxLen
theorem SeenAt.block {w w' : World} {b : Nat} {ss : List ByteArray} (h : SeenAt w b ss) (hb : w'.heap[b]? = w.heap[b]?) : SeenAt w' b ss := by
  obtain ⟨es, clock, h1, h2⟩ := h
  exact ⟨es, clock, hb.trans h1, h2⟩
theorem SeenAt.lt {w : World} {b : Nat} {ss : List ByteArray} (h : SeenAt w b ss) : b < w.heap.size := by
  obtain ⟨es, clock, h1, _⟩ := h
  exact (Array.getElem?_eq_some_iff.1 h1).1
theorem seen_none (w : World) : SeenAt (w.alloc (.map #[] 0)) w.heap.size [] := ⟨#[], 0, World.alloc_heap_new _ _, rfl, by simp, by simp⟩
theorem Tryz.underlying87' : Tryz.prog.underlying 87 = some (.map 9 88) := by kernel_rfl
theorem zero88 (w : World) : (zeroValue 88).run Tryz.prog w = .ok (.agg #[]) w := by kernel_rfl
theorem seen_keys {es : Array MapEntry} {ss : List ByteArray} (h : es.toList.map (·.key) = ss.map Value.string) (hs : ∀ s ∈ ss, s.size ≤ maxLen) : ∀ e ∈ es.toList, ∃ l, Go.keyOf Tryz.prog 9 e.key = some l := by
  intro e he
  have : e.key ∈ ss.map Value.string := by rw [← h]; exact List.mem_map.2 ⟨e, he, rfl⟩
  obtain ⟨s, hm, e1⟩ := List.mem_map.1 this
  exact ⟨_, by rw [← e1]; exact WideMaps.keyOf_string_mk Tryz.underlying9 (hs s hm)⟩
theorem seen_look {w : World} {b : Nat} {ss : List ByteArray} (h : SeenAt w b ss) (s : ByteArray) (hs : s.size ≤ maxLen) (x : Bool) (hx : x = true ↔ s ∈ ss) : (Instr.lookup 87 (.map (some b)) (.string s) true).run Tryz.prog w = .ok (.tuple #[.agg #[], .bool x]) w := by
  obtain ⟨es, clock, h1, h2, h3, h4⟩ := h
  have K := WideMaps.string_law (P := Tryz.prog) Tryz.underlying9
  have hkey := WideMaps.keyOf_string_mk (P := Tryz.prog) Tryz.underlying9 hs
  rcases K.find w hkey es.toList (seen_keys h2 h4) with ⟨f1, f2⟩ | ⟨j, e0, f1, f2, f3⟩
  · have hn : s ∉ ss := fun hm => by
      have : Value.string s ∈ es.toList.map (·.key) := by rw [h2]; exact List.mem_map.2 ⟨s, hm, rfl⟩
      obtain ⟨e, he, e1⟩ := List.mem_map.1 this
      exact f2 e he e1
    obtain rfl : x = false := by cases x; rfl; exact absurd (hx.1 rfl) hn
    simp [Instr.lookup, run_underlying Tryz.underlying87', MapKept.run_getObj_map h1, K.check w _ hkey, f1, zero88, Result.andThen]
  · have hm0 : e0 ∈ es.toList := List.mem_of_getElem? f2
    have hm : s ∈ ss := by
      have : e0.key ∈ es.toList.map (·.key) := List.mem_map.2 ⟨e0, hm0, rfl⟩
      rw [h2, f3] at this
      obtain ⟨s', hs', e1⟩ := List.mem_map.1 this
      simp only [Value.string.injEq] at e1
      rwa [e1] at hs'
    obtain rfl : x = true := hx.2 hm
    simp [Instr.lookup, run_underlying Tryz.underlying87', MapKept.run_getObj_map h1, K.check w _ hkey, f1, h3 e0 hm0, Result.andThen]
theorem seen_put {w : World} {b : Nat} {ss : List ByteArray} (h : SeenAt w b ss) (s : ByteArray) (hs : s.size ≤ maxLen) (hn : s ∉ ss) :
    ∃ w', (Instr.mapUpdate 87 (.map (some b)) (.string s) (.agg #[])).run Tryz.prog w = .ok () w' ∧ SeenAt w' b (ss ++ [s]) ∧ w'.heap.size = w.heap.size ∧ (∀ k, k ≠ b → w'.heap[k]? = w.heap[k]?) ∧ Below b w w' := by
  obtain ⟨es, clock, h1, h2, h3, h4⟩ := h
  have hlt : b < w.heap.size := (Array.getElem?_eq_some_iff.1 h1).1
  have K := WideMaps.string_law (P := Tryz.prog) Tryz.underlying9
  have hkey := WideMaps.keyOf_string_mk (P := Tryz.prog) Tryz.underlying9 hs
  rcases K.find w hkey es.toList (seen_keys h2 h4) with ⟨f1, f2⟩ | ⟨j, e0, f1, f2, f3⟩
  · refine ⟨{ w with heap := w.heap.setIfInBounds b (.map (es.push ⟨.string s, .agg #[], clock⟩) (clock + 1)) }, ?_, ⟨es.push ⟨.string s, .agg #[], clock⟩, clock + 1, ?_, ?_, ?_, ?_⟩, ?_, ?_, ⟨rfl, rfl, rfl, ?_, ?_⟩⟩
    · simp [Instr.mapUpdate, run_underlying Tryz.underlying87', MapKept.run_getObj_map h1, K.check w false hkey, f1, MapKept.run_setObj_map _ h1, Result.andThen]
    · simp [hlt]
    · simp [h2]
    · intro e he
      simp only [Array.toList_push, List.mem_append, List.mem_singleton] at he
      rcases he with he | rfl
      · exact h3 e he
      · rfl
    · intro x hx
      rcases List.mem_append.1 hx with hx | hx
      · exact h4 x hx
      · simp only [List.mem_cons, List.not_mem_nil, or_false] at hx; rw [hx]; exact hs
    · simp
    · intro k hk
      simp [Array.getElem?_setIfInBounds_ne (Ne.symm hk)]
    · simp
    · intro k hk
      have : k ≠ b := by omega
      simp [Array.getElem?_setIfInBounds_ne (Ne.symm this)]
  · exfalso
    have hm0 : e0 ∈ es.toList := List.mem_of_getElem? f2
    have : e0.key ∈ es.toList.map (·.key) := List.mem_map.2 ⟨e0, hm0, rfl⟩
    rw [h2, f3] at this
    obtain ⟨s', hs', e1⟩ := List.mem_map.1 this
    simp only [Value.string.injEq] at e1
    rw [e1] at hs'
    exact hn hs'

/-- Copies in a row: each in memory of its own, apart from the row. -/
inductive RowF (A : Nat) (g : Option Nat) (w : World) : List Value → List Tree → Prop
  | nil : RowF A g w [] []
  | cons {lo hi : Nat} {c0 c1 c2 c3 c4 c5 : Value} {r : List Value} {t : Tree} {ts : List Tree} (h : LiesF lo hi w (.agg #[c0, c1, c2, c3, c4, c5]) t) (h1 : A ≤ lo) (h2 : hi ≤ w.heap.size) (h3 : ∀ q, g = some q → q < lo ∨ hi ≤ q) (k : RowF A g w r ts) : RowF A g w (c0 :: c1 :: c2 :: c3 :: c4 :: c5 :: r) (t :: ts)
theorem RowF.append {A : Nat} {g : Option Nat} {w : World} {xs ys : List Value} {ts us : List Tree} (h : RowF A g w xs ts) (k : RowF A g w ys us) : RowF A g w (xs ++ ys) (ts ++ us) := by
  induction h with
  | nil => exact k
  | cons h h1 h2 h3 _ ih => exact .cons h h1 h2 h3 ih
theorem RowF.step {A : Nat} {g g' : Option Nat} {w w' : World} {xs : List Value} {ts : List Tree} (h : RowF A g w xs ts) (hk : ∀ b, A ≤ b → b < w.heap.size → some b ≠ g → w'.heap[b]? = w.heap[b]?) (hs : w.heap.size ≤ w'.heap.size)
    (hg : g' = g ∨ ∃ q, g' = some q ∧ w.heap.size ≤ q) : RowF A g' w' xs ts := by
  induction h with
  | nil => exact .nil
  | @cons lo hi _ _ _ _ _ _ _ _ _ h h1 h2 h3 _ ih =>
    refine .cons (h.keep fun b o hb1 hb2 => ?_) h1 (Nat.le_trans h2 hs) (fun q hq => ?_) ih
    · have hne : some b ≠ g := fun e => by
        have := h3 b e.symm
        omega
      have hb := hk b (by omega) (by omega) hne
      exact ⟨World.cell?_of_block (a := ⟨b, o, none⟩) hb, World.frozen?_of_block (a := ⟨b, o, none⟩) hb⟩
    · rcases hg with e | ⟨q', e, hq'⟩
      · exact h3 q (e ▸ hq)
      · rw [e] at hq
        have : q' = q := by simpa using hq
        omega
theorem RowF.row {A : Nat} {g : Option Nat} {w : World} {xs : List Value} {ts : List Tree} (h : RowF A g w xs ts) : xs.length = ts.length * 6 := by
  induction h with
  | nil => rfl
  | cons _ _ _ _ _ ih => simp only [List.length_cons, ih]; omega

/-- 'append(row, value)' in the walk. -/
theorem append_six {ops : Array Oper} {rest : List Oper} {o : Oper} {a : Act} {Q : Exit → Act → World → Prop} (w : World) (hgd : o.guard = none) (sl x : Operand)
    (ho : o.op = .call { callee := .builtin .append, args := #[sl, x], argTypes := #[24, 24] }) (base n : Nat) (v : Value) (xs : List Value) (hs : a.eval sl = v) (hown : w.ownsRow base 26 6 v n xs) (ad : Addr) (ys : List Value) (hx : a.eval x = .slice (some ad) 1 1)
    (hm : ys.length = 6) (hc : ∀ j u, ys[j]? = some u → w.cell? (ad.add j) = some u) (hone : ∀ u ∈ ys, u.oneCell' = true) (hn : n + 1 ≤ 1000000) (hB : base ≤ w.heap.size)
    (h : ∀ v' w', w'.ownsRow base 26 6 v' (n + 1) (xs ++ ys) → w.grownBy w' v.ownBlock → (v'.ownBlock = v.ownBlock ∨ v'.ownBlock = some w.heap.size) → wpList Tryz.prog ops Q rest (a.put o.dst v') w') : wpList Tryz.prog ops Q (o :: rest) a w := by
  refine wpList_plain hgd fun K hK => ?_
  obtain ⟨i0, hi, hz0, hz1, hz2⟩ := info_parts Tryz.info26
  obtain ⟨v', w', hr, h2, h3, _, h5⟩ := run_append_own_at (P := Tryz.prog) w base 24 o.type 26 i0 _ 6 88 Tryz.underlying24 hi hz0 hz1 hz2 rfl (by decide) v n xs hown ad 1 1 ys (by rw [hm]) hc hone (by unfold maxLen; omega) (by omega) hB
  unfold Oper.wp execOp
  simp only [ho, resolve, invoke, builtin, Sem.run_bind, Sem.run_pure, Result.andThen_ok, List.map_toArray, List.map_cons, List.map_nil, hs, hx, hr]
  exact hK _ _ (h v' w' h2 h3 h5)
end Go.Proofs.YtbpmhgcjefpigaaGreatDoor

namespace Go.Proofs.YtbpmhgcjefpigaaGreatDoor
open Go.RowKit Go.Shelf Go.WideShapes Go.Lib
set_option linter.unusedVariables false
set_option linter.unusedSimpArgs false

def txt (t : Tree) : ByteArray := ⟨(tellG t).toArray⟩
def hasT (out : List Tree) (t : Tree) : Bool := (out.map tellG).contains (tellG t)
theorem hasT_iff (out : List Tree) (t : Tree) : hasT out t = true ↔ txt t ∈ out.map txt := by
  unfold hasT
  rw [List.contains_iff_mem, List.mem_map, List.mem_map]
  constructor
  · rintro ⟨u, hu, e⟩; exact ⟨u, hu, by unfold txt; rw [e]⟩
  · rintro ⟨u, hu, e⟩
    refine ⟨u, hu, ?_⟩
    have := congrArg (fun b : ByteArray => b.data.toList) e
    simpa [txt] using this
/-- Each where it comes first. -/
def outL (ts : List Tree) : List Tree := ts.foldl (fun out t => if hasT out t = true then out else out ++ [t]) []
theorem outL_take {ts : List Tree} {j : Nat} {t : Tree} (h : ts[j]? = some t) : outL (ts.take (j + 1)) = if hasT (outL (ts.take j)) t = true then outL (ts.take j) else outL (ts.take j) ++ [t] := by
  rw [List.take_add_one, h]
  show outL (ts.take j ++ [t]) = _
  unfold outL
  rw [List.foldl_append]
  rfl
theorem outL_len (ts : List Tree) (j : Nat) (hj : j ≤ ts.length) : (outL (ts.take j)).length ≤ j := by
  induction j with
  | zero => simp [outL]
  | succ j ih =>
    have := ih (by omega)
    rw [outL_take (List.getElem?_eq_getElem (by omega : j < ts.length))]
    split
    · omega
    · rw [List.length_append]; simp; omega
theorem own_keep' {base e size n : Nat} {xs : List Value} {v : Value} {w w1 : World} (hown : w.ownsRow base e size v n xs) (hk : ∀ q, base ≤ q → q < w.heap.size → w1.heap[q]? = w.heap[q]?) : w1.ownsRow base e size v n xs := by
  obtain ⟨g1, ⟨g2, g3⟩ | ⟨g, cap, cur, g2, g3, g4, g5⟩⟩ := hown
  · exact ⟨g1, .inl ⟨g2, g3⟩⟩
  · exact ⟨g1, .inr ⟨g, cap, cur, g2, g3, (hk g g3 (Array.getElem?_eq_some_iff.1 g4).1).trans g4, g5⟩⟩
theorem own_keep {base e size n : Nat} {xs : List Value} {v : Value} {w w1 : World} (hown : w.ownsRow base e size v n xs) (hb : Below w.heap.size w w1) : w1.ownsRow base e size v n xs := own_keep' hown fun q _ hq => hb.block q hq
structure OnceAt (w : World) (ts : List Tree) (j : Nat) (o : Value) (wr : World) : Prop where
  row : ∃ xs, wr.ownsRow (w.heap.size + 1) 26 6 o (outL (ts.take j)).length xs ∧ RowF (w.heap.size + 1) o.ownBlock wr xs (outL (ts.take j))
  seen : SeenAt wr w.heap.size ((outL (ts.take j)).map txt)
  below : Below w.heap.size w wr

set_option maxRecDepth 100000 in
set_option maxHeartbeats 4000000 in
theorem once_any (ts : List Tree) (B : Nat) (la : Option Addr) (lc : Nat) (w : World) (hB : B ≤ w.heap.size) (hl : ListLies B w la ts) (h1 : ts.length ≤ lc) (hn : ts.length ≤ 1000) (hc : ∀ t ∈ ts, checkN t = 0 ∧ Ranged t ∧ Modest t ∧ t.total ≤ 800000)
    (hT : Tabs w) (hP : TabBelow Tryz.prog w.heap.size w "internal/strconv.uint64pow10" .u64 pow10Tab) (hM : ML w) (h2 : 2 < w.heap.size) :
    Calls Tryz.prog 47 #[.slice la ts.length lc] w fun e w' => ∃ v xs, e = .returned v ∧ w'.ownsRow (w.heap.size + 1) 26 6 v (outL ts).length xs ∧ RowF (w.heap.size + 1) v.ownBlock w' xs (outL ts) ∧ Below w.heap.size w w' := by
  have hmm : ∀ W : World, (Instr.makeMap 87 none).run Tryz.prog W = .ok (.map (some W.heap.size)) (W.alloc (.map #[] 0)) := fun W => rfl
  obtain ⟨W1, hW1⟩ : ∃ W1, w.alloc (.map #[] 0) = W1 := ⟨_, rfl⟩
  have hb1 : Below w.heap.size w W1 := hW1 ▸ (Below.refl _ _).alloc (Nat.le_refl _) _
  have HS : Hid (OnceAt w ts 0 (.slice none 0 0) W1) := ⟨⟨[], World.ownsRow_nil _ _ _ _, .nil⟩, hW1 ▸ seen_none w, hb1⟩
  have HX : Hid (∀ w', Below w.heap.size w w' → Tabs w' ∧ TabBelow Tryz.prog w'.heap.size w' "internal/strconv.uint64pow10" .u64 pow10Tab ∧ ML w' ∧ 2 < w'.heap.size ∧ B ≤ w'.heap.size) := fun w' hb => by
    obtain ⟨m, hm⟩ := hM
    exact ⟨hT.below hb, fun w2 h => hP w2 (hb.trans (h.mono hb.size)), ⟨m, (hb.cell (p := ⟨2, 0, none⟩) h2).trans hm⟩, Nat.lt_of_lt_of_le h2 hb.size, Nat.le_trans hB hb.size⟩
  have HW1 := hidE hW1
  have HC := hidE hc
  have HL := hidE hl
  clear hW1 hb1 hc hl hT hP hM h2
  go_enter Tryz.func47, Tryz.ntmps47
  go_wp2_with fail
  rw [HW1.out]
  clear hmm
  go_loopw [14, 4] (fun i o wr => ∃ j : Nat, j ≤ ts.length ∧ i = .int .i64 j ∧ OnceAt w ts j o wr) (fun i _ _ => ts.length - (intOf i).toNat)
  case atStart => exact ⟨0, Nat.zero_le _, rfl, HS.out⟩
  case round =>
    obtain ⟨j, hj, rfl, hgo⟩ := hrel
    have HGO := hidE hgo
    by_cases hlt : j < ts.length
    · obtain ⟨t, hx⟩ : ∃ t, ts[j]? = some t := ⟨_, List.getElem?_eq_getElem hlt⟩
      obtain ⟨hck, hran, hmo, htot⟩ := HC.out t (List.mem_of_getElem? hx)
      have hbr := hgo.below
      obtain ⟨bl, off, rfl, hbl, hkl⟩ := HL.out.resolve_left (by intro e; rw [e] at hlt; simp at hlt)
      have hstep := outL_take hx
      have HSTEP := hidE hstep
      have hlen := outL_len ts j hj
      have htl := tellG_len t hran
      have hts : (txt t).size ≤ maxLen := by
        show (tellG t).toArray.size ≤ maxLen
        rw [List.size_toArray]; unfold maxLen; omega
      obtain ⟨k, b, nn, s, ks, us⟩ := t
      obtain ⟨ja, jc, jl, jd, ⟨c0, c1, c2, c3, c4, c5⟩, hlx⟩ := (hkl.below (hbr.mono hB) hbl).cells hx
      obtain ⟨WA, hWA⟩ : ∃ WA, wr.alloc (.cells #[.int .i64 k, .bool b, .int .i64 nn, .string s, .slice ja ks.length jc, .slice jl us.length jd] 26) = WA := ⟨_, rfl⟩
      have hba : Below wr.heap.size wr WA := hWA ▸ (Below.refl _ _).alloc (Nat.le_refl _) _
      have hqa : WA.heap[wr.heap.size]? = some (.cells #[.int .i64 k, .bool b, .int .i64 nn, .string s, .slice ja ks.length jc, .slice jl us.length jd] 26 (0, 0)) := hWA ▸ World.alloc_heap_new _ _
      have hbwa : Below w.heap.size w WA := below_on hbr hba
      obtain ⟨x1, x2, x3, x4, x5⟩ := HX.out WA hbwa
      have HTX := hidE (Text_anyG _ hck hran (by omega) hmo B _ WA x5 (hlx.below (hba.mono (HX.out wr hbr).2.2.2.2)) x1 x2 x3 x4)
      have HA := hidE (And.intro hba (And.intro hqa (And.intro hbwa hlx)))
      have HWA := hidE hWA
      clear hstep hqa hba hWA hbwa x1 x2 x3 x4 x5 hlx hkl hgo hbr hx hck hran hmo htl
      go_upto_region 6 with fail
      rw [HWA.out]
      have z0 := box_cell HA.out.2.1 (i := 0) rfl
      have z1 := box_cell HA.out.2.1 (i := 1) rfl
      have z2 := box_cell HA.out.2.1 (i := 2) rfl
      have z3 := box_cell HA.out.2.1 (i := 3) rfl
      have z4 := box_cell HA.out.2.1 (i := 4) rfl
      have z5 := box_cell HA.out.2.1 (i := 5) rfl
      go_wp2_with fail
      refine HTX.out.mono ?_
      rintro e w3 ⟨rfl, hb3⟩
      have HB3 := hidE hb3
      obtain ⟨S, hS⟩ : ∃ S, txt (.mk k b nn s ks us) = S := ⟨_, rfl⟩
      have hSt : (⟨(tellG (.mk k b nn s ks us)).toArray⟩ : ByteArray) = S := hS
      rw [hSt]
      rw [hS] at hts
      obtain ⟨x, hx⟩ : ∃ x, hasT (outL (ts.take j)) (.mk k b nn s ks us) = x := ⟨_, rfl⟩
      have hsn : SeenAt w3 w.heap.size ((outL (ts.take j)).map txt) := by
        refine HGO.out.seen.block ?_
        have hlt := HGO.out.seen.lt
        exact (hb3.block _ (Nat.lt_of_lt_of_le hlt HA.out.1.size)).trans (HA.out.1.block _ hlt)
      have hlk := seen_look hsn S hts x (by rw [← hx, hasT_iff, hS])
      have HSN := hidE hsn
      have HSS := hidE (And.intro hS hx)
      clear hb3 hS hSt hsn HTX z0 z1 z2 z3 z4 z5 c0 c1 c2 c3 c4 c5 HWA hx
      go_upto_region 10 with fail
      obtain ⟨W4, hW4⟩ : ∃ W4, w3.alloc (.cells #[] 88) = W4 := ⟨_, rfl⟩
      rw [hW4]
      have hb34 : Below w3.heap.size w3 W4 := hW4 ▸ (Below.refl _ _).alloc (Nat.le_refl _) _
      have hsn4 : SeenAt W4 w.heap.size ((outL (ts.take j)).map txt) := HSN.out.block (hb34.block _ HSN.out.lt)
      have hba4 : Below WA.heap.size WA W4 := below_on HB3.out hb34
      have hbr4 : Below wr.heap.size wr W4 := below_on HA.out.1 hba4
      have HB4 := hidE (And.intro hsn4 (And.intro hba4 hbr4))
      clear hlk hW4 hb34 hba4 hbr4 HSN HB3
      cases x with
      | true =>
        have HNEW : Hid (OnceAt w ts (j + 1) u4 W4) := by
          obtain ⟨xs, r1, r2⟩ := HGO.out.row
          have e : outL (ts.take (j + 1)) = outL (ts.take j) := by rw [HSTEP.out, if_pos HSS.out.2]
          refine ⟨⟨xs, ?_, ?_⟩, ?_, below_on HGO.out.below HB4.out.2.2⟩
          · rw [e]; exact own_keep r1 HB4.out.2.2
          · rw [e]; exact r2.step (fun b _ hb _ => HB4.out.2.2.block b hb) HB4.out.2.2.size (.inl rfl)
          · rw [e]; exact HB4.out.1
        clear hsn4
        go_wp2_with fail
        go_roundw
        case rel => exact ⟨j + 1, by omega, by go_num, HNEW.out⟩
        case measure => simp [intOf]; omega
      | false =>
        have hnm : S ∉ (outL (ts.take j)).map txt := fun hm => by
          have := (hasT_iff (outL (ts.take j)) (.mk k b nn s ks us)).2 (by rw [HSS.out.1]; exact hm)
          rw [HSS.out.2] at this
          cases this
        obtain ⟨W5, hup, hsn5, hsz5, hk5, hb5⟩ := seen_put hsn4 S hts hnm
        have hwr : w.heap.size < wr.heap.size := HGO.out.seen.lt
        have hbx5 : W5.heap[wr.heap.size]? = some (.cells #[.int .i64 k, .bool b, .int .i64 nn, .string s, .slice ja ks.length jc, .slice jl us.length jd] 26 (0, 0)) :=
          (hk5 _ (by omega)).trans ((HB4.out.2.1.block _ (Array.getElem?_eq_some_iff.1 HA.out.2.1).1).trans HA.out.2.1)
        have y0 := box_cell hbx5 (i := 0) rfl
        have y1 := box_cell hbx5 (i := 1) rfl
        have y2 := box_cell hbx5 (i := 2) rfl
        have y3 := box_cell hbx5 (i := 3) rfl
        have y4 := box_cell hbx5 (i := 4) rfl
        have y5 := box_cell hbx5 (i := 5) rfl
        have hbw5 : Below w.heap.size w W5 := (below_on HGO.out.below HB4.out.2.2).trans hb5
        have hl5 : Lies B W5 (.agg #[.int .i64 k, .bool b, .int .i64 nn, .string s, .slice ja ks.length jc, .slice jl us.length jd]) (.mk k b nn s ks us) :=
          HA.out.2.2.2.below (((HB4.out.2.2.mono (HX.out wr HGO.out.below).2.2.2.2)).trans (hb5.mono hB))
        have HCP := hidE (copy_anyF _ B _ W5 (HX.out W5 hbw5).2.2.2.2 hl5 (by omega))
        have HR5 : Hid ((∃ xs, W5.ownsRow (w.heap.size + 1) 26 6 u4 (outL (ts.take j)).length xs ∧ RowF (w.heap.size + 1) u4.ownBlock W5 xs (outL (ts.take j))) ∧ w.heap.size + 1 ≤ W5.heap.size) := by
          obtain ⟨xs, r1, r2⟩ := HGO.out.row
          have hk : ∀ q, w.heap.size + 1 ≤ q → q < wr.heap.size → W5.heap[q]? = wr.heap[q]? := fun q h1 h2 => (hk5 q (by omega)).trans (HB4.out.2.2.block q h2)
          have hs : wr.heap.size ≤ W5.heap.size := by rw [hsz5]; exact HB4.out.2.2.size
          refine ⟨⟨xs, own_keep' r1 hk, r2.step (fun q h1 h2 _ => hk q h1 h2) hs (.inl rfl)⟩, by omega⟩
        have H5 := hidE (And.intro hsn5 hbw5)
        clear hsn5 hk5 hb5 hbx5 hl5 hsz5 hsn4 hnm hwr
        go_wp2_with fail
        refine HCP.out.mono ?_
        rintro e w6 ⟨vc, rfl, hlf, hb6⟩
        obtain ⟨ck, cb, cn, cx, ca, cm, cc, cl, co, cd, rfl⟩ := lies_form hlf.lie
        obtain ⟨⟨xs, r1, r2⟩, hA5⟩ := HR5.out
        obtain ⟨W7, hW7⟩ : ∃ W7, w6.alloc (.cells #[.int .i64 ck, .bool cb, .int .i64 cn, .string cx, .slice ca cm cc, .slice cl co cd] 26) = W7 := ⟨_, rfl⟩
        have hb67 : Below w6.heap.size w6 W7 := hW7 ▸ (Below.refl _ _).alloc (Nat.le_refl _) _
        have hb57 : Below W5.heap.size W5 W7 := below_on hb6 hb67
        have r17 := own_keep r1 hb57
        have hc7 : ∀ i u, ([.int .i64 ck, .bool cb, .int .i64 cn, .string cx, .slice ca cm cc, .slice cl co cd] : List Value)[i]? = some u → W7.cell? ((⟨w6.heap.size, 0, none⟩ : Addr).add i) = some u := fun i u hi => by
          rw [← hW7, Lib.add_plain, Nat.zero_add]
          exact cell_new _ _ _ _ _ (by simpa using hi)
        have hone : ∀ u ∈ ([.int .i64 ck, .bool cb, .int .i64 cn, .string cx, .slice ca cm cc, .slice cl co cd] : List Value), u.oneCell' = true := by
          intro u hu
          simp only [List.mem_cons, List.not_mem_nil, or_false] at hu
          rcases hu with rfl | rfl | rfl | rfl | rfl | rfl <;> rfl
        have h57 : w.heap.size + 1 ≤ W7.heap.size := Nat.le_trans hA5 hb57.size
        have HW7 := hidE hW7
        have H7 := hidE (And.intro hlf (And.intro hb6 (And.intro hb67 r2)))
        clear hlf hb6 hb67 hW7 r1 r2 HCP y0 y1 y2 y3 y4 y5 hb57 hup
        go_wp2_with (at_builtin; rw [HW7.out]; refine append_six W7 rfl _ _ rfl (w.heap.size + 1) _ u4 xs rfl r17 ⟨w6.heap.size, 0, none⟩ _ rfl rfl hc7 hone (by omega) h57 ?_; intro v8 w8 ho8 hg8 hp8)
        have HNEW : Hid (OnceAt w ts (j + 1) v8 w8) := by
          have e : outL (ts.take (j + 1)) = outL (ts.take j) ++ [.mk k b nn s ks us] := by rw [HSTEP.out, if_neg (by rw [HSS.out.2]; decide)]
          obtain ⟨hlf, hb6, hb67, r2⟩ := H7.out
          have hb57 : Below W5.heap.size W5 W7 := below_on hb6 hb67
          have hown : ∀ q, u4.ownBlock = some q → w.heap.size + 1 ≤ q ∧ q < W5.heap.size := fun q hq => by
            have h1 := r17.lt q hq
            obtain ⟨⟨xs', r1', _⟩, _⟩ := HR5.out
            exact ⟨h1.1, (r1'.lt q hq).2⟩
          have hmb : w8.heap[w.heap.size]? = W5.heap[w.heap.size]? := by
            have hlt := H5.out.1.lt
            refine (hg8.block _ (Nat.lt_of_lt_of_le hlt hb57.size) fun e => ?_).trans (hb57.block _ hlt)
            have := hown _ e.symm
            omega
          have hrow7 : RowF (w.heap.size + 1) u4.ownBlock W7 xs (outL (ts.take j)) := r2.step (fun q _ hq _ => hb57.block q hq) hb57.size (.inl rfl)
          have hnew7 : RowF (w.heap.size + 1) u4.ownBlock W7 [.int .i64 ck, .bool cb, .int .i64 cn, .string cx, .slice ca cm cc, .slice cl co cd] [.mk k b nn s ks us] :=
            .cons (hlf.keep (keeps_belowF hb67 (Nat.le_refl _))) hA5 hb67.size (fun q hq => .inl (hown q hq).2) .nil
          refine ⟨⟨_, by rw [e, List.length_append]; exact ho8, ?_⟩, ?_, H5.out.2.trans ?_⟩
          · rw [e]
            refine (hrow7.append hnew7).step (fun q _ hq hne => hg8.block q hq hne) hg8.size ?_
            rcases hp8 with h | h
            · exact .inl h
            · exact .inr ⟨_, h, Nat.le_refl _⟩
          · rw [e, List.map_append]
            show SeenAt _ _ (_ ++ [txt (.mk k b nn s ks us)])
            rw [HSS.out.1]
            exact H5.out.1.block hmb
          · refine (hb57.mono ?_).trans ((Below.refl _ W7).grown hg8 (by omega) fun q hq => by have := hown q hq; omega)
            have := H5.out.2.size
            omega
        clear ho8 hg8 hp8 r17 hc7 hone h57 hA5
        go_roundw
        case rel => exact ⟨j + 1, by omega, by go_num, HNEW.out⟩
        case measure => simp [intOf]; omega
    · have hjs : ts.take j = ts := List.take_of_length_le (by omega)
      have HE : Hid (∃ xs, wr.ownsRow (w.heap.size + 1) 26 6 u4 (outL ts).length xs ∧ RowF (w.heap.size + 1) u4.ownBlock wr xs (outL ts)) := by
        have := hgo.row
        rw [hjs] at this
        exact this
      have HBL := hidE hgo.below
      clear hgo hjs
      go_wp2_with fail
      go_ret
      obtain ⟨xs, r1, r2⟩ := HE.out
      exact ⟨_, xs, rfl, r1, r2, HBL.out⟩
end Go.Proofs.YtbpmhgcjefpigaaGreatDoor

