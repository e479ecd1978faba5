/- Lex: what it answers. A row of bytes that grows inside one statement, whatever order the statement's operations are drawn in. -/
import Derived.Test.YtbjcdpenfijfoaaGreatDoorJoin13
import Derived.Test.YtbjcdpenfijfoaaGreatDoorJoin2
namespace Go.Proofs.YtbjcdpenfijfoaaGreatDoor
open Go.RowKit Go.Shelf Go.Lexed
set_option linter.unusedVariables false
set_option linter.unusedSimpArgs false
attribute [local go_sem] Oper.semAt_some
/-- Words lie in a slice. -/
def Lie4 (B : Nat) (w : World) (v : Value) (xs : List W4) : Prop :=
  ∃ ad cap, v = .slice ad xs.length cap ∧ xs.length ≤ cap ∧ cap ≤ 9223372036854775807 ∧ (xs = [] ∨ ∃ bl off, ad = some ⟨bl, off, none⟩ ∧ bl < B ∧ ∀ j u, (cells4 xs)[j]? = some u → w.cell? ⟨bl, off + j, none⟩ = some u)
theorem Lie4.below {B C : Nat} {w w' : World} {v : Value} {xs : List W4} (h : Lie4 B w v xs) (hb : Below C w w') (hC : B ≤ C) : Lie4 B w' v xs := by
  obtain ⟨ad, cap, h1, h2, h3, h4⟩ := h
  refine ⟨ad, cap, h1, h2, h3, h4.imp id fun ⟨bl, off, e, hl, hc⟩ => ⟨bl, off, e, hl, fun j u hj => ?_⟩⟩
  exact (hb.cell (p := ⟨bl, off + j, none⟩) (by show bl < C; omega)).trans (hc j u hj)
theorem Lie4.mono {B C : Nat} {w : World} {v : Value} {xs : List W4} (h : Lie4 B w v xs) (hC : B ≤ C) : Lie4 C w v xs := by
  obtain ⟨ad, cap, h1, h2, h3, h4⟩ := h
  exact ⟨ad, cap, h1, h2, h3, h4.imp id fun ⟨bl, off, e, hl, hc⟩ => ⟨bl, off, e, by omega, hc⟩⟩
theorem Lie4.row {base : Nat} {w : World} {v : Value} {xs : List W4} (h : w.ownsRow base 33 4 v xs.length (cells4 xs)) : Lie4 w.heap.size w v xs := by
  have h0 := h
  obtain ⟨g1, ⟨g2, g3⟩ | ⟨g, cap, cur, g2, g3, g4, g5⟩⟩ := h
  · have e : xs = [] := List.eq_nil_of_length_eq_zero g3
    subst e
    exact ⟨none, 0, g2, Nat.le_refl _, by decide, .inl rfl⟩
  · refine ⟨_, cap, g2, g5.1, ?_, .inr ⟨g, 0, rfl, (Array.getElem?_eq_some_iff.1 g4).1, fun j u hj => ?_⟩⟩
    · have := g5.2.1; unfold maxLen at this; omega
    · subst g2
      have := h0.cells (g := g) rfl j u hj
      have hadd : (⟨g, 0, none⟩ : Addr).add j = ⟨g, j, none⟩ := by unfold Addr.add; split <;> simp_all
      rw [hadd] at this
      rw [Nat.zero_add]; exact this
theorem lex_count (U : List UInt8 → Bool) : ∀ (n : Nat) (l : List UInt8), l.length ≤ n → (lexB U l).1.length ≤ l.length := by
  intro n
  induction n with
  | zero =>
    intro l hl
    have e : l = [] := List.eq_nil_of_length_eq_zero (by omega)
    subst e
    rw [lex_end U (by rw [skipB.eq_def])]; simp
  | succ n ih =>
    intro l hl
    rcases lex_cases U l with ⟨r, h⟩ | h | ⟨r, h, hr, hw⟩ | ⟨r, p, h, hr, hw, hp⟩
    · rw [lex_bad U h]; simp
    · rw [lex_end U h]; simp
    · rw [lex_none U h hr hw]; simp
    · rw [lex_of U h hr hw]
      have := ih p.2 (by omega)
      simp only [List.length_cons]
      omega
theorem lexP_len (s : ByteArray) : (lexP s).length ≤ s.size := by
  unfold lexP lexQ
  rw [List.length_map]
  have := lex_count Lib.validD _ (suf s 0) (Nat.le_refl _)
  rw [suf_len] at this
  exact this
/-- What Lex answers. -/
def LexTo (s : ByteArray) (w : World) (e : Ending) (w' : World) : Prop :=
  Below w.heap.size w w' ∧ ((lexO s = none ∧ ∃ v, e = .returned (.tuple #[v, .int .i64 0, .int .i64 0]) ∧ Lie4 w'.heap.size w' v ((lexP s).map toW4)) ∨ (∃ j : Nat, j ≤ s.size ∧ lexO s = some (s.size - j) ∧ e = .returned (.tuple #[.slice none 0 0, .int .i64 (j : Int), .int .i64 130])))
set_option maxRecDepth 100000 in
set_option maxHeartbeats 2000000 in
theorem lex_any (s : ByteArray) (hs : s.size ≤ 1048576) (w : World) (hE : Env w) : Calls Tryz.prog 12 #[.string s] w fun e w' => LexTo s w e w' := by
  refine (callsIn_wide (n := 0)).1 ?_
  obtain ⟨F, hF⟩ : ∃ F, F = Fence.wide := ⟨_, rfl⟩
  rw [← hF]
  have hd : F.depth = none := by rw [hF]; rfl
  have hro : F.round = none := by rw [hF]; rfl
  have hfn : ∀ f, F.fn f := by rw [hF]; exact fun _ => trivial
  have HF : Hid (F = Fence.wide) := hF
  clear hF
  have HE := hidE hE
  have h8 := hE.room
  clear hE
  refine callsIn_of_wp Tryz.func12 rfl (hfn _) ?_ hro
  simp only [Tryz.ntmps12, List.size_toArray, List.length_cons, List.length_nil, Nat.reduceAdd, Nat.reduceSub, Array.replicate_succ, Array.replicate_zero, List.push_toArray, List.append_toArray, List.nil_append, List.cons_append]
  gi_wp2_with fail
  generalize hW0 : World.alloc _ _ = W0
  have HB0 : Hid (Below w.heap.size w W0) := by rw [← hW0]; exact (Below.refl _ _).alloc (Nat.le_refl _) _
  have HX0 : Hid (Boxed W0 w.heap.size 23 (.slice none 0 0)) := by rw [← hW0]; exact World.alloc_heap_new _ _
  have hz0 : W0.heap.size = w.heap.size + 1 := by rw [← hW0]; simp
  clear hW0
  have hea := EachL_any HF hd hro hfn s hs w.heap.size W0 (by omega) (J := fun pre W => Env W ∧ Below w.heap.size w W ∧ ∃ v, Boxed W w.heap.size 23 v ∧ W.ownsRow (w.heap.size + 2) 33 4 v pre.length (cells4 (pre.map toW4))) (Jx := fun _ => False)
    (fun pre W h => h.1)
    (fun pre W W' ⟨h1, h2, v, h3, h4⟩ hlt hf => ⟨h1.fr hf (by omega) h1.room, h2.trans (hf.below (by have := h2.size; omega) (by omega)), v, (hf.block _ h3.lt (by omega)).trans h3, row_keep h4 fun g hg hl => hf.block g hl (by omega)⟩)
    (fun m pre d p W ⟨h1, h2, v, h3, h4⟩ hlt hpre hdl => by
      have hpl := hpre.length_le
      have := lexP_len s
      rw [List.length_append] at hpl
      refine in_wide HF.out ?_
      rw [toW4_val]
      refine (lex1_any w.heap.size (w.heap.size + 2) pre.length v (cells4 (pre.map toW4)) (toW4 (d, p)) (pre.length : Int) W h3 h4 (by omega) (by omega) (by omega)).mono ?_
      rintro e W' ⟨rfl, v', h5, h6, h7⟩
      refine .inl ⟨rfl, ⟨h1.fr h7 h8 (by omega), h2.trans (h7.below (by omega) (Nat.le_refl _)), v', h5, ?_⟩, ?_⟩
      · rw [List.map_append, List.map_cons, List.map_nil, cells4_snoc, List.length_append]
        exact h6
      · exact h7.block _ (by omega) (by omega))
    ⟨HE.out.below HB0.out h8, HB0.out, _, HX0.out, World.ownsRow_nil _ _ _ _⟩ (0 - 1)
  refine hea.mono ?_
  clear hea
  rintro e w1 (⟨rfl, ho, h1, h2, v, h3, h4⟩ | ⟨j, hj, rfl, ho, h1, h2, v, h3, h4⟩ | ⟨_, hx⟩)
  · have HO := hidE ho
    have HB1 := hidE h2
    have HL := hidE (Lie4.row (xs := (lexP s).map toW4) (by rw [List.length_map]; exact h4))
    have cb := h3.cell
    clear ho h1 h2 h3 h4
    gi_wp2_with fail
    refine bodyPost_ret (v := .tuple #[v, .int .i64 0, .int .i64 0]) ?_ rfl ?_
    · simp [results, Tryz.results12, go_sem]
    · exact ⟨HB1.out, .inl ⟨HO.out, v, rfl, HL.out⟩⟩
  · have HO := hidE ho
    have HB1 := hidE h2
    clear ho h1 h2 h3 h4
    gi_wp2_with fail
    refine bodyPost_ret (v := .tuple #[.slice none 0 0, .int .i64 (j : Int), .int .i64 130]) ?_ rfl ?_
    · simp [results, Tryz.results12, go_sem]
    · exact ⟨HB1.out, .inr ⟨j, hj, HO.out, rfl⟩⟩
  · exact hx.elim
set_option maxRecDepth 100000 in
theorem each_long (s : ByteArray) (hs : 1048576 < s.size) (y : Value) (w : World) : Calls Tryz.prog 31 #[.string s, y] w fun e w' => e = .returned (.tuple #[.int .i64 0, .int .i64 3]) ∧ w' = w := by
  have hs' : (1048576 : Int) < s.size := by omega
  go_enter Tryz.func31, Tryz.ntmps31
  go_wp2_with fail
  go_ret2
  exact ⟨rfl, rfl⟩
set_option maxRecDepth 100000 in
theorem lex_long (s : ByteArray) (hs : 1048576 < s.size) (w : World) : Calls Tryz.prog 12 #[.string s] w fun e w' => e = .returned (.tuple #[.slice none 0 0, .int .i64 0, .int .i64 3]) ∧ Below w.heap.size w w' := by
  go_enter Tryz.func12, Tryz.ntmps12
  go_wp2_with fail
  refine (each_long s hs _ _).mono ?_
  rintro e w1 ⟨rfl, rfl⟩
  go_wp2_with fail
  refine bodyPost_ret (v := .tuple #[.slice none 0 0, .int .i64 0, .int .i64 3]) ?_ rfl ?_
  · simp [results, Tryz.results12, go_sem]
  · exact ⟨rfl, (Below.refl _ _).alloc (Nat.le_refl _) _⟩
end Go.Proofs.YtbjcdpenfijfoaaGreatDoor

namespace Go.Proofs.YtbjcdpenfijfoaaGreatDoor
open Go.RowKit Go.Shelf Go.Lib
set_option linter.unusedVariables false

/-- The operations that hand the row on, with what each puts behind it; the rows that are built for it, with their bytes. -/
structure Chain where
  pos : List Nat
  add : List (List UInt8)
  side : List (Nat × List UInt8)
namespace Chain
def row (C : Chain) (v : Value) (vs : Nat → Value) : Nat → Value
  | 0 => v
  | k + 1 => vs (C.pos.getD k 0)
def sofar (C : Chain) (k : Nat) : List UInt8 := (C.add.take k).flatten
/-- How far it has come. -/
def Far (C : Chain) (base n : Nat) (v : Value) (xs : List Value) (w0 : World) (l : Nat → Bool) (vs : Nat → Value) (w : World) : Prop :=
  ∃ k, k ≤ C.pos.length ∧ (∀ j, j < C.pos.length → l (C.pos.getD j 0) = decide (j < k)) ∧ Told base n xs v w0 (C.sofar k) (C.row v vs k) w ∧
    ∀ s ∈ C.side, l s.1 = true → ∃ t, vs s.1 = .slice (some ⟨t, 0, none⟩) s.2.length s.2.length ∧ (∀ j u, (byteCells s.2)[j]? = some u → w.cell? ⟨t, j, none⟩ = some u) ∧ some t ≠ (C.row v vs k).ownBlock ∧ t < w.heap.size
/-- The places are apart. -/
def apart (C : Chain) : Bool := decide (C.pos.Nodup ∧ (C.side.map (·.1)).Nodup ∧ ∀ s ∈ C.side, s.1 ∉ C.pos) && decide (C.add.length = C.pos.length)
end Chain

theorem nodup_inj {α : Type} {l : List α} (h : l.Nodup) {i j : Nat} (hi : i < l.length) (hj : j < l.length) (e : l[i] = l[j]) : i = j := by
  rcases Nat.lt_trichotomy i j with h1 | h1 | h1
  · exact absurd e (List.pairwise_iff_getElem.1 h i j hi hj h1)
  · exact h1
  · exact absurd e.symm (List.pairwise_iff_getElem.1 h j i hj hi h1)
variable {base n : Nat} {v : Value} {xs : List Value} {w0 : World}
theorem Chain.row_upd {C : Chain} {vs : Nat → Value} {i k : Nat} {u : Value} (hi : i ∉ C.pos) (hk : k ≤ C.pos.length) : C.row v (upd vs i u) k = C.row v vs k := by
  cases k with
  | zero => rfl
  | succ k =>
    show upd vs i u (C.pos.getD k 0) = vs (C.pos.getD k 0)
    refine upd_other _ _ fun e => hi ?_
    rw [← e, List.getD_eq_getElem?_getD, List.getElem?_eq_getElem (by omega)]
    exact List.getElem_mem _
theorem Chain.get_mem {C : Chain} {j : Nat} (h : j < C.pos.length) : C.pos.getD j 0 ∈ C.pos := by
  rw [List.getD_eq_getElem?_getD, List.getElem?_eq_getElem h]; exact List.getElem_mem _
theorem Chain.get_ne {C : Chain} (hn : C.pos.Nodup) {i j : Nat} (hi : i < C.pos.length) (hj : j < C.pos.length) (h : i ≠ j) : C.pos.getD i 0 ≠ C.pos.getD j 0 := by
  rw [List.getD_eq_getElem?_getD, List.getElem?_eq_getElem hi, List.getD_eq_getElem?_getD, List.getElem?_eq_getElem hj]
  intro e
  exact h (nodup_inj hn hi hj e)

/-- An operation beside the row: nothing turns. -/
theorem Chain.Far.beside {C : Chain} {l : Nat → Bool} {vs : Nat → Value} {w : World} (h : C.Far base n v xs w0 l vs w) {i : Nat} (hi : i ∉ C.pos) (hs : ∀ s ∈ C.side, s.1 ≠ i) (u : Value) : C.Far base n v xs w0 (upd l i true) (upd vs i u) w := by
  obtain ⟨k, hk, hl, ht, hside⟩ := h
  refine ⟨k, hk, fun j hj => ?_, ?_, fun s hm hls => ?_⟩
  · rw [upd_other _ _ (fun e => hi (by rw [← e]; exact get_mem hj))]; exact hl j hj
  · rw [Chain.row_upd hi hk]; exact ht
  · rw [upd_other _ _ (hs s hm)] at hls
    obtain ⟨t, h1, h2, h3, h4⟩ := hside s hm hls
    exact ⟨t, by rw [upd_other _ _ (hs s hm)]; exact h1, h2, by rw [Chain.row_upd hi hk]; exact h3, h4⟩
/-- A row is built for it. -/
theorem Chain.Far.built {C : Chain} {l : Nat → Bool} {vs : Nat → Value} {w : World} (hap : C.apart = true) (h : C.Far base n v xs w0 l vs w) {s : Nat × List UInt8} (hm : s ∈ C.side) :
    C.Far base n v xs w0 (upd l s.1 true) (upd vs s.1 (.slice (some ⟨w.heap.size, 0, none⟩) s.2.length s.2.length)) (w.alloc (.cells (byteCells s.2).toArray 5)) := by
  simp only [Chain.apart, Bool.and_eq_true, decide_eq_true_eq] at hap
  obtain ⟨⟨h1, h2, h3⟩, _⟩ := hap
  have hi := h3 s hm
  obtain ⟨k, hk, hl, ht, hside⟩ := h
  have hb : Below w.heap.size w (w.alloc (.cells (byteCells s.2).toArray 5)) := (Below.refl _ _).alloc (Nat.le_refl _) _
  have hsz : (w.alloc (.cells (byteCells s.2).toArray 5)).heap.size = w.heap.size + 1 := by simp
  refine ⟨k, hk, fun j hj => ?_, ?_, fun q hq hlq => ?_⟩
  · rw [upd_other _ _ (fun e => hi (by rw [← e]; exact get_mem hj))]; exact hl j hj
  · rw [Chain.row_upd hi hk]; exact ht.upto hb
  · rw [Chain.row_upd hi hk]
    by_cases e : q.1 = s.1
    · obtain rfl : q = s := by
        have hp := List.pairwise_map.1 h2
        rcases List.mem_iff_getElem.1 hq with ⟨i1, b1, e1⟩
        rcases List.mem_iff_getElem.1 hm with ⟨i2, b2, e2⟩
        have : i1 = i2 := by
          have hh : (C.side.map (·.1))[i1]'(by simpa using b1) = (C.side.map (·.1))[i2]'(by simpa using b2) := by simp [e1, e2, e]
          exact nodup_inj h2 _ _ hh
        subst this
        rw [← e1, ← e2]
      refine ⟨w.heap.size, by rw [upd_same], fun j u hu => ?_, fun e => ?_, by omega⟩
      · exact cell_new _ _ _ j u (by simpa using hu)
      · have := (ht.own.lt _ e.symm).2
        omega
    · rw [upd_other _ _ e] at hlq
      obtain ⟨t, g1, g2, g3, g4⟩ := hside q hq hlq
      exact ⟨t, by rw [upd_other _ _ e]; exact g1, fun j u hu => (hb.cell (p := ⟨t, j, none⟩) g4).trans (g2 j u hu), g3, by omega⟩
/-- Where the row is, when the next operation of the chain comes up. -/
theorem Chain.Far.at {C : Chain} {l : Nat → Bool} {vs : Nat → Value} {w : World} (h : C.Far base n v xs w0 l vs w) {j : Nat} (hj : j < C.pos.length) (h0 : l (C.pos.getD j 0) = false) (h1 : j = 0 ∨ l (C.pos.getD (j - 1) 0) = true) :
    Told base n xs v w0 (C.sofar j) (C.row v vs j) w ∧ ∀ s ∈ C.side, l s.1 = true → ∃ t, vs s.1 = .slice (some ⟨t, 0, none⟩) s.2.length s.2.length ∧ (∀ j u, (byteCells s.2)[j]? = some u → w.cell? ⟨t, j, none⟩ = some u) := by
  obtain ⟨k, hk, hl, ht, hside⟩ := h
  have a1 := hl j hj
  rw [h0] at a1
  have a2 : ¬ j < k := by simpa using a1.symm
  have : k = j := by
    rcases h1 with rfl | h1
    · omega
    · have a3 := hl (j - 1) (by omega)
      rw [h1] at a3
      have a4 : j - 1 < k := by simpa using a3.symm
      omega
  subst this
  exact ⟨ht, fun s hm hls => by obtain ⟨t, g1, g2, _⟩ := hside s hm hls; exact ⟨t, g1, g2⟩⟩
/-- The row is handed on. -/
theorem Chain.Far.on {C : Chain} {l : Nat → Bool} {vs : Nat → Value} {w w' : World} {u : Value} (hap : C.apart = true) (h : C.Far base n v xs w0 l vs w) {j : Nat} (hj : j < C.pos.length) (h0 : l (C.pos.getD j 0) = false) (h1 : j = 0 ∨ l (C.pos.getD (j - 1) 0) = true)
    (hu : Told base (n + (C.sofar j).length) (xs ++ byteCells (C.sofar j)) (C.row v vs j) w (C.add.getD j []) u w') : C.Far base n v xs w0 (upd l (C.pos.getD j 0) true) (upd vs (C.pos.getD j 0) u) w' := by
  have hap0 := hap
  simp only [Chain.apart, Bool.and_eq_true, decide_eq_true_eq] at hap
  obtain ⟨⟨n1, n2, n3⟩, n4⟩ := hap
  obtain ⟨k, hk, hl, ht, hside⟩ := h
  have a1 := hl j hj
  rw [h0] at a1
  have a2 : ¬ j < k := by simpa using a1.symm
  have : k = j := by
    rcases h1 with rfl | h1
    · omega
    · have a3 := hl (j - 1) (by omega)
      rw [h1] at a3
      have a4 : j - 1 < k := by simpa using a3.symm
      omega
  subst this
  have hso : C.sofar (k + 1) = C.sofar k ++ C.add.getD k [] := by
    unfold Chain.sofar
    rw [List.take_add_one, List.flatten_append, List.getD_eq_getElem?_getD, List.getElem?_eq_getElem (by omega)]
    simp only [Option.toList_some, List.flatten_cons, List.flatten_nil, List.append_nil, Option.getD_some]
  have hro : C.row v (upd vs (C.pos.getD k 0) u) (k + 1) = u := by show upd vs _ u _ = u; rw [upd_same]
  refine ⟨k + 1, by omega, fun i hi => ?_, ?_, fun s hm hls => ?_⟩
  · by_cases e : i = k
    · subst e; rw [upd_same]; simp
    · rw [upd_other _ _ (Chain.get_ne n1 hi hj e), hl i hi]
      simp only [decide_eq_decide]; omega
  · rw [hro, hso]; exact ht.trans hu
  · have hne : s.1 ≠ C.pos.getD k 0 := fun e => n3 s hm (by rw [e]; exact get_mem hj)
    rw [upd_other _ _ hne] at hls
    obtain ⟨t, g1, g2, g3, g4⟩ := hside s hm hls
    have hblk : w'.heap[t]? = w.heap[t]? := hu.grown.block t g4 g3
    refine ⟨t, by rw [upd_other _ _ hne]; exact g1, fun i c hc => (World.cell?_of_block (a := ⟨t, i, none⟩) hblk).trans (g2 i c hc), ?_, Nat.lt_of_lt_of_le g4 hu.grown.size⟩
    rw [hro]
    intro e
    rcases hu.place with p | ⟨g, p1, p2⟩
    · exact g3 (e.trans p)
    · rw [p1] at e
      have : t = g := by simpa using e
      omega
theorem Chain.Far.start {C : Chain} {vs : Nat → Value} (hown : w0.ownsRow base 5 1 v n xs) : C.Far base n v xs w0 (fun _ => false) vs w0.drew :=
  ⟨0, Nat.zero_le _, fun j _ => by simp, (told_nil hown).upto (Below.refl _ _).drew, fun s _ h => by cases h⟩
theorem Chain.Far.end {C : Chain} {l : Nat → Bool} {vs : Nat → Value} {w : World} (h : C.Far base n v xs w0 l vs w) (hl : ∀ j, j < C.pos.length → l (C.pos.getD j 0) = true) : Told base n xs v w0 (C.sofar C.pos.length) (C.row v vs C.pos.length) w := by
  obtain ⟨k, hk, g, ht, _⟩ := h
  have : k = C.pos.length := by
    by_cases h0 : C.pos.length = 0
    · omega
    · have a := g (C.pos.length - 1) (by omega)
      rw [hl _ (by omega)] at a
      have : C.pos.length - 1 < k := by simpa using a.symm
      omega
  subst this
  exact ht
end Go.Proofs.YtbjcdpenfijfoaaGreatDoor

