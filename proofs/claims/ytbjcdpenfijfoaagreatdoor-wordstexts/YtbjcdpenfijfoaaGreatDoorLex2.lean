/- Lex: what it answers. -/
import Derived.Test.YtbjcdpenfijfoaaGreatDoorJoin10
namespace Go.Proofs.YtbjcdpenfijfoaaGreatDoor
open Go.RowKit Go.Shelf Go.Lexed
set_option linter.unusedVariables false
set_option linter.unusedSimpArgs false
attribute [local go_sem] Oper.semAt_some
/-- Words lie in a slice. -/
def Lie4 (B : Nat) (w : World) (v : Value) (xs : List W4) : Prop :=
  ∃ ad cap, v = .slice ad xs.length cap ∧ xs.length ≤ cap ∧ cap ≤ 9223372036854775807 ∧ (xs = [] ∨ ∃ bl off, ad = some ⟨bl, off, none⟩ ∧ bl < B ∧ ∀ j u, (cells4 xs)[j]? = some u → w.cell? ⟨bl, off + j, none⟩ = some u)
theorem Lie4.below {B C : Nat} {w w' : World} {v : Value} {xs : List W4} (h : Lie4 B w v xs) (hb : Below C w w') (hC : B ≤ C) : Lie4 B w' v xs := by
  obtain ⟨ad, cap, h1, h2, h3, h4⟩ := h
  refine ⟨ad, cap, h1, h2, h3, h4.imp id fun ⟨bl, off, e, hl, hc⟩ => ⟨bl, off, e, hl, fun j u hj => ?_⟩⟩
  exact (hb.cell (p := ⟨bl, off + j, none⟩) (by show bl < C; omega)).trans (hc j u hj)
theorem Lie4.mono {B C : Nat} {w : World} {v : Value} {xs : List W4} (h : Lie4 B w v xs) (hC : B ≤ C) : Lie4 C w v xs := by
  obtain ⟨ad, cap, h1, h2, h3, h4⟩ := h
  exact ⟨ad, cap, h1, h2, h3, h4.imp id fun ⟨bl, off, e, hl, hc⟩ => ⟨bl, off, e, by omega, hc⟩⟩
theorem Lie4.row {base : Nat} {w : World} {v : Value} {xs : List W4} (h : w.ownsRow base 33 4 v xs.length (cells4 xs)) : Lie4 w.heap.size w v xs := by
  have h0 := h
  obtain ⟨g1, ⟨g2, g3⟩ | ⟨g, cap, cur, g2, g3, g4, g5⟩⟩ := h
  · have e : xs = [] := List.eq_nil_of_length_eq_zero g3
    subst e
    exact ⟨none, 0, g2, Nat.le_refl _, by decide, .inl rfl⟩
  · refine ⟨_, cap, g2, g5.1, ?_, .inr ⟨g, 0, rfl, (Array.getElem?_eq_some_iff.1 g4).1, fun j u hj => ?_⟩⟩
    · have := g5.2.1; unfold maxLen at this; omega
    · subst g2
      have := h0.cells (g := g) rfl j u hj
      have hadd : (⟨g, 0, none⟩ : Addr).add j = ⟨g, j, none⟩ := by unfold Addr.add; split <;> simp_all
      rw [hadd] at this
      rw [Nat.zero_add]; exact this
theorem lex_count (U : List UInt8 → Bool) : ∀ (n : Nat) (l : List UInt8), l.length ≤ n → (lexB U l).1.length ≤ l.length := by
  intro n
  induction n with
  | zero =>
    intro l hl
    have e : l = [] := List.eq_nil_of_length_eq_zero (by omega)
    subst e
    rw [lex_end U (by rw [skipB.eq_def])]; simp
  | succ n ih =>
    intro l hl
    rcases lex_cases U l with ⟨r, h⟩ | h | ⟨r, h, hr, hw⟩ | ⟨r, p, h, hr, hw, hp⟩
    · rw [lex_bad U h]; simp
    · rw [lex_end U h]; simp
    · rw [lex_none U h hr hw]; simp
    · rw [lex_of U h hr hw]
      have := ih p.2 (by omega)
      simp only [List.length_cons]
      omega
theorem lexP_len (s : ByteArray) : (lexP s).length ≤ s.size := by
  unfold lexP lexQ
  rw [List.length_map]
  have := lex_count Lib.validD _ (suf s 0) (Nat.le_refl _)
  rw [suf_len] at this
  exact this
/-- What Lex answers. -/
def LexTo (s : ByteArray) (w : World) (e : Ending) (w' : World) : Prop :=
  Below w.heap.size w w' ∧ ((lexO s = none ∧ ∃ v, e = .returned (.tuple #[v, .int .i64 0, .int .i64 0]) ∧ Lie4 w'.heap.size w' v ((lexP s).map toW4)) ∨ (∃ j : Nat, j ≤ s.size ∧ lexO s = some (s.size - j) ∧ e = .returned (.tuple #[.slice none 0 0, .int .i64 (j : Int), .int .i64 130])))
set_option maxRecDepth 100000 in
set_option maxHeartbeats 2000000 in
theorem lex_any (s : ByteArray) (hs : s.size ≤ 1048576) (w : World) (hE : Env w) : Calls Tryz.prog 12 #[.string s] w fun e w' => LexTo s w e w' := by
  refine (callsIn_wide (n := 0)).1 ?_
  obtain ⟨F, hF⟩ : ∃ F, F = Fence.wide := ⟨_, rfl⟩
  rw [← hF]
  have hd : F.depth = none := by rw [hF]; rfl
  have hro : F.round = none := by rw [hF]; rfl
  have hfn : ∀ f, F.fn f := by rw [hF]; exact fun _ => trivial
  have HF : Hid (F = Fence.wide) := hF
  clear hF
  have HE := hidE hE
  have h8 := hE.room
  clear hE
  refine callsIn_of_wp Tryz.func12 rfl (hfn _) ?_ hro
  simp only [Tryz.ntmps12, List.size_toArray, List.length_cons, List.length_nil, Nat.reduceAdd, Nat.reduceSub, Array.replicate_succ, Array.replicate_zero, List.push_toArray, List.append_toArray, List.nil_append, List.cons_append]
  gi_wp2_with fail
  generalize hW0 : World.alloc _ _ = W0
  have HB0 : Hid (Below w.heap.size w W0) := by rw [← hW0]; exact (Below.refl _ _).alloc (Nat.le_refl _) _
  have HX0 : Hid (Boxed W0 w.heap.size 23 (.slice none 0 0)) := by rw [← hW0]; exact World.alloc_heap_new _ _
  have hz0 : W0.heap.size = w.heap.size + 1 := by rw [← hW0]; simp
  clear hW0
  have hea := EachL_any HF hd hro hfn s hs w.heap.size W0 (by omega) (J := fun pre W => Env W ∧ Below w.heap.size w W ∧ ∃ v, Boxed W w.heap.size 23 v ∧ W.ownsRow (w.heap.size + 2) 33 4 v pre.length (cells4 (pre.map toW4))) (Jx := fun _ => False)
    (fun pre W h => h.1)
    (fun pre W W' ⟨h1, h2, v, h3, h4⟩ hlt hf => ⟨h1.fr hf (by omega) h1.room, h2.trans (hf.below (by have := h2.size; omega) (by omega)), v, (hf.block _ h3.lt (by omega)).trans h3, row_keep h4 fun g hg hl => hf.block g hl (by omega)⟩)
    (fun m pre d p W ⟨h1, h2, v, h3, h4⟩ hlt hpre hdl => by
      have hpl := hpre.length_le
      have := lexP_len s
      rw [List.length_append] at hpl
      refine in_wide HF.out ?_
      rw [toW4_val]
      refine (lex1_any w.heap.size (w.heap.size + 2) pre.length v (cells4 (pre.map toW4)) (toW4 (d, p)) (pre.length : Int) W h3 h4 (by omega) (by omega) (by omega)).mono ?_
      rintro e W' ⟨rfl, v', h5, h6, h7⟩
      refine .inl ⟨rfl, ⟨h1.fr h7 h8 (by omega), h2.trans (h7.below (by omega) (Nat.le_refl _)), v', h5, ?_⟩, ?_⟩
      · rw [List.map_append, List.map_cons, List.map_nil, cells4_snoc, List.length_append]
        exact h6
      · exact h7.block _ (by omega) (by omega))
    ⟨HE.out.below HB0.out h8, HB0.out, _, HX0.out, World.ownsRow_nil _ _ _ _⟩ (0 - 1)
  refine hea.mono ?_
  clear hea
  rintro e w1 (⟨rfl, ho, h1, h2, v, h3, h4⟩ | ⟨j, hj, rfl, ho, h1, h2, v, h3, h4⟩ | ⟨_, hx⟩)
  · have HO := hidE ho
    have HB1 := hidE h2
    have HL := hidE (Lie4.row (xs := (lexP s).map toW4) (by rw [List.length_map]; exact h4))
    have cb := h3.cell
    clear ho h1 h2 h3 h4
    gi_wp2_with fail
    refine bodyPost_ret (v := .tuple #[v, .int .i64 0, .int .i64 0]) ?_ rfl ?_
    · simp [results, Tryz.results12, go_sem]
    · exact ⟨HB1.out, .inl ⟨HO.out, v, rfl, HL.out⟩⟩
  · have HO := hidE ho
    have HB1 := hidE h2
    clear ho h1 h2 h3 h4
    gi_wp2_with fail
    refine bodyPost_ret (v := .tuple #[.slice none 0 0, .int .i64 (j : Int), .int .i64 130]) ?_ rfl ?_
    · simp [results, Tryz.results12, go_sem]
    · exact ⟨HB1.out, .inr ⟨j, hj, HO.out, rfl⟩⟩
  · exact hx.elim
set_option maxRecDepth 100000 in
theorem each_long (s : ByteArray) (hs : 1048576 < s.size) (y : Value) (w : World) : Calls Tryz.prog 31 #[.string s, y] w fun e w' => e = .returned (.tuple #[.int .i64 0, .int .i64 3]) ∧ w' = w := by
  have hs' : (1048576 : Int) < s.size := by omega
  go_enter Tryz.func31, Tryz.ntmps31
  go_wp2_with fail
  go_ret2
  exact ⟨rfl, rfl⟩
set_option maxRecDepth 100000 in
theorem lex_long (s : ByteArray) (hs : 1048576 < s.size) (w : World) : Calls Tryz.prog 12 #[.string s] w fun e w' => e = .returned (.tuple #[.slice none 0 0, .int .i64 0, .int .i64 3]) ∧ Below w.heap.size w w' := by
  go_enter Tryz.func12, Tryz.ntmps12
  go_wp2_with fail
  refine (each_long s hs _ _).mono ?_
  rintro e w1 ⟨rfl, rfl⟩
  go_wp2_with fail
  refine bodyPost_ret (v := .tuple #[.slice none 0 0, .int .i64 0, .int .i64 3]) ?_ rfl ?_
  · simp [results, Tryz.results12, go_sem]
  · exact ⟨rfl, (Below.refl _ _).alloc (Nat.le_refl _) _⟩
end Go.Proofs.YtbjcdpenfijfoaaGreatDoor
