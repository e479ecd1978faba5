/- The law LogicSteps: what is needed of ranges, and of values that are numbers. -/
import Derived.Test.YtbpmhgcjefpigaaDoorIn
import Derived.Laws.AppendOwnNone
namespace Go.Proofs.YtbpmhgcjefpigaaDoor
open Go.RowKit Go.WideShapes
set_option linter.unusedVariables false

/-- The numbers of a range: a step apart, inside, not beyond. -/
theorem rgo_facts (tt step : Int) : ∀ (k : Nat) (x : Int), inside x = true →
    (∀ j, j + 1 < (rgo tt step k x).length → (rgo tt step k x).getD (j + 1) 0 = (rgo tt step k x).getD j 0 + step) ∧
    (∀ j, j < (rgo tt step k x).length → beyond tt step ((rgo tt step k x).getD j 0) = false ∧ inside ((rgo tt step k x).getD j 0) = true) ∧
    (0 < (rgo tt step k x).length → (rgo tt step k x).getD 0 0 = x) ∧
    ((rgo tt step k x).length < k → 0 < (rgo tt step k x).length → inside ((rgo tt step k x).getD ((rgo tt step k x).length - 1) 0 + step) = false ∨ beyond tt step ((rgo tt step k x).getD ((rgo tt step k x).length - 1) 0 + step) = true)
  | 0, x, _ => by simp [rgo]
  | k + 1, x, hx => by
    cases hb : beyond tt step x with
    | true => rw [rgo_end hb]; simp
    | false =>
      cases hi : inside (x + step) with
      | false => rw [rgo_last hb hi]; simp [hb, hx, hi]
      | true =>
        obtain ⟨f1, f2, f3, f4⟩ := rgo_facts tt step k (x + step) hi
        rw [rgo_on hb hi]
        refine ⟨?_, ?_, ?_, ?_⟩
        · intro j hj
          cases j with
          | zero =>
            simp only [List.length_cons] at hj
            simp only [List.getD_cons_succ, List.getD_cons_zero]
            exact f3 (by omega)
          | succ j =>
            simp only [List.length_cons] at hj
            simp only [List.getD_cons_succ]
            exact f1 j (by omega)
        · intro j hj
          cases j with
          | zero => simp [hb, hx]
          | succ j =>
            simp only [List.length_cons] at hj
            simp only [List.getD_cons_succ]
            exact f2 j (by omega)
        · intro _; simp
        · intro h1 _
          simp only [List.length_cons] at h1 ⊢
          by_cases hz : (rgo tt step k (x + step)).length = 0
          · rw [hz]
            have : rgo tt step k (x + step) = [] := List.length_eq_zero_iff.1 hz
            simp only [Nat.zero_add, Nat.sub_self, List.getD_cons_zero]
            right
            cases k with
            | zero => omega
            | succ k =>
              cases hb2 : beyond tt step (x + step) with
              | true => rfl
              | false => have := rgo_pos (k := k) hb2; omega
          · rw [show (rgo tt step k (x + step)).length + 1 - 1 = ((rgo tt step k (x + step)).length - 1) + 1 from by omega, List.getD_cons_succ]
            exact f4 (by omega) (by omega)

theorem rgo_none {tt step x : Int} {k : Nat} (h : (rgo tt step (k + 1) x).length = 0) : beyond tt step x = true := by
  cases hb : beyond tt step x with
  | true => rfl
  | false => have := rgo_pos (k := k) hb; omega

theorem Tryd.info30 : (Tryd.prog.info? 30).map (fun i => (i.zero, i.size, i.bytes)) = some (some (.agg #[.int .i64 0, .bool false, .int .i64 0, .string ⟨#[]⟩, .slice none 0 0, .slice none 0 0]), 6, 88) := by kernel_rfl

/-- The cells of a number's value. -/
def numCells (z : Int) : List Value := [.int .i64 2, .bool false, .int .i64 z, .string ⟨#[]⟩, .slice none 0 0, .slice none 0 0]
abbrev numT (z : Int) : Tree := leafT 2 false z

theorem nums_len (zs : List Int) : (zs.flatMap numCells).length = zs.length * 6 := by
  induction zs with
  | nil => rfl
  | cons z r ih => rw [List.flatMap_cons, List.length_append, ih]; simp [numCells]; omega

theorem nums_kids {w : World} {g : Nat} (B : Nat) : ∀ (zs : List Int) (off : Nat), (∀ j u, (zs.flatMap numCells)[j]? = some u → w.cell? ⟨g, off + j, none⟩ = some u) → KidsLie B w g off (zs.map numT)
  | [], off, _ => by simp only [List.map_nil, KidsLie]
  | z :: r, off, h => by
    simp only [List.map_cons, KidsLie]
    have h' : ∀ j u, (numCells z)[j]? = some u → w.cell? ⟨g, off + j, none⟩ = some u := fun j u hj => h j u (by
      rw [List.flatMap_cons, List.getElem?_append_left (List.getElem?_eq_some_iff.1 hj).1]; exact hj)
    refine ⟨⟨_, _, _, _, _, _, ⟨h' 0 _ rfl, h' 1 _ rfl, h' 2 _ rfl, h' 3 _ rfl, h' 4 _ rfl, h' 5 _ rfl⟩, leaf_lies B w 2 false z⟩, nums_kids B r (off + 6) fun j u hj => ?_⟩
    have := h (6 + j) u (by
      rw [List.flatMap_cons, List.getElem?_append_right (by simp [numCells])]
      simpa [numCells] using hj)
    rwa [show off + 6 + j = off + (6 + j) from by omega]

theorem row_kids {w : World} {base : Nat} {v : Value} {zs : List Int} (h : w.ownsRow base 30 6 v zs.length (zs.flatMap numCells)) :
    ∃ la cap, v = .slice la zs.length cap ∧ zs.length ≤ cap ∧ cap ≤ maxLen ∧ ListLies w.heap.size w la (zs.map numT) := by
  have ho := h
  obtain ⟨h1, ⟨rfl, h2⟩ | ⟨g, cap, cur, rfl, h3, h4, h5, h6, h7⟩⟩ := h
  · exact ⟨none, 0, by rw [h2], by omega, Nat.zero_le _, .inl (by rw [List.length_eq_zero_iff.1 h2]; rfl)⟩
  · refine ⟨_, cap, rfl, h5, h6, .inr ⟨g, 0, rfl, (ho.lt g rfl).2, nums_kids _ zs 0 fun j u hj => ?_⟩⟩
    have := ho.cells (g := g) rfl j u hj
    rwa [add_plain] at this

theorem num_modest (z : Int) : Modest (numT z) := ⟨by rw [leaf_height]; omega, by rw [leaf_bytes]; omega⟩
theorem eq_nums (a b : Int) : equalN (numT a) (numT b) = truthI (cmpI a b == 0) := by
  unfold equalN
  rw [if_pos ⟨leaf_check 2 false a (shaped_number a), leaf_check 2 false b (shaped_number b)⟩, eqT]
  simp [ordT, rankN, cmpI_self]
theorem eq_nothing (b : Int) : equalN (leafT 0 false 0) (numT b) = 1 := by
  unfold equalN
  rw [if_pos ⟨leaf_check 0 false 0 shaped_nothing, leaf_check 2 false b (shaped_number b)⟩, eqT]
  simp
theorem orL_first (r : List Int) : orL (2 :: r) = 2 := by
  show List.foldl _ (tb 0 1 2 1 1 2 2 2 2 0 (kn 2)) r = 2
  exact orL_stays r
theorem in_first {zs : List Int} {z : Int} (h0 : 0 < zs.length) (h : zs.getD 0 0 = z) : inN (numT z) (zs.map numT) = 2 := by
  match zs, h0, h with
  | y :: r, _, h =>
    simp only [List.getD_cons_zero] at h
    subst h
    unfold inN
    simp only [List.map_cons, eq_nums, cmpI_self]
    exact orL_first _
theorem in_none (z : Int) : inN (numT z) ([].map numT) = 0 := rfl
theorem orL_ones : ∀ (n : Nat), List.foldl (fun a z => tb 0 1 2 1 1 2 2 2 2 a (kn z)) 1 (List.replicate n 1) = 1
  | 0 => rfl
  | n + 1 => by
    rw [List.replicate_succ, List.foldl_cons]
    exact orL_ones n
theorem in_nothing {zs : List Int} (h0 : 0 < zs.length) : inN (leafT 0 false 0) (zs.map numT) = 1 := by
  unfold inN
  have : (zs.map numT).map (equalN (leafT 0 false 0)) = List.replicate zs.length 1 := by
    rw [List.map_map]
    exact List.eq_replicate_iff.2 ⟨by simp, by intro b hb; obtain ⟨z, _, rfl⟩ := List.mem_map.1 hb; exact eq_nothing z⟩
  rw [this]
  match hn : zs.length, h0 with
  | n + 1, _ => rw [List.replicate_succ]; exact orL_ones n
end Go.Proofs.YtbpmhgcjefpigaaDoor
