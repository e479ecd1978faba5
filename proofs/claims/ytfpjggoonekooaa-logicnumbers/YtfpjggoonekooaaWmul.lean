/- Contract of WideMul at two numbers of four digits. -/
import Derived.Test.YtfpjggoonekooaaRef
import Derived.Laws.OwnMore
import Derived.OneCell
namespace Go.Proofs.Ytfpjggoonekooaa
open Go.RowKit Go.WideShapes
set_option linter.unusedVariables false

theorem make9 (w : World) : (Instr.makeSlice 56 (.int .i64 9) (.int .i64 9)).run Try.prog w = .ok (.slice (some ⟨w.heap.size, 0, none⟩) 9 9) (w.alloc (.cells #[.int .i64 0, .int .i64 0, .int .i64 0, .int .i64 0, .int .i64 0, .int .i64 0, .int .i64 0, .int .i64 0, .int .i64 0] 3)) := by kernel_rfl

theorem dv_set {os : List Int} (j : Nat) (d : Int) (h : j < os.length) : dv (os.set j d) = dv os + (d - os.getD j 0) * 65536 ^ j := by
  induction os generalizing j with
  | nil => simp at h
  | cons a r ih =>
    cases j with
    | zero => simp only [List.set_cons_zero, dv, List.getD_cons_zero, Int.pow_zero]; omega
    | succ j =>
      simp only [List.set_cons_succ, dv, List.getD_cons_succ, Int.pow_succ]
      rw [ih j (by simp at h; omega), Int.mul_add, ← Int.mul_assoc, Int.mul_comm 65536 (d - _), Int.mul_assoc, Int.mul_comm 65536 (65536 ^ j)]
      omega
theorem isDig_set {os : List Int} {j : Nat} {d : Int} (h : IsDig os) (h1 : 0 ≤ d) (h2 : d ≤ 65535) : IsDig (os.set j d) := by
  intro x hx
  rcases List.mem_or_eq_of_mem_set hx with hx | rfl
  · exact h x hx
  · exact ⟨h1, h2⟩
theorem dv_split (es : List Int) (k : Nat) : dv es = dv (es.take k) + 65536 ^ k * dv (es.drop k) := by
  induction k generalizing es with
  | zero => simp [dv]
  | succ k ih =>
    cases es with
    | nil => simp [dv]
    | cons a r =>
      simp only [List.take_succ_cons, List.drop_succ_cons, dv, Int.pow_succ]
      rw [ih r, Int.mul_add, ← Int.mul_assoc, Int.mul_comm 65536 (65536 ^ k)]
      omega
theorem dv_take_le {es : List Int} (h : IsDig es) (k : Nat) : dv (es.take k) ≤ dv es := by
  have h1 := dv_split es k
  have h2 := dv_nn (isDig_drop h k)
  have h3 := Int.mul_nonneg (Int.le_of_lt (pow_pos' k)) h2
  omega
theorem isDig_take {ds : List Int} (h : IsDig ds) (k : Nat) : IsDig (ds.take k) := fun d hd => h d (List.mem_of_mem_take hd)

/-- One carry of a product's digit. -/
theorem carry_step {os : List Int} {s T : Int} {j : Nat} (h : dv os + s * 65536 ^ j = T) (hj : j < os.length) (o : Int) (ho : os.getD j 0 = o) :
    dv (os.set j ((s + o) % 65536)) + (s + o) / 65536 * 65536 ^ (j + 1) = T := by
  rw [dv_set j _ hj, ho, Int.pow_succ, ← h]
  generalize (65536 : Int) ^ j = P
  obtain ⟨q, hq⟩ : ∃ q, s + o = q := ⟨_, rfl⟩
  rw [hq]
  have e : s * P = (q - o) * P := by rw [← hq]; congr 1; omega
  have e2 : (q - o) * P = (q % 65536 - o) * P + q / 65536 * (P * 65536) := by
    have h0 : q - o = (q % 65536 - o) + q / 65536 * 65536 := by omega
    rw [h0, Int.add_mul, Int.mul_assoc, Int.mul_comm 65536 P]
  omega
theorem pow_ge (j : Nat) : (1 : Int) ≤ 65536 ^ j := by have := pow_pos' j; omega
theorem place_lt {D s T : Int} {j : Nat} (h : D + s * 65536 ^ j = T) (hD : 0 ≤ D) (hs : 1 ≤ s) (hT : T < 65536 ^ 9) : j < 9 := by
  by_cases hj : j < 9
  · exact hj
  · have e : j = 9 + (j - 9) := by omega
    have e2 : (65536 : Int) ^ j = 65536 ^ 9 * 65536 ^ (j - 9) := by rw [← Int.pow_add, ← e]
    have h1 := pow_ge (j - 9)
    have h2 : (65536 : Int) ^ 9 * 1 ≤ 65536 ^ 9 * 65536 ^ (j - 9) := Int.mul_le_mul_of_nonneg_left h1 (Int.le_of_lt (pow_pos' 9))
    have h3 : 1 * (65536 : Int) ^ j ≤ s * 65536 ^ j := Int.mul_le_mul_of_nonneg_right hs (Int.le_of_lt (pow_pos' j))
    omega

/-- What is summed so far: all of the first i digits, and the i-th times the first k. -/
def soFar (ds es : List Int) (i k : Nat) : Int := dv (ds.take i) * dv es + ds.getD i 0 * 65536 ^ i * dv (es.take k)

theorem soFar_zero (ds es : List Int) (i : Nat) : soFar ds es i 0 = dv (ds.take i) * dv es := by simp [soFar, dv]
theorem soFar_next {ds es : List Int} {i k : Nat} : soFar ds es i (k + 1) = soFar ds es i k + ds.getD i 0 * es.getD k 0 * 65536 ^ (i + k) := by
  unfold soFar
  rw [dv_take_succ, Int.pow_add, Int.mul_add]
  generalize ds.getD i 0 = x
  generalize es.getD k 0 = y
  generalize (65536 : Int) ^ i = P
  generalize (65536 : Int) ^ k = Q
  have e : x * P * (Q * y) = x * y * (P * Q) := by
    rw [Int.mul_comm Q y, ← Int.mul_assoc, Int.mul_assoc x P y, Int.mul_comm P y, ← Int.mul_assoc, Int.mul_assoc]
  omega
theorem soFar_end {ds es : List Int} {i : Nat} (h : es.length = 4) : soFar ds es i 4 = soFar ds es (i + 1) 0 := by
  rw [soFar_zero]
  unfold soFar
  rw [show es.take 4 = es from List.take_of_length_le (by omega), dv_take_succ ds i, Int.add_mul, Int.mul_comm (65536 ^ i)]
theorem soFar_lt {ds es : List Int} (h1 : IsDig ds) (h2 : IsDig es) (l1 : ds.length = 4) (l2 : es.length = 4) (i k : Nat) : soFar ds es i k < 65536 ^ 9 := by
  have a1 := dv_take_le h2 k
  have a2 := dv_take_le h1 (i + 1)
  have a3 := dv_nn h2
  have a4 := dv_lt_pow h1
  have a5 := dv_lt_pow h2
  have a6 := dv_nn (isDig_take h1 i)
  have a7 := dv_nn (isDig_take h1 (i + 1))
  have a8 := dv_nn h1
  have hx := isDig_getD h1 i
  have hP := Int.mul_nonneg hx.1 (Int.le_of_lt (pow_pos' i))
  have b1 : soFar ds es i k ≤ dv (ds.take (i + 1)) * dv es := by
    unfold soFar
    rw [dv_take_succ, Int.add_mul, Int.mul_comm (65536 ^ i)]
    have := Int.mul_le_mul_of_nonneg_left a1 hP
    omega
  rw [l1] at a4
  rw [l2] at a5
  have e4 : (65536 : Int) ^ 4 = 18446744073709551616 := by decide
  have e9 : (65536 : Int) ^ 9 = 22300745198530623141535718272648361505980416 := by decide
  rw [e4] at a4 a5
  rw [e9]
  have b2 := (mul_le' (c := 18446744073709551615) (d := 18446744073709551615) a7 (by omega) a3 (by omega)).2
  omega

/-- The structs of WideMul and the row of nine digits that is being filled: blocks S and G. -/
structure Nine (B G S : Nat) (va vb : Value) (neg : Bool) (os : List Int) (wr : World) : Prop where
  size : B + 5 ≤ wr.heap.size
  a1 : wr.cell? ⟨B, 1, none⟩ = some va
  b1 : wr.cell? ⟨B + 1, 1, none⟩ = some vb
  r0 : wr.cell? ⟨B + 1 + 1, 0, none⟩ = some (.bool false)
  r1 : wr.cell? ⟨B + 1 + 1, 1, none⟩ = some (.slice none 0 0)
  o0 : wr.cell? ⟨S, 0, none⟩ = some (.bool neg)
  o1 : wr.cell? ⟨S, 1, none⟩ = some (.slice (some ⟨G, 0, none⟩) 9 9)
  fr0 : wr.frozen? ⟨B + 1 + 1, 0, none⟩ = false
  fr1 : wr.frozen? ⟨B + 1 + 1, 1, none⟩ = false
  row : wr.ownsRow 0 3 1 (.slice (some ⟨G, 0, none⟩) 9 9) 9 (os.map (Value.int .i64))

theorem Nine.drewN {B G S : Nat} {va vb : Value} {neg : Bool} {os : List Int} {wr : World} (h : Nine B G S va vb neg os wr) (q : Nat) : Nine B G S va vb neg os (wr.drewN q) :=
  ⟨h.size, h.a1, h.b1, h.r0, h.r1, h.o0, h.o1, h.fr0, h.fr1, h.row⟩
theorem Nine.set {B G S : Nat} {va vb : Value} {neg : Bool} {os : List Int} {wr : World} (h : Nine B G S va vb neg os wr) (hG : B + 1 + 1 < G) (hS : G ≠ S) (j : Nat) (d : Int) : Nine B G S va vb neg (os.set j d) (wr.setCell ⟨G, j, none⟩ (.int .i64 d)) where
  size := by simpa using h.size
  a1 := (World.cell?_setCell_other _ _ _ _ (addr_ne (by omega))).trans h.a1
  b1 := (World.cell?_setCell_other _ _ _ _ (addr_ne (by omega))).trans h.b1
  r0 := (World.cell?_setCell_other _ _ _ _ (addr_ne (by omega))).trans h.r0
  r1 := (World.cell?_setCell_other _ _ _ _ (addr_ne (by omega))).trans h.r1
  o0 := (World.cell?_setCell_other _ _ _ _ (addr_ne hS)).trans h.o0
  o1 := (World.cell?_setCell_other _ _ _ _ (addr_ne hS)).trans h.o1
  fr0 := (World.frozen?_setCell _ _ _ _).trans h.fr0
  fr1 := (World.frozen?_setCell _ _ _ _).trans h.fr1
  row := by have := (h.row.stored j (.int .i64 d)).1; rwa [← List.map_set] at this
theorem Nine.at {B G S : Nat} {va vb : Value} {neg : Bool} {os : List Int} {wr : World} (h : Nine B G S va vb neg os wr) (hl : os.length = 9) (j : Nat) (hj : j < 9) : wr.cell? ⟨G, j, none⟩ = some (.int .i64 (os.getD j 0)) ∧ wr.frozen? ⟨G, j, none⟩ = false := by
  refine ⟨?_, h.row.frozenAt j⟩
  have := h.row.cells (g := G) rfl j (.int .i64 (os[j]'(by omega))) (by simp [show j < os.length by omega])
  rw [add_plain] at this
  simpa [List.getD, show j < os.length by omega] using this
theorem Nine.fin {B G S : Nat} {va vb : Value} {neg : Bool} {os : List Int} {wr : World} {w : World} {N : Int} (h : Nine B G S va vb neg os wr) (hB : B = w.heap.size) (hG : B + 1 + 1 < G) (hl : os.length = 9) (hd : IsDig os) (hb : Below w.heap.size w wr) (hN : sg neg (dv os) = N) :
    WideSays w N 9 (.returned (.agg #[.bool neg, .slice (some ⟨G, 0, none⟩) 9 9])) ((wr.setCell ⟨B + 1 + 1, 0, none⟩ (.bool neg)).setCell ⟨B + 1 + 1, 1, none⟩ (.slice (some ⟨G, 0, none⟩) 9 9)) := by
  subst hB
  refine ⟨neg, _, os, rfl, ?_, ⟨?_, hd⟩, by omega, hN⟩
  · exact (hb.setCell (p := ⟨w.heap.size + 1 + 1, 0, none⟩) (by show w.heap.size ≤ w.heap.size + 1 + 1; omega) _).setCell (p := ⟨w.heap.size + 1 + 1, 1, none⟩) (by show w.heap.size ≤ w.heap.size + 1 + 1; omega) _
  · rw [hl]
    exact ownsRow_setCell_other (ownsRow_setCell_other h.row (a := ⟨w.heap.size + 1 + 1, 0, none⟩) (by simp [Value.ownBlock]; omega) _) (a := ⟨w.heap.size + 1 + 1, 1, none⟩) (by simp [Value.ownBlock]; omega) _

theorem zeros9 : IsDig [0, 0, 0, 0, 0, 0, 0, 0, 0] ∧ dv [0, 0, 0, 0, 0, 0, 0, 0, 0] = 0 := by
  refine ⟨?_, rfl⟩
  intro d hd
  simp at hd
  omega
end Go.Proofs.Ytfpjggoonekooaa
