/- Contracts of size and WideAdd: which number is greater, and the sum of two numbers of any size. -/
import Derived.Test.YtfpjggoonekooaaTo64
namespace Go.Proofs.Ytfpjggoonekooaa
open Go.RowKit Go.WideShapes
set_option linter.unusedVariables false

theorem dv_drop' {ds : List Int} (m : Nat) : dv (ds.drop m) = ds.getD m 0 + 65536 * dv (ds.drop (m + 1)) := by
  by_cases h : m < ds.length
  · exact dv_drop h
  · rw [List.drop_eq_nil_of_le (by omega), List.drop_eq_nil_of_le (by omega), getD_out (by omega)]; simp [dv]
theorem dv_lt_up {ds es : List Int} (h1 : IsDig ds) (h2 : IsDig es) (m : Nat) (h : dv (ds.drop m) < dv (es.drop m)) : dv ds < dv es := by
  induction m with
  | zero => simpa using h
  | succ m ih =>
    apply ih
    rw [dv_drop' m, dv_drop' (ds := es) m]
    have := isDig_getD h1 m
    have := isDig_getD h2 m
    omega

/-- Which of two numbers is greater. -/
def SizeSays (ds es : List Int) (e : Ending) : Prop :=
  (e = .returned (.int .i64 (-1)) ∧ dv ds < dv es) ∨ (e = .returned (.int .i64 0) ∧ dv ds = dv es) ∨ (e = .returned (.int .i64 1) ∧ dv es < dv ds)

set_option maxHeartbeats 1600000 in
theorem size_says (va vb : Value) (ds es : List Int) (w : World) (ha : Dig w va ds) (hb : Dig w vb es) (la : ds.length ≤ 1000000) (lb : es.length ≤ 1000000) :
    Calls Try.prog 45 #[va, vb] w fun e w' => SizeSays ds es e ∧ w' = w := by
  have HA : Hid (Dig w va ds) := ha
  have HB : Hid (Dig w vb es) := hb
  obtain ⟨aa, ca, rfl⟩ := ownsRow_slice ha.1
  obtain ⟨ab, cb, rfl⟩ := ownsRow_slice hb.1
  clear ha hb
  go_enter Try.func45, Try.ntmps45
  go_wp2
  all_goals
    go_loop [5] (fun i => ∃ k : Nat, k ≤ 1000000 ∧ i = .int .i64 ((k : Int) - 1) ∧ dv (ds.drop k) = dv (es.drop k)) (fun i => (intOf i + 1).toNat)
    case atStart => first | exact ⟨es.length, lb, rfl, by rw [List.drop_eq_nil_of_le (by omega), List.drop_eq_nil_of_le (by omega)]⟩ | exact ⟨ds.length, la, rfl, by rw [List.drop_eq_nil_of_le (by omega), List.drop_eq_nil_of_le (by omega)]⟩
    case round =>
      obtain ⟨k, hk, rfl, hr⟩ := hrel
      have HR : Hid (dv (ds.drop k) = dv (es.drop k)) := hr
      clear hr
      cases k with
      | zero =>
        have e0 : ((0 : Nat) : Int) - 1 = -1 := by omega
        rw [e0]
        clear e0
        go_wp2
        go_ret
        exact ⟨Or.inr (Or.inl ⟨rfl, by simpa using HR.out⟩), rfl⟩
      | succ m =>
        have e0 : ((m + 1 : Nat) : Int) - 1 = (m : Int) := by omega
        rw [e0]
        clear e0
        have HX : Hid (dv (ds.drop m) = ds.getD m 0 + 65536 * dv (ds.drop (m + 1))) := dv_drop' m
        have HY : Hid (dv (es.drop m) = es.getD m 0 + 65536 * dv (es.drop (m + 1))) := dv_drop' m
        have KA : Hid (∀ wx, wx = w → Calls Try.prog 44 #[.slice aa ds.length ca, .int .i64 m] wx fun e w' => e = .returned (.int .i64 (ds.getD m 0)) ∧ w' = wx) := fun wx hw => by subst hw; exact digit_any _ ds m _ HA.out (by omega)
        have KB : Hid (∀ wx, wx = w → Calls Try.prog 44 #[.slice ab es.length cb, .int .i64 m] wx fun e w' => e = .returned (.int .i64 (es.getD m 0)) ∧ w' = wx) := fun wx hw => by subst hw; exact digit_any _ es m _ HB.out (by omega)
        generalize ds.getD m 0 = x at HX KA
        generalize es.getD m 0 = y at HY KB
        by_cases hxy : x = y
        · have hne : (x != y) = false := by simp [hxy]
          have HE : Hid (x = y) := hxy
          clear hxy
          go_wp2_with fail
          refine (KA.out _ rfl).mono ?_; rintro e w1 ⟨rfl, rfl⟩
          go_wp2_with fail
          refine (KB.out _ rfl).mono ?_; rintro e w1 ⟨rfl, rfl⟩
          go_wp2
          go_round
          case rel => exact ⟨m, by omega, by go_num, by rw [HX.out, HY.out, HR.out, HE.out]⟩
          case measure => simp [intOf]
        · have hne : (x != y) = true := by simp [hxy]
          by_cases hlt : x < y
          · clear hxy
            go_wp2_with fail
            refine (KA.out _ rfl).mono ?_; rintro e w1 ⟨rfl, rfl⟩
            go_wp2_with fail
            refine (KB.out _ rfl).mono ?_; rintro e w1 ⟨rfl, rfl⟩
            go_wp2_with fail
            refine (KA.out _ rfl).mono ?_; rintro e w1 ⟨rfl, rfl⟩
            go_wp2_with fail
            refine (KB.out _ rfl).mono ?_; rintro e w1 ⟨rfl, rfl⟩
            go_wp2
            go_ret
            exact ⟨Or.inl ⟨rfl, dv_lt_up HA.out.2 HB.out.2 m (by rw [HX.out, HY.out, HR.out]; omega)⟩, rfl⟩
          · have hgt : y < x := by omega
            clear hxy
            go_wp2_with fail
            refine (KA.out _ rfl).mono ?_; rintro e w1 ⟨rfl, rfl⟩
            go_wp2_with fail
            refine (KB.out _ rfl).mono ?_; rintro e w1 ⟨rfl, rfl⟩
            go_wp2_with fail
            refine (KA.out _ rfl).mono ?_; rintro e w1 ⟨rfl, rfl⟩
            go_wp2_with fail
            refine (KB.out _ rfl).mono ?_; rintro e w1 ⟨rfl, rfl⟩
            go_wp2
            go_ret
            exact ⟨Or.inr (Or.inr ⟨rfl, dv_lt_up HB.out.2 HA.out.2 m (by rw [HX.out, HY.out, HR.out]; omega)⟩), rfl⟩

theorem dv_take_succ (ds : List Int) (k : Nat) : dv (ds.take (k + 1)) = dv (ds.take k) + 65536 ^ k * ds.getD k 0 := by
  by_cases h : k < ds.length
  · have e : ds.getD k 0 = ds[k] := by simp [List.getD, h]
    have el : (ds.take k).length = k := by simp; omega
    rw [List.take_succ_eq_append_getElem h, dv_snoc, e, el]
  · rw [List.take_of_length_le (by omega), List.take_of_length_le (by omega), getD_out (by omega)]; simp
theorem pow_pos' (k : Nat) : (0 : Int) < 65536 ^ k := by
  induction k with
  | zero => simp
  | succ k ih => rw [Int.pow_succ]; omega
theorem dv_lt_pow {ds : List Int} (h : IsDig ds) : dv ds < 65536 ^ ds.length := by
  induction ds with
  | nil => simp [dv]
  | cons a r ih =>
    have h1 := h a (by simp)
    have h2 := ih fun d hd => h d (by simp [hd])
    simp only [dv, List.length_cons, Int.pow_succ]
    omega

theorem add_step {os ds es : List Int} {c x y : Int} {k : Nat} (hl : os.length = k) (h : dv os + c * 65536 ^ k = dv (ds.take k) + dv (es.take k)) (hx : ds.getD k 0 = x) (hy : es.getD k 0 = y) :
    dv (os ++ [(x + y + c) % 65536]) + (x + y + c) / 65536 * 65536 ^ (k + 1) = dv (ds.take (k + 1)) + dv (es.take (k + 1)) := by
  rw [dv_snoc, dv_take_succ, dv_take_succ, hl, hx, hy, Int.pow_succ]
  generalize (65536 : Int) ^ k = P at *
  obtain ⟨s, hs⟩ : ∃ s, x + y + c = s := ⟨_, rfl⟩
  rw [hs]
  have e : P * s = P * x + P * y + c * P := by rw [← hs, Int.mul_add, Int.mul_add, Int.mul_comm P c]
  have e2 : P * s = s / 65536 * (P * 65536) + P * (s % 65536) := by
    have h0 : s = s / 65536 * 65536 + s % 65536 := by omega
    have h1 : P * s = P * (s / 65536 * 65536 + s % 65536) := by rw [← h0]
    rw [h1, Int.mul_add, ← Int.mul_assoc, Int.mul_comm P (s / 65536), Int.mul_assoc]
  omega
theorem sub_step {os ds es : List Int} {c x y : Int} {k : Nat} (hl : os.length = k) (h : dv os - c * 65536 ^ k = dv (ds.take k) - dv (es.take k)) (hx : ds.getD k 0 = x) (hy : es.getD k 0 = y) :
    dv (os ++ [(x - y + 65536 - c) % 65536]) - (1 - (x - y + 65536 - c) / 65536) * 65536 ^ (k + 1) = dv (ds.take (k + 1)) - dv (es.take (k + 1)) := by
  rw [dv_snoc, dv_take_succ, dv_take_succ, hl, hx, hy, Int.pow_succ]
  generalize (65536 : Int) ^ k = P at *
  obtain ⟨s, hs⟩ : ∃ s, x - y + 65536 - c = s := ⟨_, rfl⟩
  rw [hs]
  have e : P * s = P * x - P * y + P * 65536 - c * P := by rw [← hs, Int.mul_sub, Int.mul_add, Int.mul_sub, Int.mul_comm P c]
  have e2 : P * s = s / 65536 * (P * 65536) + P * (s % 65536) := by
    have h0 : s = s / 65536 * 65536 + s % 65536 := by omega
    have h1 : P * s = P * (s / 65536 * 65536 + s % 65536) := by rw [← h0]
    rw [h1, Int.mul_add, ← Int.mul_assoc, Int.mul_comm P (s / 65536), Int.mul_assoc]
  rw [Int.sub_mul]
  omega
theorem sub_fin {os ds es : List Int} {c : Int} {n : Nat} (hl : os.length = n) (hd : IsDig os) (h : dv os - c * 65536 ^ n = dv (ds.take n) - dv (es.take n)) (h1 : ds.length ≤ n) (h2 : es.length ≤ n) (hc0 : 0 ≤ c) (hc1 : c ≤ 1) (hle : dv es ≤ dv ds) : dv os = dv ds - dv es := by
  rw [List.take_of_length_le h1, List.take_of_length_le h2] at h
  have hb := dv_lt_pow hd
  rw [hl] at hb
  by_cases e : c = 0
  · subst e; omega
  · have e1 : c = 1 := by omega
    subst e1; omega
theorem add_fin {os ds es : List Int} {c : Int} {n : Nat} (hl : os.length = n) (h : dv os + c * 65536 ^ n = dv (ds.take n) + dv (es.take n)) (h1 : ds.length ≤ n) (h2 : es.length ≤ n) (hc : c = 0) : dv os = dv ds + dv es := by
  rw [List.take_of_length_le h1, List.take_of_length_le h2] at h
  subst hc; omega

theorem Dig.drewN {w : World} {v : Value} {ds : List Int} (h : Dig w v ds) (n : Nat) : Dig (w.drewN n) v ds := h
theorem ownsRow_drewN {b : Nat} {w : World} {v : Value} {n : Nat} {xs : List Value} (h : w.ownsRow b 3 1 v n xs) (q : Nat) : (w.drewN q).ownsRow b 3 1 v n xs := h

theorem addr_ne {b c o p : Nat} (h : b ≠ c) : (⟨b, o, none⟩ : Addr) ≠ ⟨c, p, none⟩ := by intro e; exact h (congrArg Addr.block e)

/-- The four structs of WideAdd: both numbers, the one that is handed back, the one that is being made. -/
structure Four (B : Nat) (na : Bool) (va : Value) (nb : Bool) (vb : Value) (neg : Bool) (v : Value) (wr : World) : Prop where
  size : B + 4 ≤ wr.heap.size
  a0 : wr.cell? ⟨B, 0, none⟩ = some (.bool na)
  a1 : wr.cell? ⟨B, 1, none⟩ = some va
  b0 : wr.cell? ⟨B + 1, 0, none⟩ = some (.bool nb)
  b1 : wr.cell? ⟨B + 1, 1, none⟩ = some vb
  r0 : wr.cell? ⟨B + 1 + 1, 0, none⟩ = some (.bool false)
  r1 : wr.cell? ⟨B + 1 + 1, 1, none⟩ = some (.slice none 0 0)
  o0 : wr.cell? ⟨B + 1 + 1 + 1, 0, none⟩ = some (.bool neg)
  o1 : wr.cell? ⟨B + 1 + 1 + 1, 1, none⟩ = some v
  fr0 : wr.frozen? ⟨B + 1 + 1, 0, none⟩ = false
  fr1 : wr.frozen? ⟨B + 1 + 1, 1, none⟩ = false
  fo1 : wr.frozen? ⟨B + 1 + 1 + 1, 1, none⟩ = false

theorem Four.below {B : Nat} {na nb neg : Bool} {va vb v : Value} {wr w1 : World} (h : Four B na va nb vb neg v wr) (hb : Below (B + 4) wr w1) : Four B na va nb vb neg v w1 where
  size := Nat.le_trans h.size hb.size
  a0 := (hb.cell (p := ⟨B, 0, none⟩) (by show B < B + 4; omega)).trans h.a0
  a1 := (hb.cell (p := ⟨B, 1, none⟩) (by show B < B + 4; omega)).trans h.a1
  b0 := (hb.cell (p := ⟨B + 1, 0, none⟩) (by show B + 1 < B + 4; omega)).trans h.b0
  b1 := (hb.cell (p := ⟨B + 1, 1, none⟩) (by show B + 1 < B + 4; omega)).trans h.b1
  r0 := (hb.cell (p := ⟨B + 1 + 1, 0, none⟩) (by show B + 1 + 1 < B + 4; omega)).trans h.r0
  r1 := (hb.cell (p := ⟨B + 1 + 1, 1, none⟩) (by show B + 1 + 1 < B + 4; omega)).trans h.r1
  o0 := (hb.cell (p := ⟨B + 1 + 1 + 1, 0, none⟩) (by show B + 1 + 1 + 1 < B + 4; omega)).trans h.o0
  o1 := (hb.cell (p := ⟨B + 1 + 1 + 1, 1, none⟩) (by show B + 1 + 1 + 1 < B + 4; omega)).trans h.o1
  fr0 := (hb.frozen (p := ⟨B + 1 + 1, 0, none⟩) (by show B + 1 + 1 < B + 4; omega)).trans h.fr0
  fr1 := (hb.frozen (p := ⟨B + 1 + 1, 1, none⟩) (by show B + 1 + 1 < B + 4; omega)).trans h.fr1
  fo1 := (hb.frozen (p := ⟨B + 1 + 1 + 1, 1, none⟩) (by show B + 1 + 1 + 1 < B + 4; omega)).trans h.fo1

theorem Four.set {B : Nat} {na nb neg : Bool} {va vb v : Value} {wr : World} (h : Four B na va nb vb neg v wr) (v' : Value) : Four B na va nb vb neg v' (wr.setCell ⟨B + 1 + 1 + 1, 1, none⟩ v') where
  size := by simpa using h.size
  a0 := (World.cell?_setCell_other _ _ _ _ (addr_ne (by omega))).trans h.a0
  a1 := (World.cell?_setCell_other _ _ _ _ (addr_ne (by omega))).trans h.a1
  b0 := (World.cell?_setCell_other _ _ _ _ (addr_ne (by omega))).trans h.b0
  b1 := (World.cell?_setCell_other _ _ _ _ (addr_ne (by omega))).trans h.b1
  r0 := (World.cell?_setCell_other _ _ _ _ (addr_ne (by omega))).trans h.r0
  r1 := (World.cell?_setCell_other _ _ _ _ (addr_ne (by omega))).trans h.r1
  o0 := (World.cell?_setCell_other _ _ _ _ (by simp)).trans h.o0
  o1 := World.cell?_setCell_same _ _ _ h.o1
  fr0 := (World.frozen?_setCell _ _ _ _).trans h.fr0
  fr1 := (World.frozen?_setCell _ _ _ _).trans h.fr1
  fo1 := (World.frozen?_setCell _ _ _ _).trans h.fo1
end Go.Proofs.Ytfpjggoonekooaa
