/- The document's Check is the program's. -/
import Derived.Test.YtbpmhgcjefpigaaGreatDoorSize
namespace Go.Proofs.YtbpmhgcjefpigaaGreatDoor
open Go.RowKit Go.WideShapes Go.Shelf
set_option linter.unusedVariables false

theorem empty_list : (⟨#[]⟩ : ByteArray).toList.isEmpty = true := by
  rw [show (⟨#[]⟩ : ByteArray) = ByteArray.empty from rfl]; simp



theorem heavy_iff (l : List (Int × Tree)) : ∀ a : Int, a ≤ 1048576 → (heavy a l = true ↔ ((∃ x ∈ l, 64 < x.1) ∨ (∃ x ∈ l, 65536 < x.2.kids.length) ∨ 1048576 < a + bytesOf l)) := by
  induction l with
  | nil => intro a h; simp [heavy, bytesOf]; omega
  | cons x r ih =>
    intro a h
    obtain ⟨d, t⟩ := x
    have hb : bytesOf ((d, t) :: r) = t.bytes + bytesOf r := by simp [bytesOf]
    have hn := bytesOf_nonneg r
    rw [hb]
    simp only [heavy, Bool.or_eq_true, decide_eq_true_eq, List.mem_cons, exists_eq_or_imp]
    by_cases g : 1048576 < a + t.bytes
    · have : 1048576 < a + (t.bytes + bytesOf r) := by omega
      simp [g, this]
    · rw [ih (a + t.bytes) (by omega)]
      have e : a + t.bytes + bytesOf r = a + (t.bytes + bytesOf r) := by omega
      rw [e]
      simp only [g, or_false]
      constructor
      · rintro ((h | h) | h | h | h)
        · exact .inl (.inl h)
        · exact .inr (.inl (.inl h))
        · exact .inl (.inr h)
        · exact .inr (.inl (.inr h))
        · exact .inr (.inr h)
      · rintro ((h | h) | (h | h) | h)
        · exact .inl (.inl h)
        · exact .inr (.inl h)
        · exact .inl (.inr h)
        · exact .inr (.inr (.inl h))
        · exact .inr (.inr (.inr h))

mutual
theorem pre_bytes : ∀ (T : Tree) (d : Int), bytesOf (T.pre d) = bytT T
  | .mk k b n s ks ts, d => by
    have h := preL_bytes ts (d + 1)
    have e : bytesOf ((d, Tree.mk k b n s ks ts) :: Tree.preL (d + 1) ts) = bytesOf [(d, Tree.mk k b n s ks ts)] + bytesOf (Tree.preL (d + 1) ts) := bytesOf_append [_] _
    rw [Tree.pre, e, bytesOf_one, h, bytT]
theorem preL_bytes : ∀ (l : List Tree) (d : Int), bytesOf (Tree.preL d l) = bytL l
  | [], d => by simp [Tree.preL, bytesOf, bytL]
  | t :: ts, d => by rw [Tree.preL, bytesOf_append, pre_bytes t d, preL_bytes ts d, bytL]
end
mutual
theorem pre_deep : ∀ (T : Tree) (d L : Int), (∃ x ∈ T.pre d, L < x.1) ↔ L < d - 1 + hgtT T
  | .mk k b n s ks ts, d, L => by
    have h := preL_deep ts (d + 1) L
    rw [Tree.pre, hgtT]
    simp only [List.mem_cons, exists_eq_or_imp]
    have e : d + 1 - 1 = d := by omega
    rw [e] at h
    have e2 : d - 1 + (hgtL ts + 1) = d + hgtL ts := by omega
    rw [e2, ← h]
    exact Or.comm
theorem preL_deep : ∀ (l : List Tree) (d L : Int), ((∃ x ∈ Tree.preL d l, L < x.1) ∨ L < d - 1) ↔ L < d - 1 + hgtL l
  | [], d, L => by simp [Tree.preL, hgtL]
  | t :: ts, d, L => by
    have h1 := pre_deep t d L
    have h2 := preL_deep ts d L
    have h3 := (size_le t).2.2.2.1
    have h4 := (sizeL_le ts).2.2.2.1.1
    rw [Tree.preL, hgtL]
    simp only [List.mem_append, or_and_right, exists_or, or_assoc]
    rw [h1, h2]
    omega
end
mutual
theorem pre_long : ∀ (T : Tree) (d : Int), (∃ x ∈ T.pre d, 65536 < x.2.kids.length) ↔ 65536 < lngT T
  | .mk k b n s ks ts, d => by
    have h := preL_long ts (d + 1)
    rw [Tree.pre, lngT]
    simp only [List.mem_cons, exists_eq_or_imp]
    rw [h]
    show (65536 < ts.length ∨ _) ↔ _
    omega
theorem preL_long : ∀ (l : List Tree) (d : Int), (∃ x ∈ Tree.preL d l, 65536 < x.2.kids.length) ↔ 65536 < lngL l
  | [], d => by simp [Tree.preL, lngL]
  | t :: ts, d => by
    have h1 := pre_long t d
    have h2 := preL_long ts d
    rw [Tree.preL, lngL]
    simp only [List.mem_append, or_and_right, exists_or]
    rw [h1, h2]
    omega
end

theorem rising_none {ks : List ByteArray} (h : ks.length = 0) : risingB ks = true := rising_true fun i hi => by omega

theorem shaped_head (k : Int) (b : Bool) (n : Int) (s : ByteArray) (ks : List ByteArray) (ts : List Tree) : shapedB (.mk k b n s ks ts) = (!badB k b n s ks.length ts.length && risingB ks) := by
  have hr := @rising_none ks
  simp only [shapedB, badB, rbareB, blankB]
  generalize risingB ks = rz at *
  generalize Lib.validD s.data.toList = vd
  have he : (⟨#[]⟩ : ByteArray).toList.isEmpty = true := empty_list
  rw [he]
  generalize s.toList.isEmpty = se
  generalize ks.length = kl at *
  generalize ts.length = ll
  by_cases h0 : k = 0
  · subst h0; cases b <;> cases se <;> cases vd <;> by_cases g1 : n = 0 <;> by_cases g2 : kl = 0 <;> by_cases g3 : ll = 0 <;> simp_all
  by_cases h1 : k = 1
  · subst h1; cases b <;> cases se <;> cases vd <;> by_cases g1 : n = 0 <;> by_cases g2 : kl = 0 <;> by_cases g3 : ll = 0 <;> simp_all
  by_cases h2 : k = 2
  · subst h2; cases b <;> cases se <;> cases vd <;> by_cases g2 : kl = 0 <;> by_cases g3 : ll = 0 <;> simp_all
  by_cases h6 : k = 6
  · subst h6
    by_cases g1 : n < 0
    · have e : (min n 0 == 0) = false := by rw [beq_eq_false_iff_ne]; omega
      cases b <;> cases se <;> cases vd <;> by_cases g2 : kl = 0 <;> by_cases g3 : ll = 0 <;> simp_all
    · have e : (min n 0 == 0) = true := by rw [beq_iff_eq]; omega
      cases b <;> cases se <;> cases vd <;> by_cases g2 : kl = 0 <;> by_cases g3 : ll = 0 <;> simp_all
  by_cases h7 : k = 7
  · subst h7
    by_cases g1 : n < 0
    · have e : (min n 0 == 0) = false := by rw [beq_eq_false_iff_ne]; omega
      cases b <;> cases se <;> cases vd <;> by_cases g2 : kl = 0 <;> by_cases g3 : ll = 0 <;> simp_all
    · have e : (min n 0 == 0) = true := by rw [beq_iff_eq]; omega
      cases b <;> cases se <;> cases vd <;> by_cases g2 : kl = 0 <;> by_cases g3 : ll = 0 <;> simp_all
  by_cases h3 : k = 3
  · subst h3; cases b <;> cases se <;> cases vd <;> by_cases g1 : n = 0 <;> by_cases g2 : kl = 0 <;> by_cases g3 : ll = 0 <;> simp_all
  by_cases h5 : k = 5
  · subst h5
    by_cases g2 : kl = ll
    · subst g2
      cases b <;> cases se <;> cases vd <;> cases rz <;> by_cases g1 : n = 0 <;> simp_all
    · have e : ((kl : Int) != (ll : Int)) = true := by rw [bne_iff_ne]; omega
      have e' : (kl == ll) = false := beq_eq_false_iff_ne.2 g2
      rw [e, e']
      clear e e'
      cases b <;> cases se <;> cases vd <;> cases rz <;> by_cases g1 : n = 0 <;> simp_all
  by_cases h4 : k = 4
  · subst h4; cases b <;> cases se <;> cases vd <;> by_cases g1 : n = 0 <;> by_cases g2 : kl = 0 <;> simp_all
  have hk : (decide (k < 0) || decide (7 < k)) = true := by
    rw [Bool.or_eq_true, decide_eq_true_eq, decide_eq_true_eq]
    omega
  rw [hk]
  simp [h0, h1, h2, h3, h4, h5, h6, h7]

mutual
theorem may_pre : ∀ (T : Tree) (d : Int), (T.pre d).all (fun x => shapedB x.2) = mayT T
  | .mk k b n s ks ts, d => by
    rw [Tree.pre, mayT, List.all_cons, may_preL ts (d + 1), shaped_head, Bool.and_assoc]
theorem may_preL : ∀ (l : List Tree) (d : Int), (Tree.preL d l).all (fun x => shapedB x.2) = mayL l
  | [], d => rfl
  | t :: ts, d => by rw [Tree.preL, mayL, List.all_append, may_pre t d, may_preL ts d]
end

theorem check_eq (T : Tree) : checkN T = if mayT T = true then (if 64 < hgtT T ∨ 1048576 < bytT T ∨ 65536 < lngT T then 3 else 0) else 110 := by
  unfold checkN
  rw [may_pre]
  have h := heavy_iff (T.pre 1) 0 (by omega)
  rw [pre_deep, pre_long, pre_bytes] at h
  have e : (heavy 0 (T.pre 1) = true) = (64 < hgtT T ∨ 1048576 < bytT T ∨ 65536 < lngT T) := propext (by rw [h]; omega)
  simp only [e]

set_option maxRecDepth 100000 in
set_option maxHeartbeats 1000000 in
theorem rcheck_any (T : Tree) (B : Nat) (v : Value) (w : World) (hB : B ≤ w.heap.size) (hv : Lies B w v T) (hS : Sane T) (htot : T.total ≤ 1000000) :
    Calls Tryz.prog 24 #[v] w fun e w' => e = .returned (.int .i64 (checkN T)) ∧ Below w.heap.size w w' := by
  have HM : Hid (∀ W, Below w.heap.size w W → Calls Tryz.prog 65 #[v] W fun e w' => e = .returned (.bool (mayT T)) ∧ Below W.heap.size W w') := fun W hb =>
    may_any T B v W (Nat.le_trans hB hb.size) (hv.below (hb.mono hB)) hS
  have HS : Hid (∀ W, Below w.heap.size w W → Calls Tryz.prog 20 #[v] W fun e w' => e = .returned (.tuple #[.int .i64 (cntT T), .int .i64 (hgtT T), .int .i64 (bytT T), .int .i64 (lngT T)]) ∧ Below W.heap.size W w') := fun W hb =>
    refsize_any T B v W (Nat.le_trans hB hb.size) (hv.below (hb.mono hB)) htot
  have HC := hidE (check_eq T)
  generalize mayT T = m at *
  generalize cntT T = t1 at *
  generalize hgtT T = t2 at *
  generalize bytT T = t3 at *
  generalize lngT T = t4 at *
  obtain ⟨k, x, n, s, ks, ts⟩ := T
  simp only [Lies] at hv
  obtain ⟨ka, kc, la, lc, rfl, -⟩ := hv
  have HB0 := hidE ((Below.refl w.heap.size w).alloc (Nat.le_refl _) (.cells #[.int .i64 k, .bool x, .int .i64 n, .string s, .slice ka ks.length kc, .slice la ts.length lc] 26))
  generalize checkN (.mk k x n s ks ts) = res at *
  clear hB hS htot
  go_enter Tryz.func24, Tryz.ntmps24
  go_wp2_with fail
  refine (HM.out _ HB0.out).mono ?_
  rintro e w1 ⟨rfl, h1⟩
  obtain ⟨hb1, hc⟩ := box_cells h1
  have c0 := hc 0 _ rfl
  have c1 := hc 1 _ rfl
  have c2 := hc 2 _ rfl
  have c3 := hc 3 _ rfl
  have c4 := hc 4 _ rfl
  have c5 := hc 5 _ rfl
  have HB1 := hidE hb1
  clear hc h1 hb1 HB0 HM
  cases m
  · go_wp2_with fail
    go_ret
    exact ⟨by rw [HC.out]; rfl, HB1.out⟩
  · go_wp2_with fail
    refine (HS.out _ HB1.out).mono ?_
    rintro e w2 ⟨rfl, h2⟩
    have HB2 := hidE (below_on HB1.out h2)
    clear h2 c0 c1 c2 c3 c4 c5 HS HB1
    by_cases g1 : 64 < t2
    · have HR : Hid (res = 3) := HC.out.trans (by simp [g1])
      have d1 : decide (64 < t2) = true := decide_eq_true g1
      clear HC g1
      go_wp2_with fail
      go_ret
      exact ⟨by rw [HR.out]; rfl, HB2.out⟩
    · have d1 : decide (64 < t2) = false := decide_eq_false g1
      by_cases g2 : 1048576 < t3
      · have HR : Hid (res = 3) := HC.out.trans (by simp [g2])
        have d2 : decide (1048576 < t3) = true := decide_eq_true g2
        clear HC g1 g2
        go_wp2_with fail
        go_ret
        exact ⟨by rw [HR.out]; rfl, HB2.out⟩
      · have d2 : decide (1048576 < t3) = false := decide_eq_false g2
        by_cases g3 : 65536 < t4
        · have HR : Hid (res = 3) := HC.out.trans (by simp [g3])
          have d3 : decide (65536 < t4) = true := decide_eq_true g3
          clear HC g1 g2 g3
          go_wp2_with fail
          go_ret
          exact ⟨by rw [HR.out]; rfl, HB2.out⟩
        · have HR : Hid (res = 0) := HC.out.trans (by simp [g1, g2, g3])
          have d3 : decide (65536 < t4) = false := decide_eq_false g3
          clear HC g1 g2 g3
          go_wp2_with fail
          go_ret
          exact ⟨by rw [HR.out]; rfl, HB2.out⟩
end Go.Proofs.YtbpmhgcjefpigaaGreatDoor
