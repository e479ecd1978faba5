/- Which truth a value is, at every value; small values are modest, and known where they may be. -/
import Derived.Test.YtbpmhgcjefpigaaDoorRchk
import Derived.Test.YtbpmhgcjefpigaaDoorVal12
namespace Go.Proofs.YtbpmhgcjefpigaaDoor
open Go.RowKit Go.WideShapes Go.Shelf
set_option linter.unusedVariables false

mutual
theorem hgt_eq : ∀ (T : Tree), hgtT T = (T.height : Int)
  | .mk k b n s ks ts => by rw [hgtT, hgtL_eq ts, Tree.height]; omega
theorem hgtL_eq : ∀ (l : List Tree), hgtL l = (Tree.heightL l : Int)
  | [] => rfl
  | t :: ts => by rw [hgtL, hgt_eq t, hgtL_eq ts, Tree.heightL]; omega
end
theorem modest_small {T : Tree} (h : T.total ≤ 1000) : Modest T := by
  have := size_le T
  refine ⟨?_, ?_⟩
  · have e := hgt_eq T; omega
  · rw [pre_bytes]; omega
mutual
theorem known_may : ∀ (T : Tree), mayT T = true → Known T
  | .mk k b n s ks ts, h => by
    rw [mayT] at h
    simp only [Bool.and_eq_true, Bool.not_eq_true'] at h
    obtain ⟨h1, h2, h3⟩ := h
    rw [Known]
    refine ⟨?_, knownL_may ts h3⟩
    unfold badB at h1
    simp only [Bool.or_eq_false_iff, decide_eq_false_iff_not] at h1
    omega
theorem knownL_may : ∀ (l : List Tree), mayL l = true → KnownL l
  | [], _ => by simp only [KnownL]
  | t :: ts, h => by
    rw [mayL, Bool.and_eq_true] at h
    rw [KnownL]
    exact ⟨known_may t h.1, knownL_may ts h.2⟩
end
theorem known_check {T : Tree} (h : checkN T = 0) : Known T := by
  refine known_may T ?_
  rw [check_eq] at h
  by_cases g : mayT T = true
  · exact g
  · rw [if_neg g] at h; omega

theorem ownsRow_on {B : Nat} {e : TypeId} {k : Nat} {v : Value} {n : Nat} {xs : List Value} {w w' : World} (h : w.ownsRow B e k v n xs) (hb : Below w.heap.size w w') : w'.ownsRow B e k v n xs := by
  obtain ⟨h1, ⟨rfl, h2⟩ | ⟨g, cap, cur, rfl, h3, h4, h5⟩⟩ := h
  · exact ⟨h1, .inl ⟨rfl, h2⟩⟩
  · refine ⟨h1, .inr ⟨g, cap, cur, rfl, h3, ?_, h5⟩⟩
    have hg : g < w.heap.size := by
      rcases Nat.lt_or_ge g w.heap.size with h | h
      · exact h
      · rw [Array.getElem?_eq_none h] at h4; cases h4
    rw [hb.block g hg]; exact h4

set_option maxRecDepth 100000 in
set_option maxHeartbeats 1000000 in
theorem of_any (k : Int) (x : Bool) (n : Int) (s : ByteArray) (ks : List ByteArray) (ts : List Tree) (B : Nat) (v : Value) (w : World) (hB : B ≤ w.heap.size) (hv : Lies B w v (.mk k x n s ks ts)) (hT : Tabs w) (hm : Modest (.mk k x n s ks ts)) :
    Calls Tryd.prog 10 #[v] w fun e w' => e = .returned (.tuple #[.int .i64 (if checkN (.mk k x n s ks ts) = 0 then ofT k x else 1), .bool (if checkN (.mk k x n s ks ts) = 0 then ofB k else false)]) ∧ Below w.heap.size w w' := by
  have HC : Hid (∀ W, Below w.heap.size w W → Calls Tryd.prog 35 #[v] W fun e w' => e = .returned (.int .i64 (checkN (.mk k x n s ks ts))) ∧ Below W.heap.size W w') := fun W hb =>
    check_any v _ W ((hv.below (hb.mono hB)).mono (Nat.le_trans hB hb.size)) (hT.below hb) hm.1 hm.2
  simp only [Lies] at hv
  obtain ⟨ka, kc, la, lc, rfl, -⟩ := hv
  have HB0 := hidE ((Below.refl w.heap.size w).alloc (Nat.le_refl _) (.cells #[.int .i64 k, .bool x, .int .i64 n, .string s, .slice ka ks.length kc, .slice la ts.length lc] 30))
  generalize checkN (.mk k x n s ks ts) = ck at *
  clear hB hT hm
  obtain ⟨r1, hr1⟩ : ∃ r1, (if ck = 0 then ofT k x else 1) = r1 := ⟨_, rfl⟩
  obtain ⟨r2, hr2⟩ : ∃ r2, (if ck = 0 then ofB k else false) = r2 := ⟨_, rfl⟩
  have HR := hidE (And.intro hr1 hr2)
  rw [hr1, hr2]
  clear hr1 hr2
  go_enter Tryd.func10, Tryd.ntmps10
  go_wp2_with fail
  refine (HC.out _ HB0.out).mono ?_
  rintro e w1 ⟨rfl, h1⟩
  obtain ⟨hb1, hc⟩ := box_cells h1
  have c0 := hc 0 _ rfl
  have c1 := hc 1 _ rfl
  have HB1 := hidE hb1
  clear hc h1 hb1 HB0 HC
  by_cases g : ck = 0
  · subst g
    have HR1 : Hid (ofT k x = r1 ∧ ofB k = r2) := by show _ ∧ _; simpa using HR.out
    clear HR
    by_cases h0 : k = 0
    · subst h0
      go_wp2_with fail
      go_ret2
      exact ⟨by rw [← HR1.out.1, ← HR1.out.2]; rfl, HB1.out⟩
    · have e0 : (k == 0) = false := beq_eq_false_iff_ne.2 h0
      by_cases h1 : k = 1
      · subst h1
        clear h0 e0
        cases x
        · go_wp2_with fail
          go_ret2
          exact ⟨by rw [← HR1.out.1, ← HR1.out.2]; rfl, HB1.out⟩
        · go_wp2_with fail
          go_ret2
          exact ⟨by rw [← HR1.out.1, ← HR1.out.2]; rfl, HB1.out⟩
      · have e1 : (k == 1) = false := beq_eq_false_iff_ne.2 h1
        have HR2 : Hid (r1 = 1 ∧ r2 = false) := by
          obtain ⟨a, b⟩ := HR1.out
          refine ⟨?_, ?_⟩
          · rw [← a]; simp [ofT, h0, h1]
          · rw [← b]; simp [ofB, h0, h1]
        clear h0 h1 HR1
        go_wp2_with fail
        go_ret2
        exact ⟨by rw [HR2.out.1, HR2.out.2]; rfl, HB1.out⟩
  · have eg : (ck != 0) = true := by rw [bne_iff_ne]; exact g
    have HR2 : Hid (1 = r1 ∧ false = r2) := by show _ ∧ _; simpa [g] using HR.out
    clear HR g
    go_wp2_with fail
    go_ret2
    exact ⟨by rw [← HR2.out.1, ← HR2.out.2]; rfl, HB1.out⟩
end Go.Proofs.YtbpmhgcjefpigaaDoor
