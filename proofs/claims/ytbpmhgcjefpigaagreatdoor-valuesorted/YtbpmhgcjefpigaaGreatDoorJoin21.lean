/- The document's Size: how many values there are, how deep, how many bytes, and the longest list. The document's Check is the program's. fine: may all values of a row be? ValueRows, walked. -/
import Derived.Test.YtbpmhgcjefpigaaGreatDoorJoin20
import Derived.Test.YtbpmhgcjefpigaaGreatDoorJoin7
import Derived.Test.YtbpmhgcjefpigaaGreatDoorJoin14
import Derived.Test.YtbpmhgcjefpigaaGreatDoorJoin18
import Derived.Test.YtbpmhgcjefpigaaGreatDoorJoin19
import Derived.Test.YtbpmhgcjefpigaaGreatDoorJoin6
namespace Go.Proofs.YtbpmhgcjefpigaaGreatDoor
open Go.RowKit Go.WideShapes Go.Shelf
set_option linter.unusedVariables false

mutual
def cntT : Tree → Int
  | .mk k b n s ks ts => 1 + cntL ts
def cntL : List Tree → Int
  | [] => 0
  | t :: ts => cntT t + cntL ts
end
mutual
def bytT : Tree → Int
  | .mk k b n s ks ts => s.size + keyBytes ks + bytL ts
def bytL : List Tree → Int
  | [] => 0
  | t :: ts => bytT t + bytL ts
end
mutual
def lngT : Tree → Int
  | .mk k b n s ks ts => max (ts.length : Int) (lngL ts)
def lngL : List Tree → Int
  | [] => 0
  | t :: ts => max (lngT t) (lngL ts)
end
mutual
def hgtT : Tree → Int
  | .mk k b n s ks ts => hgtL ts + 1
def hgtL : List Tree → Int
  | [] => 0
  | t :: ts => max (hgtT t) (hgtL ts)
end

mutual
theorem size_le : ∀ (T : Tree), (1 ≤ cntT T ∧ cntT T ≤ T.total) ∧ (0 ≤ bytT T ∧ bytT T ≤ T.total) ∧ (0 ≤ lngT T ∧ lngT T ≤ T.total) ∧ (1 ≤ hgtT T ∧ hgtT T ≤ T.total)
  | .mk k b n s ks ts => by
    have h := sizeL_le ts
    have hk := keyBytes_nonneg ks
    simp only [cntT, bytT, lngT, hgtT, Tree.total]
    omega
theorem sizeL_le : ∀ (l : List Tree), (0 ≤ cntL l ∧ cntL l ≤ Tree.totalL l) ∧ (0 ≤ bytL l ∧ bytL l ≤ Tree.totalL l) ∧ (0 ≤ lngL l ∧ lngL l ≤ Tree.totalL l) ∧ (0 ≤ hgtL l ∧ hgtL l ≤ Tree.totalL l) ∧ (l.length : Int) ≤ Tree.totalL l
  | [] => by simp [cntL, bytL, lngL, hgtL, Tree.totalL]
  | t :: ts => by
    have h := size_le t
    have g := sizeL_le ts
    simp only [cntL, bytL, lngL, hgtL, Tree.totalL, List.length_cons]
    omega
end

theorem cntL_append : ∀ (a b : List Tree), cntL (a ++ b) = cntL a + cntL b
  | [], b => by simp [cntL]
  | t :: a, b => by simp only [List.cons_append, cntL, cntL_append a b]; omega
theorem bytL_append : ∀ (a b : List Tree), bytL (a ++ b) = bytL a + bytL b
  | [], b => by simp [bytL]
  | t :: a, b => by simp only [List.cons_append, bytL, bytL_append a b]; omega
theorem lngL_append : ∀ (a b : List Tree), lngL (a ++ b) = max (lngL a) (lngL b)
  | [], b => by have := (sizeL_le b).2.2.1.1; simp only [List.nil_append, lngL]; omega
  | t :: a, b => by simp only [List.cons_append, lngL, lngL_append a b]; omega
theorem hgtL_append : ∀ (a b : List Tree), hgtL (a ++ b) = max (hgtL a) (hgtL b)
  | [], b => by have := (sizeL_le b).2.2.2.1.1; simp only [List.nil_append, hgtL]; omega
  | t :: a, b => by simp only [List.cons_append, hgtL, hgtL_append a b]; omega
theorem totalL_append : ∀ (a b : List Tree), Tree.totalL (a ++ b) = Tree.totalL a + Tree.totalL b
  | [], b => by simp [Tree.totalL]
  | t :: a, b => by simp only [List.cons_append, Tree.totalL, totalL_append a b]; omega
theorem totalL_nonneg (l : List Tree) : 0 ≤ Tree.totalL l := by have := (sizeL_le l).1; omega
theorem totalL_take (ts : List Tree) (p : Nat) : Tree.totalL (ts.take p) ≤ Tree.totalL ts := by
  have h := totalL_append (ts.take p) (ts.drop p)
  rw [List.take_append_drop] at h
  have := totalL_nonneg (ts.drop p)
  omega
/-- The four numbers, so far. -/
def Four (s0 : Int) (ts : List Tree) (p : Nat) (a b c d : Value) : Prop :=
  a = .int .i64 (1 + cntL (ts.take p)) ∧ b = .int .i64 (hgtL (ts.take p)) ∧ c = .int .i64 (s0 + bytL (ts.take p)) ∧ d = .int .i64 (max (ts.length : Int) (lngL (ts.take p)))

theorem results_tmp4 {fn : Func} {t u v x : Tmp} (h : fn.results = #[.tmp t, .tmp u, .tmp v, .tmp x]) (tmps : Array Value) (P : Program) (w : World) :
    (results fn tmps).run P w = .ok (.tuple #[tmps.getD t undef, tmps.getD u undef, tmps.getD v undef, tmps.getD x undef]) w := by
  simp [results, h]

theorem cell_drew_two {w : World} {a : Addr} {v : Value} (h : w.cell? a = some v) : w.drew.cell? a = some v := h

set_option maxRecDepth 100000 in
set_option maxHeartbeats 4000000 in
theorem refsize_any : ∀ (T : Tree) (B : Nat) (v : Value) (w : World), B ≤ w.heap.size → Lies B w v T → T.total ≤ 1000000 →
    Calls Tryz.prog 20 #[v] w fun e w' => e = .returned (.tuple #[.int .i64 (cntT T), .int .i64 (hgtT T), .int .i64 (bytT T), .int .i64 (lngT T)]) ∧ Below w.heap.size w w' := by
  refine Tree.ind ?_
  intro k x n s ks ts ih B v w hB hv htot
  have hsz := size_le (.mk k x n s ks ts)
  have hszL := sizeL_le ts
  have hkb := keyBytes_nonneg ks
  simp only [Lies] at hv
  obtain ⟨ka, kc, la, lc, rfl, ⟨hs1, hs2, hs3, hs4, hs5⟩, hk, ht⟩ := hv
  unfold maxLen at hs1 hs3 hs5
  simp only [Tree.total] at htot
  obtain ⟨W1, hW1⟩ : ∃ W1, w.alloc (.cells #[.int .i64 k, .bool x, .int .i64 n, .string s, .slice ka ks.length kc, .slice la ts.length lc] 26) = W1 := ⟨_, rfl⟩
  have HX : Hid (∀ W, Below W1.heap.size W1 W → Below w.heap.size w W ∧ (W.cell? ⟨w.heap.size, 3, none⟩ = some (.string s) ∧ W.cell? ⟨w.heap.size, 4, none⟩ = some (.slice ka ks.length kc) ∧ W.cell? ⟨w.heap.size, 5, none⟩ = some (.slice la ts.length lc))) := fun W hb => by
    rw [← hW1] at hb
    obtain ⟨h1, h2⟩ := box_cells hb
    exact ⟨h1, h2 3 _ rfl, h2 4 _ rfl, h2 5 _ rfl⟩
  have HRES : Hid (cntT (.mk k x n s ks ts) = 1 + cntL ts ∧ hgtT (.mk k x n s ks ts) = hgtL ts + 1 ∧ bytT (.mk k x n s ks ts) = s.size + keyBytes ks + bytL ts ∧ lngT (.mk k x n s ks ts) = max (ts.length : Int) (lngL ts)) := by
    refine ⟨?_, ?_, ?_, ?_⟩
    · rw [cntT]
    · rw [hgtT]
    · rw [bytT]
    · rw [lngT]
  have HW1 := hidE hW1
  have HIH := hidE ih
  have HKK := hidE hk
  have HTT := hidE ht
  have HTOT := hidE htot
  have HSL := hidE hszL
  have HKB := hidE hkb
  have hsl1 : (s.size : Int) ≤ 1000000 := by omega
  have hsl2 : (ts.length : Int) ≤ 1000000 := by omega
  have hsl3 : (ks.length : Int) ≤ 1000000 := by have := totalL_nonneg ts; omega
  generalize cntT (.mk k x n s ks ts) = r1 at *
  generalize hgtT (.mk k x n s ks ts) = r2 at *
  generalize bytT (.mk k x n s ks ts) = r3 at *
  generalize lngT (.mk k x n s ks ts) = r4 at *
  clear ih hk ht hW1 hsz hszL hkb htot
  obtain ⟨_, p3, p4, p5⟩ := HX.out W1 (Below.refl _ _)
  go_enter Tryz.func20, Tryz.ntmps20
  go_upto_region 1 with fail
  rw [HW1.out]
  go_quiet (fail)
  go_wp2_with fail
  clear p3 p4 p5 HW1
  go_loopw [10, 8] (fun i u wr => ∃ j : Nat, j ≤ ks.length ∧ i = .int .i64 j ∧ u = .int .i64 ((s.size : Int) + keyBytes (ks.take j)) ∧ Below W1.heap.size W1 wr) (fun i _ _ => ks.length - (intOf i).toNat)
  case atStart => exact ⟨0, Nat.zero_le _, rfl, by simp [keyBytes], below_drewN (Below.refl _ _) _⟩
  case round =>
    obtain ⟨j, hj, rfl, rfl, hbr⟩ := hrel
    obtain ⟨hbw, q3, q4, q5⟩ := HX.out wr hbr
    have HBR := hidE hbr
    have HBV := hidE hbw
    clear hbr hbw q3 q5
    have hle := keyBytes_le ks j
    have hge := keyBytes_nonneg (ks.take j)
    by_cases hja : j < ks.length
    · obtain ⟨bk, off, rfl, hbk, hkey⟩ := (HKK.out.below (HBV.out.mono hB)).resolve_left (by intro e; subst e; simp at hja)
      have hc := (hkey j hja).1
      have HSN := hidE (keyBytes_take ks j hja)
      have hle2 := keyBytes_le ks (j + 1)
      clear hkey
      generalize ks.getD j ⟨#[]⟩ = y at *
      have hb1 : (s.size : Int) + keyBytes (ks.take j) + y.size ≤ 1000000 := by have := HTOT.out; have := HSN.out; have := totalL_nonneg ts; omega
      have hb0 : 0 ≤ (s.size : Int) + keyBytes (ks.take j) := by omega
      clear hle hge hle2
      generalize keyBytes (ks.take j) = kb at *
      go_wp2_with fail
      go_roundw
      case rel => exact ⟨j + 1, by omega, by go_num, by rw [HSN.out, ← Int.add_assoc], HBR.out⟩
      case measure => simp [intOf]; omega
    · have HKT : Hid (keyBytes (ks.take j) = keyBytes ks) := by show _ = _; rw [List.take_of_length_le (by omega)]
      clear hle hge
      rw [HKT.out]
      clear HKT HKK
      go_wp2_with fail
      clear q4
      go_loopw [11, 6, 7, 8, 9] (fun i a b c d wr => ∃ p : Nat, p ≤ ts.length ∧ i = .int .i64 p ∧ Four ((s.size : Int) + keyBytes ks) ts p a b c d ∧ Below W1.heap.size W1 wr) (fun i _ _ _ _ _ => ts.length - (intOf i).toNat)
      case atStart => exact ⟨0, Nat.zero_le _, rfl, ⟨by simp [cntL], by simp [hgtL], by simp [bytL], by simp [lngL]⟩, HBR.out⟩
      case round =>
        obtain ⟨p, hp, rfl, ⟨rfl, rfl, rfl, rfl⟩, hbr2⟩ := hrel
        obtain ⟨hbw2, q3, q4, q5⟩ := HX.out _ hbr2
        have HBR2 := hidE hbr2
        have HBW2 := hidE hbw2
        clear hbr2 hbw2 q3 q4
        have hS1 := sizeL_le (ts.take p)
        have hS2 := totalL_take ts p
        by_cases hlt : p < ts.length
        · obtain ⟨bl, off, rfl, hbl, hkk⟩ := HTT.out.resolve_left (by intro e; subst e; simp at hlt)
          obtain ⟨⟨p0, p1, p2, p3, p4, p5⟩, hx⟩ : ∃ t, ts[p]? = some t := ⟨_, List.getElem?_eq_getElem hlt⟩
          obtain ⟨ja, jc, jl, jd, ⟨c0, c1, c2, c3, c4, c5⟩, hlx⟩ := (hkk.below (HBW2.out.mono hB) hbl).cells hx
          have hm := totalL_mem (List.mem_of_getElem? hx)
          have HC := hidE (HIH.out _ (List.mem_of_getElem? hx) B _ wr (Nat.le_trans hB HBW2.out.size) hlx (by have := HTOT.out; have := HKB.out; omega))
          have hS3 := size_le (.mk p0 p1 p2 p3 p4 p5)
          have hS4 := sizeL_le (ts.take (p + 1))
          have hS5 := totalL_take ts (p + 1)
          have HQ : Hid (cntL (ts.take (p + 1)) = cntL (ts.take p) + cntT (.mk p0 p1 p2 p3 p4 p5) ∧ hgtL (ts.take (p + 1)) = max (hgtL (ts.take p)) (hgtT (.mk p0 p1 p2 p3 p4 p5)) ∧ bytL (ts.take (p + 1)) = bytL (ts.take p) + bytT (.mk p0 p1 p2 p3 p4 p5) ∧ lngL (ts.take (p + 1)) = max (lngL (ts.take p)) (lngT (.mk p0 p1 p2 p3 p4 p5))) := by
            rw [take_snoc hx]
            have g := size_le (.mk p0 p1 p2 p3 p4 p5)
            refine ⟨?_, ?_, ?_, ?_⟩
            · rw [cntL_append]; simp [cntL]
            · rw [hgtL_append]; simp only [hgtL]; omega
            · rw [bytL_append]; simp [bytL]
            · rw [lngL_append]; simp only [lngL]; omega
          clear hkk hlx hx
          generalize cntT (.mk p0 p1 p2 p3 p4 p5) = t1 at *
          generalize hgtT (.mk p0 p1 p2 p3 p4 p5) = t2 at *
          generalize bytT (.mk p0 p1 p2 p3 p4 p5) = t3 at *
          generalize lngT (.mk p0 p1 p2 p3 p4 p5) = t4 at *
          generalize (Tree.mk p0 p1 p2 p3 p4 p5).total = t5 at *
          have hA : cntL (ts.take p) + t1 ≤ 1000000 ∧ bytL (ts.take p) + t3 + (s.size : Int) + keyBytes ks ≤ 1000000 := by have := HTOT.out; have := HKB.out; have := HQ.out; omega
          have hB0 := HKB.out
          have hN : 0 ≤ cntL (ts.take p) ∧ 0 ≤ bytL (ts.take p) ∧ 0 ≤ t1 ∧ 0 ≤ t3 := by omega
          clear hS1 hS2 hS3 hS4 hS5 hm
          generalize cntL (ts.take p) = m1 at *
          generalize hgtL (ts.take p) = m2 at *
          generalize bytL (ts.take p) = m3 at *
          generalize lngL (ts.take p) = m4 at *
          generalize keyBytes ks = kb at *
          go_wp2_with fail
          refine HC.out.mono ?_; rintro e w' ⟨rfl, hk2⟩
          have HB2 := hidE (HBR2.out.trans (hk2.mono HBR2.out.size))
          clear hk2 c0 c1 c2 c3 c4 c5 q5 HC
          go_wp2_with fail
          go_roundw
          case rel =>
            refine ⟨p + 1, by omega, by go_num, ⟨?_, ?_, ?_, ?_⟩, HB2.out⟩
            · rw [HQ.out.1, ← Int.add_assoc]
            · rw [HQ.out.2.1]
            · rw [HQ.out.2.2.1, ← Int.add_assoc]
            · rw [HQ.out.2.2.2]
          case measure => simp [intOf]; omega
        · have HT : Hid (ts.take p = ts) := List.take_of_length_le (by omega)
          rw [HT.out] at hS1 ⊢
          have hh : 0 ≤ hgtL ts ∧ hgtL ts ≤ 1000000 := by have := HTOT.out; have := HKB.out; omega
          clear hS1 hS2 HT
          obtain ⟨e1, e2, e3, e4⟩ := HRES.out
          have HE := hidE (And.intro e1 (And.intro e2 (And.intro e3 e4)))
          clear e1 e2 e3 e4 HRES
          go_wp2_with fail
          (try simp only [Exit.inBlock, Exit.then]); refine bodyPost_ret (results_tmp4 rfl _ _ _) rfl ?_
          refine ⟨?_, HBW2.out⟩
          rw [HE.out.1, HE.out.2.1, HE.out.2.2.1, HE.out.2.2.2]
          rfl
end Go.Proofs.YtbpmhgcjefpigaaGreatDoor

namespace Go.Proofs.YtbpmhgcjefpigaaGreatDoor
open Go.RowKit Go.WideShapes Go.Shelf
set_option linter.unusedVariables false

theorem empty_list : (⟨#[]⟩ : ByteArray).toList.isEmpty = true := by
  rw [show (⟨#[]⟩ : ByteArray) = ByteArray.empty from rfl]; simp



theorem heavy_iff (l : List (Int × Tree)) : ∀ a : Int, a ≤ 1048576 → (heavy a l = true ↔ ((∃ x ∈ l, 64 < x.1) ∨ (∃ x ∈ l, 65536 < x.2.kids.length) ∨ 1048576 < a + bytesOf l)) := by
  induction l with
  | nil => intro a h; simp [heavy, bytesOf]; omega
  | cons x r ih =>
    intro a h
    obtain ⟨d, t⟩ := x
    have hb : bytesOf ((d, t) :: r) = t.bytes + bytesOf r := by simp [bytesOf]
    have hn := bytesOf_nonneg r
    rw [hb]
    simp only [heavy, Bool.or_eq_true, decide_eq_true_eq, List.mem_cons, exists_eq_or_imp]
    by_cases g : 1048576 < a + t.bytes
    · have : 1048576 < a + (t.bytes + bytesOf r) := by omega
      simp [g, this]
    · rw [ih (a + t.bytes) (by omega)]
      have e : a + t.bytes + bytesOf r = a + (t.bytes + bytesOf r) := by omega
      rw [e]
      simp only [g, or_false]
      constructor
      · rintro ((h | h) | h | h | h)
        · exact .inl (.inl h)
        · exact .inr (.inl (.inl h))
        · exact .inl (.inr h)
        · exact .inr (.inl (.inr h))
        · exact .inr (.inr h)
      · rintro ((h | h) | (h | h) | h)
        · exact .inl (.inl h)
        · exact .inr (.inl h)
        · exact .inl (.inr h)
        · exact .inr (.inr (.inl h))
        · exact .inr (.inr (.inr h))

mutual
theorem pre_bytes : ∀ (T : Tree) (d : Int), bytesOf (T.pre d) = bytT T
  | .mk k b n s ks ts, d => by
    have h := preL_bytes ts (d + 1)
    have e : bytesOf ((d, Tree.mk k b n s ks ts) :: Tree.preL (d + 1) ts) = bytesOf [(d, Tree.mk k b n s ks ts)] + bytesOf (Tree.preL (d + 1) ts) := bytesOf_append [_] _
    rw [Tree.pre, e, bytesOf_one, h, bytT]
theorem preL_bytes : ∀ (l : List Tree) (d : Int), bytesOf (Tree.preL d l) = bytL l
  | [], d => by simp [Tree.preL, bytesOf, bytL]
  | t :: ts, d => by rw [Tree.preL, bytesOf_append, pre_bytes t d, preL_bytes ts d, bytL]
end
mutual
theorem pre_deep : ∀ (T : Tree) (d L : Int), (∃ x ∈ T.pre d, L < x.1) ↔ L < d - 1 + hgtT T
  | .mk k b n s ks ts, d, L => by
    have h := preL_deep ts (d + 1) L
    rw [Tree.pre, hgtT]
    simp only [List.mem_cons, exists_eq_or_imp]
    have e : d + 1 - 1 = d := by omega
    rw [e] at h
    have e2 : d - 1 + (hgtL ts + 1) = d + hgtL ts := by omega
    rw [e2, ← h]
    exact Or.comm
theorem preL_deep : ∀ (l : List Tree) (d L : Int), ((∃ x ∈ Tree.preL d l, L < x.1) ∨ L < d - 1) ↔ L < d - 1 + hgtL l
  | [], d, L => by simp [Tree.preL, hgtL]
  | t :: ts, d, L => by
    have h1 := pre_deep t d L
    have h2 := preL_deep ts d L
    have h3 := (size_le t).2.2.2.1
    have h4 := (sizeL_le ts).2.2.2.1.1
    rw [Tree.preL, hgtL]
    simp only [List.mem_append, or_and_right, exists_or, or_assoc]
    rw [h1, h2]
    omega
end
mutual
theorem pre_long : ∀ (T : Tree) (d : Int), (∃ x ∈ T.pre d, 65536 < x.2.kids.length) ↔ 65536 < lngT T
  | .mk k b n s ks ts, d => by
    have h := preL_long ts (d + 1)
    rw [Tree.pre, lngT]
    simp only [List.mem_cons, exists_eq_or_imp]
    rw [h]
    show (65536 < ts.length ∨ _) ↔ _
    omega
theorem preL_long : ∀ (l : List Tree) (d : Int), (∃ x ∈ Tree.preL d l, 65536 < x.2.kids.length) ↔ 65536 < lngL l
  | [], d => by simp [Tree.preL, lngL]
  | t :: ts, d => by
    have h1 := pre_long t d
    have h2 := preL_long ts d
    rw [Tree.preL, lngL]
    simp only [List.mem_append, or_and_right, exists_or]
    rw [h1, h2]
    omega
end

theorem rising_none {ks : List ByteArray} (h : ks.length = 0) : risingB ks = true := rising_true fun i hi => by omega

theorem shaped_head (k : Int) (b : Bool) (n : Int) (s : ByteArray) (ks : List ByteArray) (ts : List Tree) : shapedB (.mk k b n s ks ts) = (!badB k b n s ks.length ts.length && risingB ks) := by
  have hr := @rising_none ks
  simp only [shapedB, badB, rbareB, blankB]
  generalize risingB ks = rz at *
  generalize Lib.validD s.data.toList = vd
  have he : (⟨#[]⟩ : ByteArray).toList.isEmpty = true := empty_list
  rw [he]
  generalize s.toList.isEmpty = se
  generalize ks.length = kl at *
  generalize ts.length = ll
  by_cases h0 : k = 0
  · subst h0; cases b <;> cases se <;> cases vd <;> by_cases g1 : n = 0 <;> by_cases g2 : kl = 0 <;> by_cases g3 : ll = 0 <;> simp_all
  by_cases h1 : k = 1
  · subst h1; cases b <;> cases se <;> cases vd <;> by_cases g1 : n = 0 <;> by_cases g2 : kl = 0 <;> by_cases g3 : ll = 0 <;> simp_all
  by_cases h2 : k = 2
  · subst h2; cases b <;> cases se <;> cases vd <;> by_cases g2 : kl = 0 <;> by_cases g3 : ll = 0 <;> simp_all
  by_cases h6 : k = 6
  · subst h6
    by_cases g1 : n < 0
    · have e : (min n 0 == 0) = false := by rw [beq_eq_false_iff_ne]; omega
      cases b <;> cases se <;> cases vd <;> by_cases g2 : kl = 0 <;> by_cases g3 : ll = 0 <;> simp_all
    · have e : (min n 0 == 0) = true := by rw [beq_iff_eq]; omega
      cases b <;> cases se <;> cases vd <;> by_cases g2 : kl = 0 <;> by_cases g3 : ll = 0 <;> simp_all
  by_cases h7 : k = 7
  · subst h7
    by_cases g1 : n < 0
    · have e : (min n 0 == 0) = false := by rw [beq_eq_false_iff_ne]; omega
      cases b <;> cases se <;> cases vd <;> by_cases g2 : kl = 0 <;> by_cases g3 : ll = 0 <;> simp_all
    · have e : (min n 0 == 0) = true := by rw [beq_iff_eq]; omega
      cases b <;> cases se <;> cases vd <;> by_cases g2 : kl = 0 <;> by_cases g3 : ll = 0 <;> simp_all
  by_cases h3 : k = 3
  · subst h3; cases b <;> cases se <;> cases vd <;> by_cases g1 : n = 0 <;> by_cases g2 : kl = 0 <;> by_cases g3 : ll = 0 <;> simp_all
  by_cases h5 : k = 5
  · subst h5
    by_cases g2 : kl = ll
    · subst g2
      cases b <;> cases se <;> cases vd <;> cases rz <;> by_cases g1 : n = 0 <;> simp_all
    · have e : ((kl : Int) != (ll : Int)) = true := by rw [bne_iff_ne]; omega
      have e' : (kl == ll) = false := beq_eq_false_iff_ne.2 g2
      rw [e, e']
      clear e e'
      cases b <;> cases se <;> cases vd <;> cases rz <;> by_cases g1 : n = 0 <;> simp_all
  by_cases h4 : k = 4
  · subst h4; cases b <;> cases se <;> cases vd <;> by_cases g1 : n = 0 <;> by_cases g2 : kl = 0 <;> simp_all
  have hk : (decide (k < 0) || decide (7 < k)) = true := by
    rw [Bool.or_eq_true, decide_eq_true_eq, decide_eq_true_eq]
    omega
  rw [hk]
  simp [h0, h1, h2, h3, h4, h5, h6, h7]

mutual
theorem may_pre : ∀ (T : Tree) (d : Int), (T.pre d).all (fun x => shapedB x.2) = mayT T
  | .mk k b n s ks ts, d => by
    rw [Tree.pre, mayT, List.all_cons, may_preL ts (d + 1), shaped_head, Bool.and_assoc]
theorem may_preL : ∀ (l : List Tree) (d : Int), (Tree.preL d l).all (fun x => shapedB x.2) = mayL l
  | [], d => rfl
  | t :: ts, d => by rw [Tree.preL, mayL, List.all_append, may_pre t d, may_preL ts d]
end

theorem check_eq (T : Tree) : checkN T = if mayT T = true then (if 64 < hgtT T ∨ 1048576 < bytT T ∨ 65536 < lngT T then 3 else 0) else 110 := by
  unfold checkN
  rw [may_pre]
  have h := heavy_iff (T.pre 1) 0 (by omega)
  rw [pre_deep, pre_long, pre_bytes] at h
  have e : (heavy 0 (T.pre 1) = true) = (64 < hgtT T ∨ 1048576 < bytT T ∨ 65536 < lngT T) := propext (by rw [h]; omega)
  simp only [e]

set_option maxRecDepth 100000 in
set_option maxHeartbeats 1000000 in
theorem rcheck_any (T : Tree) (B : Nat) (v : Value) (w : World) (hB : B ≤ w.heap.size) (hv : Lies B w v T) (hS : Sane T) (htot : T.total ≤ 1000000) :
    Calls Tryz.prog 24 #[v] w fun e w' => e = .returned (.int .i64 (checkN T)) ∧ Below w.heap.size w w' := by
  have HM : Hid (∀ W, Below w.heap.size w W → Calls Tryz.prog 65 #[v] W fun e w' => e = .returned (.bool (mayT T)) ∧ Below W.heap.size W w') := fun W hb =>
    may_any T B v W (Nat.le_trans hB hb.size) (hv.below (hb.mono hB)) hS
  have HS : Hid (∀ W, Below w.heap.size w W → Calls Tryz.prog 20 #[v] W fun e w' => e = .returned (.tuple #[.int .i64 (cntT T), .int .i64 (hgtT T), .int .i64 (bytT T), .int .i64 (lngT T)]) ∧ Below W.heap.size W w') := fun W hb =>
    refsize_any T B v W (Nat.le_trans hB hb.size) (hv.below (hb.mono hB)) htot
  have HC := hidE (check_eq T)
  generalize mayT T = m at *
  generalize cntT T = t1 at *
  generalize hgtT T = t2 at *
  generalize bytT T = t3 at *
  generalize lngT T = t4 at *
  obtain ⟨k, x, n, s, ks, ts⟩ := T
  simp only [Lies] at hv
  obtain ⟨ka, kc, la, lc, rfl, -⟩ := hv
  have HB0 := hidE ((Below.refl w.heap.size w).alloc (Nat.le_refl _) (.cells #[.int .i64 k, .bool x, .int .i64 n, .string s, .slice ka ks.length kc, .slice la ts.length lc] 26))
  generalize checkN (.mk k x n s ks ts) = res at *
  clear hB hS htot
  go_enter Tryz.func24, Tryz.ntmps24
  go_wp2_with fail
  refine (HM.out _ HB0.out).mono ?_
  rintro e w1 ⟨rfl, h1⟩
  obtain ⟨hb1, hc⟩ := box_cells h1
  have c0 := hc 0 _ rfl
  have c1 := hc 1 _ rfl
  have c2 := hc 2 _ rfl
  have c3 := hc 3 _ rfl
  have c4 := hc 4 _ rfl
  have c5 := hc 5 _ rfl
  have HB1 := hidE hb1
  clear hc h1 hb1 HB0 HM
  cases m
  · go_wp2_with fail
    go_ret
    exact ⟨by rw [HC.out]; rfl, HB1.out⟩
  · go_wp2_with fail
    refine (HS.out _ HB1.out).mono ?_
    rintro e w2 ⟨rfl, h2⟩
    have HB2 := hidE (below_on HB1.out h2)
    clear h2 c0 c1 c2 c3 c4 c5 HS HB1
    by_cases g1 : 64 < t2
    · have HR : Hid (res = 3) := HC.out.trans (by simp [g1])
      have d1 : decide (64 < t2) = true := decide_eq_true g1
      clear HC g1
      go_wp2_with fail
      go_ret
      exact ⟨by rw [HR.out]; rfl, HB2.out⟩
    · have d1 : decide (64 < t2) = false := decide_eq_false g1
      by_cases g2 : 1048576 < t3
      · have HR : Hid (res = 3) := HC.out.trans (by simp [g2])
        have d2 : decide (1048576 < t3) = true := decide_eq_true g2
        clear HC g1 g2
        go_wp2_with fail
        go_ret
        exact ⟨by rw [HR.out]; rfl, HB2.out⟩
      · have d2 : decide (1048576 < t3) = false := decide_eq_false g2
        by_cases g3 : 65536 < t4
        · have HR : Hid (res = 3) := HC.out.trans (by simp [g3])
          have d3 : decide (65536 < t4) = true := decide_eq_true g3
          clear HC g1 g2 g3
          go_wp2_with fail
          go_ret
          exact ⟨by rw [HR.out]; rfl, HB2.out⟩
        · have HR : Hid (res = 0) := HC.out.trans (by simp [g1, g2, g3])
          have d3 : decide (65536 < t4) = false := decide_eq_false g3
          clear HC g1 g2 g3
          go_wp2_with fail
          go_ret
          exact ⟨by rw [HR.out]; rfl, HB2.out⟩
end Go.Proofs.YtbpmhgcjefpigaaGreatDoor

namespace Go.Proofs.YtbpmhgcjefpigaaGreatDoor
open Go.RowKit Go.Shelf
set_option linter.unusedVariables false

/-- May all of them be? -/
def fineB (ts : List Tree) : Bool := ts.all fun t => checkN t == 0

set_option maxHeartbeats 1000000 in
theorem fine_any (ts : List Tree) (B : Nat) (la : Option Addr) (lc : Nat) (w : World) (hB : B ≤ w.heap.size) (hl : ListLies B w la ts) (h1 : ts.length ≤ lc) (h2 : lc ≤ maxLen) (hm : ∀ t ∈ ts, Sane t ∧ t.total ≤ 1000000) :
    Calls Tryz.prog 21 #[.slice la ts.length lc] w fun e w' => e = .returned (.bool (fineB ts)) ∧ Below w.heap.size w w' := by
  unfold maxLen at h2
  have HM := hidE hm
  clear hm
  go_enter Tryz.func21, Tryz.ntmps21
  go_wp2_with fail
  go_loopw [3] (fun i wr => ∃ j : Nat, j ≤ ts.length ∧ i = .int .i64 j ∧ Below w.heap.size w wr ∧ fineB (ts.take j) = true) (fun i _ => ts.length - (intOf i).toNat)
  case atStart => exact ⟨0, Nat.zero_le _, rfl, Below.refl _ _, rfl⟩
  case round =>
    obtain ⟨j, hj, rfl, hbr, hno⟩ := hrel
    have HNO := hidE hno
    clear hno
    by_cases hlt : j < ts.length
    · obtain ⟨bl, off, rfl, hbl, hkl⟩ := hl.resolve_left (by intro e; subst e; simp at hlt)
      obtain ⟨⟨p0, p1, p2, p3, p4, p5⟩, hx⟩ : ∃ t, ts[j]? = some t := ⟨_, List.getElem?_eq_getElem hlt⟩
      obtain ⟨ja, jc, jl, jd, ⟨c0, c1, c2, c3, c4, c5⟩, hlx⟩ := (hkl.below (hbr.mono hB) hbl).cells hx
      have hmx := HM.out _ (List.mem_of_getElem? hx)
      have HX := hidE hx
      have HC := hidE (rcheck_any _ B _ wr (Nat.le_trans hB hbr.size) hlx hmx.1 hmx.2)
      clear hx hkl hlx hmx
      go_wp2_with fail
      refine HC.out.mono ?_
      rintro e w' ⟨rfl, hk2⟩
      have HB2 : Hid (Below w.heap.size w w') := below_on hbr hk2
      generalize hcn : checkN (.mk p0 p1 p2 p3 p4 p5) = cn at *
      have HCN := hidE hcn
      clear hk2 HC hcn c0 c1 c2 c3 c4 c5
      by_cases z : cn = 0
      · have z' : (cn != 0) = false := by simp [z]
        go_wp2_with fail
        go_roundw
        case rel =>
          refine ⟨j + 1, by omega, by go_num, HB2.out, ?_⟩
          unfold fineB
          rw [List.take_add_one, HX.out, List.all_append]
          have := HNO.out
          unfold fineB at this
          rw [this]
          simp [HCN.out, z]
        case measure => simp [intOf]; omega
      · have z' : (cn != 0) = true := by simp [z]
        have HF : Hid (fineB ts = false) := by
          show _ = _
          unfold fineB
          rw [List.all_eq_false]
          exact ⟨_, List.mem_of_getElem? HX.out, by rw [HCN.out]; simpa using z⟩
        go_wp2_with fail
        go_ret
        exact ⟨by rw [HF.out]; rfl, HB2.out⟩
    · have HT : Hid (fineB ts = true) := by
        have := HNO.out
        rw [List.take_of_length_le (by omega)] at this
        exact this
      have HBR := hidE hbr
      go_wp2_with fail
      go_ret
      exact ⟨by rw [HT.out]; rfl, HBR.out⟩
end Go.Proofs.YtbpmhgcjefpigaaGreatDoor

namespace Go.Proofs.YtbpmhgcjefpigaaGreatDoor
open Go.RowKit Go.Shelf Go.Lib
set_option linter.unusedVariables false
set_option linter.unusedSimpArgs false

/-- 'append(row, list...)' in the walk. -/
theorem append_list {ops : Array Oper} {rest : List Oper} {o : Oper} {a : Act} {Q : Exit → Act → World → Prop} (w : World) (hw : Region.wanted o (yielded ops a.tmps) = true) (sl x : Operand)
    (ho : o.op = .call { callee := .builtin .append, args := #[sl, x], argTypes := #[24, 24] }) (B base n : Nat) (v : Value) (xs : List Value) (hs : a.eval sl = v) (hown : w.ownsRow base 26 6 v n xs) (la : Option Addr) (ts : List Tree) (lc : Nat) (hx : a.eval x = .slice la ts.length lc)
    (hl : ListLies B w la ts) (hn : n + ts.length ≤ 1000000) (hB : base ≤ w.heap.size)
    (h : ∀ v' w' ys, RowL B w ys ts → w'.ownsRow base 26 6 v' (n + ts.length) (xs ++ ys) → w.grownBy w' v.ownBlock → (v'.ownBlock = v.ownBlock ∨ v'.ownBlock = some w.heap.size) → wpList Tryz.prog ops Q rest (a.put o.dst v') w') : wpList Tryz.prog ops Q (o :: rest) a w := by
  refine BigFrame.wpList_want hw fun K hK => ?_
  obtain ⟨v', w', ys, hr, h1, h2, h3, h4⟩ := append_values (ty := o.type) (lc := lc) hown hl hn hB
  unfold Oper.wp execOp
  simp only [ho, resolve, invoke, builtin, Sem.run_bind, Sem.run_pure, Result.andThen_ok, List.map_toArray, List.map_cons, List.map_nil, hs, hx, hr]
  exact hK _ _ (h v' w' ys h1 h2 h3 h4)

theorem any_fine (ts : List Tree) : (ts.any fun t => checkN t != 0) = !fineB ts := by
  unfold fineB
  induction ts with
  | nil => rfl
  | cons t r ih => simp only [List.any_cons, List.all_cons, ih]; cases h : (checkN t == 0) <;> simp [bne, h]
theorem fine_known : ∀ {ts : List Tree}, fineB ts = true → KnownL ts
  | [], _ => by simp only [KnownL]
  | t :: r, h => by
    simp only [fineB, List.all_cons, Bool.and_eq_true, beq_iff_eq] at h
    simp only [KnownL]
    exact ⟨known_check h.1, fine_known h.2⟩
theorem rowsN_fine {a b : List Tree} (ha : fineB a = true) (hb : fineB b = true) : rowsN a b = ordL a b := by
  unfold rowsN; rw [any_fine, any_fine, ha, hb]; rfl
theorem rowsN_not {a b : List Tree} (h : ¬ (fineB a = true ∧ fineB b = true)) : rowsN a b = 0 := by
  unfold rowsN
  rw [any_fine, any_fine]
  cases ha : fineB a <;> cases hb : fineB b <;> simp_all

/-- A row of the call's own that was laid in two: what lies in it. -/
theorem rows_laid {B base : Nat} {w0 w1 w2 : World} {v0 v1 v2 : Value} {ys zs : List Value} {a b : List Tree} (h0 : w0.ownsRow base 26 6 v0 0 []) (hbase : base ≤ w0.heap.size) (hB : B ≤ base) (h1 : RowL B w0 ys a) (h2 : w1.ownsRow base 26 6 v1 (0 + a.length) ([] ++ ys)) (h3 : w0.grownBy w1 v0.ownBlock)
    (k1 : RowL B w1 zs b) (k2 : w2.ownsRow base 26 6 v2 (0 + a.length + b.length) ([] ++ ys ++ zs)) (k3 : w1.grownBy w2 v1.ownBlock) :
    Below base w0 w2 ∧ ∃ ad cap, v2 = .slice ad (a ++ b).length cap ∧ (a ++ b).length ≤ cap ∧ cap ≤ maxLen ∧ ListLies w2.heap.size w2 ad (a ++ b) := by
  have b1 : Below base w0 w1 := (Below.refl base w0).grown h3 hbase fun q h => (h0.lt q h).1
  have b2 : Below base w1 w2 := (Below.refl base w1).grown k3 (Nat.le_trans hbase b1.size) fun q h => (h2.lt q h).1
  have b02 := b1.trans b2
  refine ⟨b02, ?_⟩
  have hlen : (a ++ b).length = 0 + a.length + b.length := by simp
  rw [hlen]
  have hr : RowL B w2 (ys ++ zs) (a ++ b) := (h1.stay (b02.mono hB)).append (k1.stay (b2.mono hB))
  have hk2 := k2
  rcases k2.2 with ⟨rfl, h⟩ | ⟨g, cap, cur, rfl, hbg, hg, hnc, hcm, hcs, htake⟩
  · have : a ++ b = [] := List.eq_nil_of_length_eq_zero (by rw [hlen]; omega)
    exact ⟨none, 0, by rw [h], by omega, by unfold maxLen; omega, .inl this⟩
  · refine ⟨some ⟨g, 0, none⟩, cap, rfl, hnc, hcm, .inr ⟨g, 0, rfl, (Array.getElem?_eq_some_iff.1 hg).1, ?_⟩⟩
    have hr2 := hr.mono (Nat.le_trans hB (Nat.le_trans hbase b02.size))
    refine hr2.kids (fun j u hu => ?_) hr2
    have := hk2.cells (g := g) rfl j u (by simpa using hu)
    rwa [add_plain] at this

set_option maxRecDepth 100000 in
set_option maxHeartbeats 8000000 in
theorem rows_law (a b : List Tree) (D : Nat) (la : Option Addr) (ca : Nat) (lb : Option Addr) (cb : Nat) (w : World) (hD : D ≤ w.heap.size) (hA : ListLies D w la a) (hB : ListLies D w lb b) (h1 : a.length ≤ ca) (h2 : ca ≤ maxLen) (h3 : b.length ≤ cb) (h4 : cb ≤ maxLen) (sA : SaneL a) (sB : SaneL b) (hT : Tabs w)
    (hP : TabBelow Tryz.prog w.heap.size w "internal/strconv.uint64pow10" .u64 pow10Tab) : Calls Tryz.prog 5 #[.slice la a.length ca, .slice lb b.length cb] w fun e w' => e = .returned (.bool true) ∧ Below w.heap.size w w' := by
  have HWK : Hid (∀ w', Below w.heap.size w w' → Calls Tryz.prog 16 #[] w' fun e w2 => e = .returned (.bool true) ∧ Below w'.heap.size w' w2) := fun w' hb => works_any w' (hT.below hb) (fun w2 h => hP w2 (hb.trans (h.mono hb.size)))
  have HLA : Hid (∀ w', Below w.heap.size w w' → ListLies D w' la a ∧ ListLies D w' lb b ∧ D ≤ w'.heap.size ∧ Tabs w') := fun w' hb => ⟨hA.below (hb.mono hD), hB.below (hb.mono hD), Nat.le_trans hD hb.size, hT.below hb⟩
  have HM := hidE (And.intro h2 h4)
  have HS := hidE (And.intro sA sB)
  unfold maxLen at h2 h4
  clear hT hP hA hB sA sB
  go_enter Tryz.func5, Tryz.ntmps5
  by_cases hla : 2000 < a.length
  · have hla' : (2000 : Int) < a.length := by omega
    go_wp2_with fail
    refine (HWK.out w (Below.refl _ _)).mono ?_
    rintro e w1 ⟨rfl, hb1⟩
    have HB1 := hidE hb1
    clear hb1
    go_wp2_with fail
    go_ret
    exact ⟨rfl, HB1.out⟩
  · have hla' : ¬ (2000 : Int) < a.length := by omega
    by_cases hlb : 2000 < b.length
    · have hlb' : (2000 : Int) < b.length := by omega
      go_wp2_with fail
      refine (HWK.out w (Below.refl _ _)).mono ?_
      rintro e w1 ⟨rfl, hb1⟩
      have HB1 := hidE hb1
      clear hb1
      go_wp2_with fail
      go_ret
      exact ⟨rfl, HB1.out⟩
    · have hlb' : ¬ (2000 : Int) < b.length := by omega
      obtain ⟨W1, hW1⟩ : ∃ W1, w.alloc (.cells #[] 26) = W1 := ⟨_, rfl⟩
      have hbW1 : Below w.heap.size w W1 := hW1 ▸ (Below.refl _ _).alloc (Nat.le_refl _) _
      have HO0 : Hid (W1.ownsRow w.heap.size 26 6 (.slice (some ⟨w.heap.size, 0, none⟩) 0 0) 0 []) := hW1 ▸ World.ownsRow_lit w #[] 0 (Nat.le_refl _) (by unfold maxLen; omega) rfl
      have HL1 : Hid (ListLies D W1 la a ∧ w.heap.size ≤ W1.heap.size) := ⟨(HLA.out W1 hbW1).1, hbW1.size⟩
      have HL2 : Hid (∀ w', W1.grownBy w' (Value.slice (some ⟨w.heap.size, 0, none⟩) 0 0).ownBlock → ListLies D w' lb b ∧ w.heap.size ≤ w'.heap.size) := fun w' hg => by
        have hb : Below w.heap.size W1 w' := (Below.refl _ W1).grown hg hbW1.size fun q h => (HO0.out.lt q h).1
        have hbw := hbW1.trans hb
        exact ⟨(HLA.out w' hbw).2.1, hbw.size⟩
      have HBW := hidE hbW1
      have HW1 := hidE hW1
      have HA1 : Hid (0 + a.length ≤ 1000000) := by show _ ≤ _; omega
      have HA2 : Hid (0 + a.length + b.length ≤ 1000000) := by show _ ≤ _; omega
      clear hbW1 hW1
      go_wp2_with (first
        | (at_builtin; rw [HW1.out]; refine append_list W1 (by rfl) _ _ rfl D w.heap.size 0 _ [] rfl HO0.out la a ca rfl HL1.out.1 HA1.out HL1.out.2 ?_; intro v1 w1 ys g1 g2 g3 g4)
        | (at_builtin; refine append_list _ (by rfl) _ _ rfl D w.heap.size (0 + a.length) _ _ rfl (by assumption) lb b cb rfl (HL2.out _ (by assumption)).1 HA2.out (HL2.out _ (by assumption)).2 ?_; intro v2 w2 zs k1 k2 k3 k4))
      obtain ⟨hbs, ad, cap, rfl, hc1, hc2, hlist⟩ := rows_laid HO0.out HBW.out.size hD g1 g2 g3 k1 k2 k3
      have HB2 : Hid (Below w.heap.size w w2) := HBW.out.trans hbs
      have HSM := hidE (smalls_any (a ++ b) w2.heap.size ad cap w2 (Nat.le_refl _) hlist hc1 hc2 (fun t ht => (List.mem_append.1 ht).elim (fun h => HS.out.1.mem h) (fun h => HS.out.2.mem h)))
      clear g1 g2 g3 g4 k1 k2 k3 k4 hbs hlist hc1 hc2 HO0 HL1 HL2 HW1 HBW HA1 HA2
      refine HSM.out.mono ?_
      rintro e w3 ⟨rfl, hb3⟩
      have HB3 : Hid (Below w.heap.size w w3) := below_on HB2.out hb3
      clear hb3 HSM
      by_cases hsm : smalls (a ++ b) ≤ 2000
      · have HTOT := hidE (small_total hsm)
        have hd : decide (smalls (a ++ b) ≤ 2000) = true := by simp [hsm]
        rw [hd]
        clear hsm hd
        have HMA : Hid (∀ t ∈ a, Modest t ∧ Sane t ∧ t.total ≤ 1000000) := fun t ht => ⟨modest_total (HTOT.out t (List.mem_append_left _ ht)), HS.out.1.mem ht, by have := HTOT.out t (List.mem_append_left _ ht); omega⟩
        have HMB : Hid (∀ t ∈ b, Modest t ∧ Sane t ∧ t.total ≤ 1000000) := fun t ht => ⟨modest_total (HTOT.out t (List.mem_append_right _ ht)), HS.out.2.mem ht, by have := HTOT.out t (List.mem_append_right _ ht); omega⟩
        have HFA : Hid (∀ W, Below w.heap.size w W → Calls Tryz.prog 21 #[.slice la a.length ca] W fun e w' => e = .returned (.bool (fineB a)) ∧ Below W.heap.size W w') := fun W hb => fine_any a D la ca W (HLA.out W hb).2.2.1 (HLA.out W hb).1 h1 HM.out.1 (fun t ht => (HMA.out t ht).2)
        have HFB : Hid (∀ W, Below w.heap.size w W → Calls Tryz.prog 21 #[.slice lb b.length cb] W fun e w' => e = .returned (.bool (fineB b)) ∧ Below W.heap.size W w') := fun W hb => fine_any b D lb cb W (HLA.out W hb).2.2.1 (HLA.out W hb).2.1 h3 HM.out.2 (fun t ht => (HMB.out t ht).2)
        have HCR : Hid (∀ W, Below w.heap.size w W → Calls Tryz.prog 34 #[.slice la a.length ca, .slice lb b.length cb] W (fun e w' => e = .returned (.int .i64 (rowsN a b)) ∧ Below W.heap.size W w') ∧ Calls Tryz.prog 34 #[.slice lb b.length cb, .slice la a.length ca] W (fun e w' => e = .returned (.int .i64 (rowsN b a)) ∧ Below W.heap.size W w')) := fun W hb =>
          ⟨CompareRows_any a b D la lb ca cb W (HLA.out W hb).2.2.1 (HLA.out W hb).1 (HLA.out W hb).2.1 h1 HM.out.1 h3 HM.out.2 (HLA.out W hb).2.2.2 (fun t ht => (HMA.out t ht).1) (fun t ht => (HMB.out t ht).1),
            CompareRows_any b a D lb la cb ca W (HLA.out W hb).2.2.1 (HLA.out W hb).2.1 (HLA.out W hb).1 h3 HM.out.2 h1 HM.out.1 (HLA.out W hb).2.2.2 (fun t ht => (HMB.out t ht).1) (fun t ht => (HMA.out t ht).1)⟩
        have HRR : Hid (∀ W, Below w.heap.size w W → KnownL a → KnownL b → Calls Tryz.prog 33 #[.slice la a.length ca, .slice lb b.length cb] W (fun e w' => e = .returned (.int .i64 (ordL a b)) ∧ Below W.heap.size W w')) := fun W hb ka kb =>
          refrows_all a D la lb ca cb b W (HLA.out W hb).2.2.1 (HLA.out W hb).1 (HLA.out W hb).2.1 h1 HM.out.1 h3 HM.out.2 ka kb
        clear HTOT HMA HMB
        go_wp2_with fail
        refine (HFA.out w3 HB3.out).mono ?_
        rintro e w4 ⟨rfl, hb4⟩
        have HB4 : Hid (Below w.heap.size w w4) := below_on HB3.out hb4
        clear hb4
        cases hfa : fineB a with
        | false =>
          have HN : Hid (rowsN a b = 0 ∧ rowsN b a = 0) := ⟨rowsN_not (by simp [hfa]), rowsN_not (by simp [hfa])⟩
          clear hfa
          go_wp2_with fail
          refine (HCR.out w4 HB4.out).1.mono ?_
          rintro e w5 ⟨rfl, hb5⟩
          have HB5 : Hid (Below w.heap.size w w5) := below_on HB4.out hb5
          clear hb5
          rw [HN.out.1]
          go_wp2_with fail
          refine (HCR.out w5 HB5.out).2.mono ?_
          rintro e w6 ⟨rfl, hb6⟩
          have HB6 : Hid (Below w.heap.size w w6) := below_on HB5.out hb6
          clear hb6
          rw [HN.out.2]
          go_wp2_with fail
          refine (HWK.out w6 HB6.out).mono ?_
          rintro e w7 ⟨rfl, hb7⟩
          have HB7 : Hid (Below w.heap.size w w7) := below_on HB6.out hb7
          clear hb7
          go_wp2_with fail
          go_ret
          exact ⟨rfl, HB7.out⟩
        | true =>
          have HFA1 := hidE hfa
          clear hfa
          go_wp2_with fail
          refine (HFB.out w4 HB4.out).mono ?_
          rintro e w5 ⟨rfl, hb5⟩
          have HB5 : Hid (Below w.heap.size w w5) := below_on HB4.out hb5
          clear hb5
          cases hfb : fineB b with
          | false =>
            have HN : Hid (rowsN a b = 0 ∧ rowsN b a = 0) := ⟨rowsN_not (by simp [hfb]), rowsN_not (by simp [hfb])⟩
            clear hfb
            go_wp2_with fail
            refine (HCR.out w5 HB5.out).1.mono ?_
            rintro e w6 ⟨rfl, hb6⟩
            have HB6 : Hid (Below w.heap.size w w6) := below_on HB5.out hb6
            clear hb6
            rw [HN.out.1]
            go_wp2_with fail
            refine (HCR.out w6 HB6.out).2.mono ?_
            rintro e w7 ⟨rfl, hb7⟩
            have HB7 : Hid (Below w.heap.size w w7) := below_on HB6.out hb7
            clear hb7
            rw [HN.out.2]
            go_wp2_with fail
            refine (HWK.out w7 HB7.out).mono ?_
            rintro e w8 ⟨rfl, hb8⟩
            have HB8 : Hid (Below w.heap.size w w8) := below_on HB7.out hb8
            clear hb8
            go_wp2_with fail
            go_ret
            exact ⟨rfl, HB8.out⟩
          | true =>
            have HKK : Hid (KnownL a ∧ KnownL b) := ⟨fine_known HFA1.out, fine_known hfb⟩
            obtain ⟨wv, hwv⟩ : ∃ x, ordL a b = x := ⟨_, rfl⟩
            have HN : Hid (rowsN a b = wv ∧ rowsN b a = -wv) := ⟨by rw [rowsN_fine HFA1.out hfb, hwv], by rw [rowsN_fine hfb HFA1.out, ordL_turn a b HKK.out.1 HKK.out.2, hwv]⟩
            have h3v := ordL_three a b
            rw [hwv] at h3v
            have hrange : -1 ≤ wv ∧ wv ≤ 1 := by unfold Three at h3v; omega
            have HWV := hidE hwv
            clear hfb hwv h3v
            go_wp2_with fail
            refine (HRR.out w5 HB5.out HKK.out.1 HKK.out.2).mono ?_
            rintro e w6 ⟨rfl, hb6⟩
            have HB6 : Hid (Below w.heap.size w w6) := below_on HB5.out hb6
            clear hb6
            rw [HWV.out]
            obtain ⟨hr1, hr2⟩ := hrange
            go_wp2_with fail
            refine (HCR.out w6 HB6.out).1.mono ?_
            rintro e w7 ⟨rfl, hb7⟩
            have HB7 : Hid (Below w.heap.size w w7) := below_on HB6.out hb7
            clear hb7
            rw [HN.out.1]
            go_wp2_with fail
            refine (HCR.out w7 HB7.out).2.mono ?_
            rintro e w8 ⟨rfl, hb8⟩
            have HB8 : Hid (Below w.heap.size w w8) := below_on HB7.out hb8
            clear hb8
            rw [HN.out.2]
            go_wp2_with fail
            refine (HWK.out w8 HB8.out).mono ?_
            rintro e w9 ⟨rfl, hb9⟩
            have HB9 : Hid (Below w.heap.size w w9) := below_on HB8.out hb9
            clear hb9
            go_wp2_with fail
            go_ret
            exact ⟨rfl, HB9.out⟩
      · have hd : decide (smalls (a ++ b) ≤ 2000) = false := by simp [hsm]
        rw [hd]
        clear hsm hd
        go_wp2_with fail
        refine (HWK.out w3 HB3.out).mono ?_
        rintro e w4 ⟨rfl, hb4⟩
        have HB4 : Hid (Below w.heap.size w w4) := below_on HB3.out hb4
        clear hb4
        go_wp2_with fail
        go_ret
        exact ⟨rfl, HB4.out⟩
end Go.Proofs.YtbpmhgcjefpigaaGreatDoor

