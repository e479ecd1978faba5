/- The document's Size: how many values there are, how deep, how many bytes, and the longest list. The document's Check is the program's. -/
import Derived.Test.YtbpmhgcjefpigaaGreatDoorJoin9
import Derived.Test.YtbpmhgcjefpigaaGreatDoorJoin10
namespace Go.Proofs.YtbpmhgcjefpigaaGreatDoor
open Go.RowKit Go.WideShapes Go.Shelf
set_option linter.unusedVariables false
mutual
def cntT : Tree → Int
 | .mk k b n s ks ts => 1 + cntL ts
def cntL : List Tree → Int
 | [] => 0
 | t :: ts => cntT t + cntL ts
end
mutual
def bytT : Tree → Int
 | .mk k b n s ks ts => s.size + keyBytes ks + bytL ts
def bytL : List Tree → Int
 | [] => 0
 | t :: ts => bytT t + bytL ts
end
mutual
def lngT : Tree → Int
 | .mk k b n s ks ts => max (ts.length : Int) (lngL ts)
def lngL : List Tree → Int
 | [] => 0
 | t :: ts => max (lngT t) (lngL ts)
end
mutual
def hgtT : Tree → Int
 | .mk k b n s ks ts => hgtL ts + 1
def hgtL : List Tree → Int
 | [] => 0
 | t :: ts => max (hgtT t) (hgtL ts)
end
mutual
theorem size_le : ∀ (T : Tree), (1 ≤ cntT T ∧ cntT T ≤ T.total) ∧ (0 ≤ bytT T ∧ bytT T ≤ T.total) ∧ (0 ≤ lngT T ∧ lngT T ≤ T.total) ∧ (1 ≤ hgtT T ∧ hgtT T ≤ T.total)
 | .mk k b n s ks ts => by
  have h := sizeL_le ts
  have hk := keyBytes_nonneg ks
  simp only [cntT, bytT, lngT, hgtT, Tree.total]
  omega
theorem sizeL_le : ∀ (l : List Tree), (0 ≤ cntL l ∧ cntL l ≤ Tree.totalL l) ∧ (0 ≤ bytL l ∧ bytL l ≤ Tree.totalL l) ∧ (0 ≤ lngL l ∧ lngL l ≤ Tree.totalL l) ∧ (0 ≤ hgtL l ∧ hgtL l ≤ Tree.totalL l) ∧ (l.length : Int) ≤ Tree.totalL l
 | [] => by simp [cntL, bytL, lngL, hgtL, Tree.totalL]
 | t :: ts => by
  have h := size_le t
  have g := sizeL_le ts
  simp only [cntL, bytL, lngL, hgtL, Tree.totalL, List.length_cons]
  omega
end
theorem cntL_append : ∀ (a b : List Tree), cntL (a ++ b) = cntL a + cntL b
 | [], b => by simp [cntL]
 | t :: a, b => by simp only [List.cons_append, cntL, cntL_append a b]; omega
theorem bytL_append : ∀ (a b : List Tree), bytL (a ++ b) = bytL a + bytL b
 | [], b => by simp [bytL]
 | t :: a, b => by simp only [List.cons_append, bytL, bytL_append a b]; omega
theorem lngL_append : ∀ (a b : List Tree), lngL (a ++ b) = max (lngL a) (lngL b)
 | [], b => by have := (sizeL_le b).2.2.1.1; simp only [List.nil_append, lngL]; omega
 | t :: a, b => by simp only [List.cons_append, lngL, lngL_append a b]; omega
theorem hgtL_append : ∀ (a b : List Tree), hgtL (a ++ b) = max (hgtL a) (hgtL b)
 | [], b => by have := (sizeL_le b).2.2.2.1.1; simp only [List.nil_append, hgtL]; omega
 | t :: a, b => by simp only [List.cons_append, hgtL, hgtL_append a b]; omega
theorem totalL_append : ∀ (a b : List Tree), Tree.totalL (a ++ b) = Tree.totalL a + Tree.totalL b
 | [], b => by simp [Tree.totalL]
 | t :: a, b => by simp only [List.cons_append, Tree.totalL, totalL_append a b]; omega
theorem totalL_nonneg (l : List Tree) : 0 ≤ Tree.totalL l := by have := (sizeL_le l).1; omega
theorem totalL_take (ts : List Tree) (p : Nat) : Tree.totalL (ts.take p) ≤ Tree.totalL ts := by
 have h := totalL_append (ts.take p) (ts.drop p)
 rw [List.take_append_drop] at h
 have := totalL_nonneg (ts.drop p)
 omega
def Four (s0 : Int) (ts : List Tree) (p : Nat) (a b c d : Value) : Prop :=
 a = .int .i64 (1 + cntL (ts.take p)) ∧ b = .int .i64 (hgtL (ts.take p)) ∧ c = .int .i64 (s0 + bytL (ts.take p)) ∧ d = .int .i64 (max (ts.length : Int) (lngL (ts.take p)))
theorem results_tmp4 {fn : Func} {t u v x : Tmp} (h : fn.results = #[.tmp t, .tmp u, .tmp v, .tmp x]) (tmps : Array Value) (P : Program) (w : World) :
  (results fn tmps).run P w = .ok (.tuple #[tmps.getD t undef, tmps.getD u undef, tmps.getD v undef, tmps.getD x undef]) w := by
 simp [results, h]
set_option maxRecDepth 100000 in
set_option maxHeartbeats 4000000 in
theorem refsize_any : ∀ (T : Tree) (B : Nat) (v : Value) (w : World), B ≤ w.heap.size → Lies B w v T → T.total ≤ 1000000 →
  Calls Tryz.prog 20 #[v] w fun e w' => e = .returned (.tuple #[.int .i64 (cntT T), .int .i64 (hgtT T), .int .i64 (bytT T), .int .i64 (lngT T)]) ∧ Below w.heap.size w w' := by
 refine Tree.ind ?_
 intro k x n s ks ts ih B v w hB hv htot
 have hsz := size_le (.mk k x n s ks ts)
 have hszL := sizeL_le ts
 have hkb := keyBytes_nonneg ks
 simp only [Lies] at hv
 obtain ⟨ka, kc, la, lc, rfl, ⟨hs1, hs2, hs3, hs4, hs5⟩, hk, ht⟩ := hv
 unfold maxLen at hs1 hs3 hs5
 simp only [Tree.total] at htot
 obtain ⟨W1, hW1⟩ : ∃ W1, w.alloc (.cells #[.int .i64 k, .bool x, .int .i64 n, .string s, .slice ka ks.length kc, .slice la ts.length lc] 26) = W1 := ⟨_, rfl⟩
 have HX : Hid (∀ W, Below W1.heap.size W1 W → Below w.heap.size w W ∧ (W.cell? ⟨w.heap.size, 3, none⟩ = some (.string s) ∧ W.cell? ⟨w.heap.size, 4, none⟩ = some (.slice ka ks.length kc) ∧ W.cell? ⟨w.heap.size, 5, none⟩ = some (.slice la ts.length lc))) := fun W hb => by
  rw [← hW1] at hb
  obtain ⟨h1, h2⟩ := box_cells hb
  exact ⟨h1, h2 3 _ rfl, h2 4 _ rfl, h2 5 _ rfl⟩
 have HRES : Hid (cntT (.mk k x n s ks ts) = 1 + cntL ts ∧ hgtT (.mk k x n s ks ts) = hgtL ts + 1 ∧ bytT (.mk k x n s ks ts) = s.size + keyBytes ks + bytL ts ∧ lngT (.mk k x n s ks ts) = max (ts.length : Int) (lngL ts)) := by
  refine ⟨?_, ?_, ?_, ?_⟩
  ·rw [cntT]
  ·rw [hgtT]
  ·rw [bytT]
  ·rw [lngT]
 have HW1 := hidE hW1
 have HIH := hidE ih
 have HKK := hidE hk
 have HTT := hidE ht
 have HTOT := hidE htot
 have HSL := hidE hszL
 have HKB := hidE hkb
 have hsl1 : (s.size : Int) ≤ 1000000 := by omega
 have hsl2 : (ts.length : Int) ≤ 1000000 := by omega
 have hsl3 : (ks.length : Int) ≤ 1000000 := by have := totalL_nonneg ts; omega
 generalize cntT (.mk k x n s ks ts) = r1 at *
 generalize hgtT (.mk k x n s ks ts) = r2 at *
 generalize bytT (.mk k x n s ks ts) = r3 at *
 generalize lngT (.mk k x n s ks ts) = r4 at *
 clear ih hk ht hW1 hsz hszL hkb htot
 obtain ⟨_, p3, p4, p5⟩ := HX.out W1 (Below.refl _ _)
 go_enter Tryz.func20, Tryz.ntmps20
 go_upto_region 1 with fail
 rw [HW1.out]
 go_quiet (fail)
 go_wp2_with fail
 clear p3 p4 p5 HW1
 go_loopw [10, 8] (fun i u wr => ∃ j : Nat, j ≤ ks.length ∧ i = .int .i64 j ∧ u = .int .i64 ((s.size : Int) + keyBytes (ks.take j)) ∧ Below W1.heap.size W1 wr) (fun i _ _ => ks.length - (intOf i).toNat)
 case atStart => exact ⟨0, Nat.zero_le _, rfl, by simp [keyBytes], below_drewN (Below.refl _ _) _⟩
 case round =>
  obtain ⟨j, hj, rfl, rfl, hbr⟩ := hrel
  obtain ⟨hbw, q3, q4, q5⟩ := HX.out wr hbr
  have HBR := hidE hbr
  have HBV := hidE hbw
  clear hbr hbw q3 q5
  have hle := keyBytes_le ks j
  have hge := keyBytes_nonneg (ks.take j)
  by_cases hja : j < ks.length
  ·obtain ⟨bk, off, rfl, hbk, hkey⟩ := (HKK.out.below (HBV.out.mono hB)).resolve_left (by intro e; subst e; simp at hja)
   have hc := (hkey j hja).1
   have HSN := hidE (keyBytes_take ks j hja)
   have hle2 := keyBytes_le ks (j + 1)
   clear hkey
   generalize ks.getD j ⟨#[]⟩ = y at *
   have hb1 : (s.size : Int) + keyBytes (ks.take j) + y.size ≤ 1000000 := by have := HTOT.out; have := HSN.out; have := totalL_nonneg ts; omega
   have hb0 : 0 ≤ (s.size : Int) + keyBytes (ks.take j) := by omega
   clear hle hge hle2
   generalize keyBytes (ks.take j) = kb at *
   go_wp2_with fail
   go_roundw
   case rel => exact ⟨j + 1, by omega, by go_num, by rw [HSN.out, ← Int.add_assoc], HBR.out⟩
   case measure => simp [intOf]; omega
  ·have HKT : Hid (keyBytes (ks.take j) = keyBytes ks) := by show _ = _; rw [List.take_of_length_le (by omega)]
   clear hle hge
   rw [HKT.out]
   clear HKT HKK
   go_wp2_with fail
   clear q4
   go_loopw [11, 6, 7, 8, 9] (fun i a b c d wr => ∃ p : Nat, p ≤ ts.length ∧ i = .int .i64 p ∧ Four ((s.size : Int) + keyBytes ks) ts p a b c d ∧ Below W1.heap.size W1 wr) (fun i _ _ _ _ _ => ts.length - (intOf i).toNat)
   case atStart => exact ⟨0, Nat.zero_le _, rfl, ⟨by simp [cntL], by simp [hgtL], by simp [bytL], by simp [lngL]⟩, HBR.out⟩
   case round =>
    obtain ⟨p, hp, rfl, ⟨rfl, rfl, rfl, rfl⟩, hbr2⟩ := hrel
    obtain ⟨hbw2, q3, q4, q5⟩ := HX.out _ hbr2
    have HBR2 := hidE hbr2
    have HBW2 := hidE hbw2
    clear hbr2 hbw2 q3 q4
    have hS1 := sizeL_le (ts.take p)
    have hS2 := totalL_take ts p
    by_cases hlt : p < ts.length
    ·obtain ⟨bl, off, rfl, hbl, hkk⟩ := HTT.out.resolve_left (by intro e; subst e; simp at hlt)
     obtain ⟨⟨p0, p1, p2, p3, p4, p5⟩, hx⟩ : ∃ t, ts[p]? = some t := ⟨_, List.getElem?_eq_getElem hlt⟩
     obtain ⟨ja, jc, jl, jd, ⟨c0, c1, c2, c3, c4, c5⟩, hlx⟩ := (hkk.below (HBW2.out.mono hB) hbl).cells hx
     have hm := totalL_mem (List.mem_of_getElem? hx)
     have HC := hidE (HIH.out _ (List.mem_of_getElem? hx) B _ wr (Nat.le_trans hB HBW2.out.size) hlx (by have := HTOT.out; have := HKB.out; omega))
     have hS3 := size_le (.mk p0 p1 p2 p3 p4 p5)
     have hS4 := sizeL_le (ts.take (p + 1))
     have hS5 := totalL_take ts (p + 1)
     have HQ : Hid (cntL (ts.take (p + 1)) = cntL (ts.take p) + cntT (.mk p0 p1 p2 p3 p4 p5) ∧ hgtL (ts.take (p + 1)) = max (hgtL (ts.take p)) (hgtT (.mk p0 p1 p2 p3 p4 p5)) ∧ bytL (ts.take (p + 1)) = bytL (ts.take p) + bytT (.mk p0 p1 p2 p3 p4 p5) ∧ lngL (ts.take (p + 1)) = max (lngL (ts.take p)) (lngT (.mk p0 p1 p2 p3 p4 p5))) := by
      rw [take_snoc hx]
      have g := size_le (.mk p0 p1 p2 p3 p4 p5)
      refine ⟨?_, ?_, ?_, ?_⟩
      ·rw [cntL_append]; simp [cntL]
      ·rw [hgtL_append]; simp only [hgtL]; omega
      ·rw [bytL_append]; simp [bytL]
      ·rw [lngL_append]; simp only [lngL]; omega
     clear hkk hlx hx
     generalize cntT (.mk p0 p1 p2 p3 p4 p5) = t1 at *
     generalize hgtT (.mk p0 p1 p2 p3 p4 p5) = t2 at *
     generalize bytT (.mk p0 p1 p2 p3 p4 p5) = t3 at *
     generalize lngT (.mk p0 p1 p2 p3 p4 p5) = t4 at *
     generalize (Tree.mk p0 p1 p2 p3 p4 p5).total = t5 at *
     have hA : cntL (ts.take p) + t1 ≤ 1000000 ∧ bytL (ts.take p) + t3 + (s.size : Int) + keyBytes ks ≤ 1000000 := by have := HTOT.out; have := HKB.out; have := HQ.out; omega
     have hB0 := HKB.out
     have hN : 0 ≤ cntL (ts.take p) ∧ 0 ≤ bytL (ts.take p) ∧ 0 ≤ t1 ∧ 0 ≤ t3 := by omega
     clear hS1 hS2 hS3 hS4 hS5 hm
     generalize cntL (ts.take p) = m1 at *
     generalize hgtL (ts.take p) = m2 at *
     generalize bytL (ts.take p) = m3 at *
     generalize lngL (ts.take p) = m4 at *
     generalize keyBytes ks = kb at *
     go_wp2_with fail
     refine HC.out.mono ?_; rintro e w' ⟨rfl, hk2⟩
     have HB2 := hidE (HBR2.out.trans (hk2.mono HBR2.out.size))
     clear hk2 c0 c1 c2 c3 c4 c5 q5 HC
     go_wp2_with fail
     go_roundw
     case rel =>
      refine ⟨p + 1, by omega, by go_num, ⟨?_, ?_, ?_, ?_⟩, HB2.out⟩
      ·rw [HQ.out.1, ← Int.add_assoc]
      ·rw [HQ.out.2.1]
      ·rw [HQ.out.2.2.1, ← Int.add_assoc]
      ·rw [HQ.out.2.2.2]
     case measure => simp [intOf]; omega
    ·have HT : Hid (ts.take p = ts) := List.take_of_length_le (by omega)
     rw [HT.out] at hS1 ⊢
     have hh : 0 ≤ hgtL ts ∧ hgtL ts ≤ 1000000 := by have := HTOT.out; have := HKB.out; omega
     clear hS1 hS2 HT
     obtain ⟨e1, e2, e3, e4⟩ := HRES.out
     have HE := hidE (And.intro e1 (And.intro e2 (And.intro e3 e4)))
     clear e1 e2 e3 e4 HRES
     go_wp2_with fail
     (try simp only [Exit.inBlock, Exit.then]); refine bodyPost_ret (results_tmp4 rfl _ _ _) rfl ?_
     refine ⟨?_, HBW2.out⟩
     rw [HE.out.1, HE.out.2.1, HE.out.2.2.1, HE.out.2.2.2]
     rfl
end Go.Proofs.YtbpmhgcjefpigaaGreatDoor

namespace Go.Proofs.YtbpmhgcjefpigaaGreatDoor
open Go.RowKit Go.WideShapes Go.Shelf
set_option linter.unusedVariables false
theorem empty_list : (⟨#[]⟩ : ByteArray).toList.isEmpty = true := by
 rw [show (⟨#[]⟩ : ByteArray) = ByteArray.empty from rfl]; simp
theorem heavy_iff (l : List (Int × Tree)) : ∀ a : Int, a ≤ 1048576 → (heavy a l = true ↔ ((∃ x ∈ l, 64 < x.1) ∨ (∃ x ∈ l, 65536 < x.2.kids.length) ∨ 1048576 < a + bytesOf l)) := by
 induction l with
 | nil => intro a h; simp [heavy, bytesOf]; omega
 | cons x r ih =>
  intro a h
  obtain ⟨d, t⟩ := x
  have hb : bytesOf ((d, t) :: r) = t.bytes + bytesOf r := by simp [bytesOf]
  have hn := bytesOf_nonneg r
  rw [hb]
  simp only [heavy, Bool.or_eq_true, decide_eq_true_eq, List.mem_cons, exists_eq_or_imp]
  by_cases g : 1048576 < a + t.bytes
  ·have : 1048576 < a + (t.bytes + bytesOf r) := by omega
   simp [g, this]
  ·rw [ih (a + t.bytes) (by omega)]
   have e : a + t.bytes + bytesOf r = a + (t.bytes + bytesOf r) := by omega
   rw [e]
   simp only [g, or_false]
   constructor
   ·rintro ((h | h) | h | h | h)
    ·exact .inl (.inl h)
    ·exact .inr (.inl (.inl h))
    ·exact .inl (.inr h)
    ·exact .inr (.inl (.inr h))
    ·exact .inr (.inr h)
   ·rintro ((h | h) | (h | h) | h)
    ·exact .inl (.inl h)
    ·exact .inr (.inl h)
    ·exact .inl (.inr h)
    ·exact .inr (.inr (.inl h))
    ·exact .inr (.inr (.inr h))
mutual
theorem pre_bytes : ∀ (T : Tree) (d : Int), bytesOf (T.pre d) = bytT T
 | .mk k b n s ks ts, d => by
  have h := preL_bytes ts (d + 1)
  have e : bytesOf ((d, Tree.mk k b n s ks ts) :: Tree.preL (d + 1) ts) = bytesOf [(d, Tree.mk k b n s ks ts)] + bytesOf (Tree.preL (d + 1) ts) := bytesOf_append [_] _
  rw [Tree.pre, e, bytesOf_one, h, bytT]
theorem preL_bytes : ∀ (l : List Tree) (d : Int), bytesOf (Tree.preL d l) = bytL l
 | [], d => by simp [Tree.preL, bytesOf, bytL]
 | t :: ts, d => by rw [Tree.preL, bytesOf_append, pre_bytes t d, preL_bytes ts d, bytL]
end
mutual
theorem pre_deep : ∀ (T : Tree) (d L : Int), (∃ x ∈ T.pre d, L < x.1) ↔ L < d - 1 + hgtT T
 | .mk k b n s ks ts, d, L => by
  have h := preL_deep ts (d + 1) L
  rw [Tree.pre, hgtT]
  simp only [List.mem_cons, exists_eq_or_imp]
  have e : d + 1 - 1 = d := by omega
  rw [e] at h
  have e2 : d - 1 + (hgtL ts + 1) = d + hgtL ts := by omega
  rw [e2, ← h]
  exact Or.comm
theorem preL_deep : ∀ (l : List Tree) (d L : Int), ((∃ x ∈ Tree.preL d l, L < x.1) ∨ L < d - 1) ↔ L < d - 1 + hgtL l
 | [], d, L => by simp [Tree.preL, hgtL]
 | t :: ts, d, L => by
  have h1 := pre_deep t d L
  have h2 := preL_deep ts d L
  have h3 := (size_le t).2.2.2.1
  have h4 := (sizeL_le ts).2.2.2.1.1
  rw [Tree.preL, hgtL]
  simp only [List.mem_append, or_and_right, exists_or, or_assoc]
  rw [h1, h2]
  omega
end
mutual
theorem pre_long : ∀ (T : Tree) (d : Int), (∃ x ∈ T.pre d, 65536 < x.2.kids.length) ↔ 65536 < lngT T
 | .mk k b n s ks ts, d => by
  have h := preL_long ts (d + 1)
  rw [Tree.pre, lngT]
  simp only [List.mem_cons, exists_eq_or_imp]
  rw [h]
  show (65536 < ts.length ∨ _) ↔ _
  omega
theorem preL_long : ∀ (l : List Tree) (d : Int), (∃ x ∈ Tree.preL d l, 65536 < x.2.kids.length) ↔ 65536 < lngL l
 | [], d => by simp [Tree.preL, lngL]
 | t :: ts, d => by
  have h1 := pre_long t d
  have h2 := preL_long ts d
  rw [Tree.preL, lngL]
  simp only [List.mem_append, or_and_right, exists_or]
  rw [h1, h2]
  omega
end
theorem rising_none {ks : List ByteArray} (h : ks.length = 0) : risingB ks = true := rising_true fun i hi => by omega
theorem shaped_head (k : Int) (b : Bool) (n : Int) (s : ByteArray) (ks : List ByteArray) (ts : List Tree) : shapedB (.mk k b n s ks ts) = (!badB k b n s ks.length ts.length && risingB ks) := by
 have hr := @rising_none ks
 simp only [shapedB, badB, rbareB, blankB]
 generalize risingB ks = rz at *
 generalize Lib.validD s.data.toList = vd
 have he : (⟨#[]⟩ : ByteArray).toList.isEmpty = true := empty_list
 rw [he]
 generalize s.toList.isEmpty = se
 generalize ks.length = kl at *
 generalize ts.length = ll
 by_cases h0 : k = 0
 ·subst h0; cases b <;> cases se <;> cases vd <;> by_cases g1 : n = 0 <;> by_cases g2 : kl = 0 <;> by_cases g3 : ll = 0 <;> simp_all
 by_cases h1 : k = 1
 ·subst h1; cases b <;> cases se <;> cases vd <;> by_cases g1 : n = 0 <;> by_cases g2 : kl = 0 <;> by_cases g3 : ll = 0 <;> simp_all
 by_cases h2 : k = 2
 ·subst h2; cases b <;> cases se <;> cases vd <;> by_cases g2 : kl = 0 <;> by_cases g3 : ll = 0 <;> simp_all
 by_cases h6 : k = 6
 ·subst h6
  by_cases g1 : n < 0
  ·have e : (min n 0 == 0) = false := by rw [beq_eq_false_iff_ne]; omega
   cases b <;> cases se <;> cases vd <;> by_cases g2 : kl = 0 <;> by_cases g3 : ll = 0 <;> simp_all
  ·have e : (min n 0 == 0) = true := by rw [beq_iff_eq]; omega
   cases b <;> cases se <;> cases vd <;> by_cases g2 : kl = 0 <;> by_cases g3 : ll = 0 <;> simp_all
 by_cases h7 : k = 7
 ·subst h7
  by_cases g1 : n < 0
  ·have e : (min n 0 == 0) = false := by rw [beq_eq_false_iff_ne]; omega
   cases b <;> cases se <;> cases vd <;> by_cases g2 : kl = 0 <;> by_cases g3 : ll = 0 <;> simp_all
  ·have e : (min n 0 == 0) = true := by rw [beq_iff_eq]; omega
   cases b <;> cases se <;> cases vd <;> by_cases g2 : kl = 0 <;> by_cases g3 : ll = 0 <;> simp_all
 by_cases h3 : k = 3
 ·subst h3; cases b <;> cases se <;> cases vd <;> by_cases g1 : n = 0 <;> by_cases g2 : kl = 0 <;> by_cases g3 : ll = 0 <;> simp_all
 by_cases h5 : k = 5
 ·subst h5
  by_cases g2 : kl = ll
  ·subst g2
   cases b <;> cases se <;> cases vd <;> cases rz <;> by_cases g1 : n = 0 <;> simp_all
  ·have e : ((kl : Int) != (ll : Int)) = true := by rw [bne_iff_ne]; omega
   have e' : (kl == ll) = false := beq_eq_false_iff_ne.2 g2
   rw [e, e']
   clear e e'
   cases b <;> cases se <;> cases vd <;> cases rz <;> by_cases g1 : n = 0 <;> simp_all
 by_cases h4 : k = 4
 ·subst h4; cases b <;> cases se <;> cases vd <;> by_cases g1 : n = 0 <;> by_cases g2 : kl = 0 <;> simp_all
 have hk : (decide (k < 0) || decide (7 < k)) = true := by
  rw [Bool.or_eq_true, decide_eq_true_eq, decide_eq_true_eq]
  omega
 rw [hk]
 simp [h0, h1, h2, h3, h4, h5, h6, h7]
mutual
theorem may_pre : ∀ (T : Tree) (d : Int), (T.pre d).all (fun x => shapedB x.2) = mayT T
 | .mk k b n s ks ts, d => by
  rw [Tree.pre, mayT, List.all_cons, may_preL ts (d + 1), shaped_head, Bool.and_assoc]
theorem may_preL : ∀ (l : List Tree) (d : Int), (Tree.preL d l).all (fun x => shapedB x.2) = mayL l
 | [], d => rfl
 | t :: ts, d => by rw [Tree.preL, mayL, List.all_append, may_pre t d, may_preL ts d]
end
theorem check_eq (T : Tree) : checkN T = if mayT T = true then (if 64 < hgtT T ∨ 1048576 < bytT T ∨ 65536 < lngT T then 3 else 0) else 110 := by
 unfold checkN
 rw [may_pre]
 have h := heavy_iff (T.pre 1) 0 (by omega)
 rw [pre_deep, pre_long, pre_bytes] at h
 have e : (heavy 0 (T.pre 1) = true) = (64 < hgtT T ∨ 1048576 < bytT T ∨ 65536 < lngT T) := propext (by rw [h]; omega)
 simp only [e]
set_option maxRecDepth 100000 in
set_option maxHeartbeats 1000000 in
theorem rcheck_any (T : Tree) (B : Nat) (v : Value) (w : World) (hB : B ≤ w.heap.size) (hv : Lies B w v T) (hS : Sane T) (htot : T.total ≤ 1000000) :
  Calls Tryz.prog 24 #[v] w fun e w' => e = .returned (.int .i64 (checkN T)) ∧ Below w.heap.size w w' := by
 have HM : Hid (∀ W, Below w.heap.size w W → Calls Tryz.prog 65 #[v] W fun e w' => e = .returned (.bool (mayT T)) ∧ Below W.heap.size W w') := fun W hb =>
  may_any T B v W (Nat.le_trans hB hb.size) (hv.below (hb.mono hB)) hS
 have HS : Hid (∀ W, Below w.heap.size w W → Calls Tryz.prog 20 #[v] W fun e w' => e = .returned (.tuple #[.int .i64 (cntT T), .int .i64 (hgtT T), .int .i64 (bytT T), .int .i64 (lngT T)]) ∧ Below W.heap.size W w') := fun W hb =>
  refsize_any T B v W (Nat.le_trans hB hb.size) (hv.below (hb.mono hB)) htot
 have HC := hidE (check_eq T)
 generalize mayT T = m at *
 generalize cntT T = t1 at *
 generalize hgtT T = t2 at *
 generalize bytT T = t3 at *
 generalize lngT T = t4 at *
 obtain ⟨k, x, n, s, ks, ts⟩ := T
 simp only [Lies] at hv
 obtain ⟨ka, kc, la, lc, rfl, -⟩ := hv
 have HB0 := hidE ((Below.refl w.heap.size w).alloc (Nat.le_refl _) (.cells #[.int .i64 k, .bool x, .int .i64 n, .string s, .slice ka ks.length kc, .slice la ts.length lc] 26))
 generalize checkN (.mk k x n s ks ts) = res at *
 clear hB hS htot
 go_enter Tryz.func24, Tryz.ntmps24
 go_wp2_with fail
 refine (HM.out _ HB0.out).mono ?_
 rintro e w1 ⟨rfl, h1⟩
 obtain ⟨hb1, hc⟩ := box_cells h1
 have c0 := hc 0 _ rfl
 have c1 := hc 1 _ rfl
 have c2 := hc 2 _ rfl
 have c3 := hc 3 _ rfl
 have c4 := hc 4 _ rfl
 have c5 := hc 5 _ rfl
 have HB1 := hidE hb1
 clear hc h1 hb1 HB0 HM
 cases m
 ·go_wp2_with fail
  go_ret
  exact ⟨by rw [HC.out]; rfl, HB1.out⟩
 ·go_wp2_with fail
  refine (HS.out _ HB1.out).mono ?_
  rintro e w2 ⟨rfl, h2⟩
  have HB2 := hidE (below_on HB1.out h2)
  clear h2 c0 c1 c2 c3 c4 c5 HS HB1
  by_cases g1 : 64 < t2
  ·have HR : Hid (res = 3) := HC.out.trans (by simp [g1])
   have d1 : decide (64 < t2) = true := decide_eq_true g1
   clear HC g1
   go_wp2_with fail
   go_ret
   exact ⟨by rw [HR.out]; rfl, HB2.out⟩
  ·have d1 : decide (64 < t2) = false := decide_eq_false g1
   by_cases g2 : 1048576 < t3
   ·have HR : Hid (res = 3) := HC.out.trans (by simp [g2])
    have d2 : decide (1048576 < t3) = true := decide_eq_true g2
    clear HC g1 g2
    go_wp2_with fail
    go_ret
    exact ⟨by rw [HR.out]; rfl, HB2.out⟩
   ·have d2 : decide (1048576 < t3) = false := decide_eq_false g2
    by_cases g3 : 65536 < t4
    ·have HR : Hid (res = 3) := HC.out.trans (by simp [g3])
     have d3 : decide (65536 < t4) = true := decide_eq_true g3
     clear HC g1 g2 g3
     go_wp2_with fail
     go_ret
     exact ⟨by rw [HR.out]; rfl, HB2.out⟩
    ·have HR : Hid (res = 0) := HC.out.trans (by simp [g1, g2, g3])
     have d3 : decide (65536 < t4) = false := decide_eq_false g3
     clear HC g1 g2 g3
     go_wp2_with fail
     go_ret
     exact ⟨by rw [HR.out]; rfl, HB2.out⟩
end Go.Proofs.YtbpmhgcjefpigaaGreatDoor

