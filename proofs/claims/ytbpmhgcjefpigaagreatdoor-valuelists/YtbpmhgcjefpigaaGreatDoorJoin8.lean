/- The order of values is total: turned about it is its opposite, and it leads on. The document's order of values in rows. The document's order of two values, kind by kind. -/
import Derived.Test.YtbpmhgcjefpigaaGreatDoorJoin7
namespace Go.Proofs.YtbpmhgcjefpigaaGreatDoor
open Go.RowKit Go.Shelf
set_option linter.unusedVariables false
def Three (x : Int) : Prop := x = -1 ∨ x = 0 ∨ x = 1
def Leads (x y z : Int) : Prop := (x = 0 → z = y) ∧ (y = 0 → z = x) ∧ (x = y → z = x)
theorem lex_three {x y : Int} (h1 : Three x) (h2 : x = 0 → Three y) : Three (if x = 0 then y else x) := by
 split
 ·exact h2 ‹_›
 ·exact h1
theorem lex_leads {x1 x2 x3 y1 y2 y3 : Int} (r1 : Three x1) (r2 : Three x2) (r3 : Three x3) (hx : Leads x1 x2 x3) (hy : x1 = 0 → x2 = 0 → Three y1 ∧ Three y2 ∧ Three y3 ∧ Leads y1 y2 y3) :
  Leads (if x1 = 0 then y1 else x1) (if x2 = 0 then y2 else x2) (if x3 = 0 then y3 else x3) := by
 unfold Three Leads at *
 by_cases h1 : x1 = 0
 ·by_cases h2 : x2 = 0
  ·obtain ⟨a, b, c, d⟩ := hy h1 h2
   have h3 : x3 = 0 := by omega
   rw [if_pos h1, if_pos h2, if_pos h3]; exact d
  ·have h3 : x3 ≠ 0 := by omega
   rw [if_pos h1, if_neg h2, if_neg h3]
   have : x3 = x2 := hx.1 h1
   refine ⟨fun _ => this, fun e => absurd e h2, fun e => ?_⟩
   omega
 ·by_cases h2 : x2 = 0
  ·have h3 : x3 ≠ 0 := by omega
   rw [if_neg h1, if_pos h2, if_neg h3]
   have : x3 = x1 := hx.2.1 h2
   refine ⟨fun e => absurd e h1, fun _ => this, fun e => ?_⟩
   omega
  ·rw [if_neg h1, if_neg h2]
   refine ⟨fun e => absurd e h1, fun e => absurd e h2, fun e => ?_⟩
   have : x3 = x1 := hx.2.2 e
   rw [if_neg (by omega)]; exact this
theorem cmpI_three (a b : Int) : Three (cmpI a b) := by unfold cmpI Three; split <;> (try split) <;> omega
theorem cmpI_turn (a b : Int) : cmpI b a = -cmpI a b := by unfold cmpI; split <;> split <;> (try split) <;> (try split) <;> omega
theorem cmpI_leads (a b c : Int) : Leads (cmpI a b) (cmpI b c) (cmpI a c) := by
 unfold cmpI Leads
 rcases Int.lt_trichotomy a b with h | h | h <;> rcases Int.lt_trichotomy b c with g | g | g <;> rcases Int.lt_trichotomy a c with e | e | e <;> simp_all <;> omega
theorem cmpB_eq (a b : UInt8) (r t : List UInt8) : Lib.compareBytes (a :: r) (b :: t) = if cmpI a.toNat b.toNat = 0 then Lib.compareBytes r t else cmpI a.toNat b.toNat := by
 rw [Lib.compareBytes]
 by_cases h1 : a < b
 ·have h : a.toNat < b.toNat := h1
  have : cmpI a.toNat b.toNat = -1 := by unfold cmpI; rw [if_pos (by omega)]
  rw [if_pos h1, this]; rfl
 ·have h : ¬ a.toNat < b.toNat := h1
  by_cases h2 : b < a
  ·have g : b.toNat < a.toNat := h2
   have : cmpI a.toNat b.toNat = 1 := by unfold cmpI; rw [if_neg (by omega), if_pos (by omega)]
   rw [if_neg h1, if_pos h2, this]; rfl
  ·have g : ¬ b.toNat < a.toNat := h2
   have : cmpI a.toNat b.toNat = 0 := by unfold cmpI; rw [if_neg (by omega), if_neg (by omega)]
   rw [if_neg h1, if_neg h2, this]; rfl
theorem cmpB_three : ∀ (a b : List UInt8), Three (Lib.compareBytes a b)
 | [], [] => .inr (.inl rfl)
 | [], _ :: _ => .inl rfl
 | _ :: _, [] => .inr (.inr rfl)
 | a :: r, b :: t => by rw [cmpB_eq]; exact lex_three (cmpI_three _ _) fun _ => cmpB_three r t
theorem cmpB_turn : ∀ (a b : List UInt8), Lib.compareBytes b a = -Lib.compareBytes a b
 | [], [] => rfl
 | [], _ :: _ => rfl
 | _ :: _, [] => rfl
 | a :: r, b :: t => by
  rw [cmpB_eq, cmpB_eq, cmpI_turn, cmpB_turn r t]
  by_cases h : cmpI (a.toNat : Int) b.toNat = 0
  ·rw [if_pos (by omega), if_pos h]
  ·rw [if_neg (by omega), if_neg h]
theorem cmpB_leads : ∀ (a b c : List UInt8), Leads (Lib.compareBytes a b) (Lib.compareBytes b c) (Lib.compareBytes a c)
 | [], [], [] => ⟨fun _ => rfl, fun _ => rfl, fun _ => rfl⟩
 | [], [], _ :: _ => ⟨fun _ => rfl, fun h => by simp [Lib.compareBytes] at h, fun h => by simp [Lib.compareBytes] at h⟩
 | [], _ :: _, [] => ⟨fun h => by simp [Lib.compareBytes] at h, fun h => by simp [Lib.compareBytes] at h, fun h => by simp [Lib.compareBytes] at h⟩
 | _ :: _, [], [] => ⟨fun h => by simp [Lib.compareBytes] at h, fun _ => rfl, fun h => by simp [Lib.compareBytes] at h⟩
 | [], b :: t, c :: u => ⟨fun h => by simp [Lib.compareBytes] at h, fun _ => rfl, fun _ => rfl⟩
 | a :: r, [], c :: u => ⟨fun h => by simp [Lib.compareBytes] at h, fun h => by simp [Lib.compareBytes] at h, fun h => by simp [Lib.compareBytes] at h⟩
 | a :: r, b :: t, [] => by
  have h3 := cmpB_three (a :: r) (b :: t)
  refine ⟨fun _ => rfl, fun h => by simp [Lib.compareBytes] at h, fun h => ?_⟩
  have : Lib.compareBytes (b :: t) [] = 1 := rfl
  rw [this] at h
  rw [h]; rfl
 | a :: r, b :: t, c :: u => by
  rw [cmpB_eq, cmpB_eq, cmpB_eq]
  exact lex_leads (cmpI_three _ _) (cmpI_three _ _) (cmpI_three _ _) (cmpI_leads _ _ _) fun _ _ => ⟨cmpB_three r t, cmpB_three t u, cmpB_three r u, cmpB_leads r t u⟩
theorem agS_three : ∀ (a b : List ByteArray), Three (agS a b)
 | [], [] => .inr (.inl rfl)
 | [], _ :: _ => .inl rfl
 | _ :: _, [] => .inr (.inr rfl)
 | a :: r, b :: t => by rw [agS]; exact lex_three (cmpB_three _ _) fun _ => agS_three r t
theorem agS_turn : ∀ (a b : List ByteArray), agS b a = -agS a b
 | [], [] => rfl
 | [], _ :: _ => rfl
 | _ :: _, [] => rfl
 | a :: r, b :: t => by
  rw [agS, agS, cmpB_turn, agS_turn r t]
  by_cases h : Lib.compareBytes a.data.toList b.data.toList = 0
  ·rw [if_pos (by omega), if_pos h]
  ·rw [if_neg (by omega), if_neg h]
theorem agS_leads : ∀ (a b c : List ByteArray), Leads (agS a b) (agS b c) (agS a c)
 | [], [], [] => ⟨fun _ => rfl, fun _ => rfl, fun _ => rfl⟩
 | [], [], _ :: _ => ⟨fun _ => rfl, fun h => by simp [agS] at h, fun h => by simp [agS] at h⟩
 | [], _ :: _, [] => ⟨fun h => by simp [agS] at h, fun h => by simp [agS] at h, fun h => by simp [agS] at h⟩
 | _ :: _, [], [] => ⟨fun h => by simp [agS] at h, fun _ => rfl, fun h => by simp [agS] at h⟩
 | [], b :: t, c :: u => ⟨fun h => by simp [agS] at h, fun _ => rfl, fun _ => rfl⟩
 | a :: r, [], c :: u => ⟨fun h => by simp [agS] at h, fun h => by simp [agS] at h, fun h => by simp [agS] at h⟩
 | a :: r, b :: t, [] => by
  refine ⟨fun _ => rfl, fun h => by simp [agS] at h, fun h => ?_⟩
  have : agS (b :: t) [] = 1 := rfl
  rw [this] at h
  rw [h]; rfl
 | a :: r, b :: t, c :: u => by
  rw [agS, agS, agS]
  exact lex_leads (cmpB_three _ _) (cmpB_three _ _) (cmpB_three _ _) (cmpB_leads _ _ _) fun _ _ => ⟨agS_three r t, agS_three t u, agS_three r u, agS_leads r t u⟩
mutual
def Known : Tree → Prop
 | .mk k _ _ _ _ ts => (0 ≤ k ∧ k ≤ 7) ∧ KnownL ts
def KnownL : List Tree → Prop
 | [] => True
 | t :: r => Known t ∧ KnownL r
end
theorem rank_inj {k k' : Int} (h : 0 ≤ k ∧ k ≤ 7) (h' : 0 ≤ k' ∧ k' ≤ 7) (e : cmpI (rankN k) (rankN k') = 0) : k = k' := by
 have e' : rankN k = rankN k' := by unfold cmpI at e; split at e <;> (try split at e) <;> omega
 unfold rankN at e'
 obtain ⟨h1, h2⟩ := h
 obtain ⟨g1, g2⟩ := h'
 have hk : k = 0 ∨ k = 1 ∨ k = 2 ∨ k = 3 ∨ k = 4 ∨ k = 5 ∨ k = 6 ∨ k = 7 := by omega
 have gk : k' = 0 ∨ k' = 1 ∨ k' = 2 ∨ k' = 3 ∨ k' = 4 ∨ k' = 5 ∨ k' = 6 ∨ k' = 7 := by omega
 rcases hk with rfl | rfl | rfl | rfl | rfl | rfl | rfl | rfl <;> rcases gk with rfl | rfl | rfl | rfl | rfl | rfl | rfl | rfl <;> first | rfl | (exfalso; revert e'; decide)
def inK (k : Int) (b b' : Bool) (n n' : Int) (s s' : ByteArray) (ks ks' : List ByteArray) (ts ts' : List Tree) : Int :=
 if k = 5 then (if agS ks ks' = 0 then ordL ts ts' else agS ks ks') else if k = 4 then ordL ts ts' else if k = 3 then Lib.compareBytes s.data.toList s'.data.toList else if k = 1 then cmpI (truthI b) (truthI b') else cmpI n n'
theorem ordT_eq (k : Int) (b : Bool) (n : Int) (s : ByteArray) (ks : List ByteArray) (ts : List Tree) (k' : Int) (b' : Bool) (n' : Int) (s' : ByteArray) (ks' : List ByteArray) (ts' : List Tree) :
  ordT (.mk k b n s ks ts) (.mk k' b' n' s' ks' ts') = if cmpI (rankN k) (rankN k') = 0 then inK k b b' n n' s s' ks ks' ts ts' else cmpI (rankN k) (rankN k') := by rw [ordT]; rfl
mutual
theorem ordT_three : ∀ (a b : Tree), Three (ordT a b)
 | .mk k b n s ks ts, .mk k' b' n' s' ks' ts' => by
  rw [ordT_eq]
  refine lex_three (cmpI_three _ _) fun _ => ?_
  unfold inK
  split
  ·exact lex_three (agS_three _ _) fun _ => ordL_three ts ts'
  split
  ·exact ordL_three ts ts'
  split
  ·exact cmpB_three _ _
  split
  ·exact cmpI_three _ _
  ·exact cmpI_three _ _
theorem ordL_three : ∀ (a b : List Tree), Three (ordL a b)
 | [], [] => .inr (.inl rfl)
 | [], _ :: _ => .inl rfl
 | _ :: _, [] => .inr (.inr rfl)
 | a :: r, b :: t => by rw [ordL]; exact lex_three (ordT_three a b) fun _ => ordL_three r t
end
theorem lex_turn {x x' y y' : Int} (h : x' = -x) (g : x = 0 → y' = -y) : (if x' = 0 then y' else x') = -(if x = 0 then y else x) := by
 by_cases e : x = 0
 ·rw [if_pos (by omega), if_pos e]; exact g e
 ·rw [if_neg (by omega), if_neg e]; exact h
mutual
theorem ordT_turn : ∀ (a b : Tree), Known a → Known b → ordT b a = -ordT a b
 | .mk k b n s ks ts, .mk k' b' n' s' ks' ts', h, h' => by
  simp only [Known] at h h'
  rw [ordT_eq, ordT_eq]
  refine lex_turn (cmpI_turn _ _) fun e => ?_
  have := rank_inj h.1 h'.1 e
  subst this
  unfold inK
  by_cases h5 : k = 5
  ·rw [if_pos h5, if_pos h5]; exact lex_turn (agS_turn _ _) fun _ => ordL_turn ts ts' h.2 h'.2
  rw [if_neg h5, if_neg h5]
  by_cases h4 : k = 4
  ·rw [if_pos h4, if_pos h4]; exact ordL_turn ts ts' h.2 h'.2
  rw [if_neg h4, if_neg h4]
  by_cases h3 : k = 3
  ·rw [if_pos h3, if_pos h3]; exact cmpB_turn _ _
  rw [if_neg h3, if_neg h3]
  by_cases h1 : k = 1
  ·rw [if_pos h1, if_pos h1]; exact cmpI_turn _ _
  rw [if_neg h1, if_neg h1]; exact cmpI_turn _ _
theorem ordL_turn : ∀ (a b : List Tree), KnownL a → KnownL b → ordL b a = -ordL a b
 | [], [], _, _ => rfl
 | [], _ :: _, _, _ => rfl
 | _ :: _, [], _, _ => rfl
 | a :: r, b :: t, h, h' => by
  simp only [KnownL] at h h'
  rw [ordL, ordL]
  exact lex_turn (ordT_turn a b h.1 h'.1) fun _ => ordL_turn r t h.2 h'.2
end
mutual
theorem ordT_leads : ∀ (a b c : Tree), Known a → Known b → Known c → Leads (ordT a b) (ordT b c) (ordT a c)
 | .mk k b n s ks ts, .mk k' b' n' s' ks' ts', .mk k2 b2 n2 s2 ks2 ts2, h, h', h2 => by
  simp only [Known] at h h' h2
  rw [ordT_eq, ordT_eq, ordT_eq]
  refine lex_leads (cmpI_three _ _) (cmpI_three _ _) (cmpI_three _ _) (cmpI_leads _ _ _) fun e1 e2 => ?_
  have := rank_inj h.1 h'.1 e1
  subst this
  have := rank_inj h'.1 h2.1 e2
  subst this
  have t1 := ordT_three (.mk k b n s ks ts) (.mk k b' n' s' ks' ts')
  have t2 := ordT_three (.mk k b' n' s' ks' ts') (.mk k b2 n2 s2 ks2 ts2)
  have t3 := ordT_three (.mk k b n s ks ts) (.mk k b2 n2 s2 ks2 ts2)
  rw [ordT_eq, if_pos e1] at t1
  rw [ordT_eq, if_pos e2] at t2
  rw [ordT_eq, if_pos e2] at t3
  refine ⟨t1, t2, t3, ?_⟩
  unfold inK
  by_cases h5 : k = 5
  ·rw [if_pos h5, if_pos h5, if_pos h5]
   exact lex_leads (agS_three _ _) (agS_three _ _) (agS_three _ _) (agS_leads _ _ _) fun _ _ => ⟨ordL_three _ _, ordL_three _ _, ordL_three _ _, ordL_leads ts ts' ts2 h.2 h'.2 h2.2⟩
  rw [if_neg h5, if_neg h5, if_neg h5]
  by_cases h4 : k = 4
  ·rw [if_pos h4, if_pos h4, if_pos h4]; exact ordL_leads ts ts' ts2 h.2 h'.2 h2.2
  rw [if_neg h4, if_neg h4, if_neg h4]
  by_cases h3 : k = 3
  ·rw [if_pos h3, if_pos h3, if_pos h3]; exact cmpB_leads _ _ _
  rw [if_neg h3, if_neg h3, if_neg h3]
  by_cases h1 : k = 1
  ·rw [if_pos h1, if_pos h1, if_pos h1]; exact cmpI_leads _ _ _
  rw [if_neg h1, if_neg h1, if_neg h1]; exact cmpI_leads _ _ _
theorem ordL_leads : ∀ (a b c : List Tree), KnownL a → KnownL b → KnownL c → Leads (ordL a b) (ordL b c) (ordL a c)
 | [], [], [], _, _, _ => ⟨fun _ => rfl, fun _ => rfl, fun _ => rfl⟩
 | [], [], _ :: _, _, _, _ => ⟨fun _ => rfl, fun h => by simp [ordL] at h, fun h => by simp [ordL] at h⟩
 | [], _ :: _, [], _, _, _ => ⟨fun h => by simp [ordL] at h, fun h => by simp [ordL] at h, fun h => by simp [ordL] at h⟩
 | _ :: _, [], [], _, _, _ => ⟨fun h => by simp [ordL] at h, fun _ => rfl, fun h => by simp [ordL] at h⟩
 | [], b :: t, c :: u, _, _, _ => ⟨fun h => by simp [ordL] at h, fun _ => rfl, fun _ => rfl⟩
 | a :: r, [], c :: u, _, _, _ => ⟨fun h => by simp [ordL] at h, fun h => by simp [ordL] at h, fun h => by simp [ordL] at h⟩
 | a :: r, b :: t, [], _, _, _ => by
  refine ⟨fun _ => rfl, fun h => by simp [ordL] at h, fun h => ?_⟩
  have : ordL (b :: t) [] = 1 := rfl
  rw [this] at h
  rw [h]; rfl
 | a :: r, b :: t, c :: u, h, h', h2 => by
  simp only [KnownL] at h h' h2
  rw [ordL, ordL, ordL]
  exact lex_leads (ordT_three _ _) (ordT_three _ _) (ordT_three _ _) (ordT_leads a b c h.1 h'.1 h2.1) fun _ _ => ⟨ordL_three r t, ordL_three t u, ordL_three r u, ordL_leads r t u h.2 h'.2 h2.2⟩
end
theorem ordT_self (a : Tree) (h : Known a) : ordT a a = 0 := by have := ordT_turn a a h h; omega
mutual
theorem known_pre : ∀ (T : Tree) (d : Int), (T.pre d).all (fun x => shapedB x.2) = true → Known T
 | .mk k b n s ks ts, d, h => by
  rw [Tree.pre, List.all_cons, Bool.and_eq_true] at h
  rw [Known]
  refine ⟨?_, knownL_pre ts (d + 1) h.2⟩
  have := h.1
  unfold shapedB at this
  rw [Bool.and_eq_true] at this
  have h1 := this.1
  by_cases g : 0 ≤ k ∧ k ≤ 7
  ·exact g
  ·rw [if_neg (by omega), if_neg (by omega), if_neg (by omega), if_neg (by omega), if_neg (by omega), if_neg (by omega), if_neg (by omega)] at h1
   cases h1
theorem knownL_pre : ∀ (l : List Tree) (d : Int), (Tree.preL d l).all (fun x => shapedB x.2) = true → KnownL l
 | [], _, _ => by simp only [KnownL]
 | t :: ts, d, h => by
  rw [Tree.preL, List.all_append, Bool.and_eq_true] at h
  rw [KnownL]
  exact ⟨known_pre t d h.1, knownL_pre ts d h.2⟩
end
theorem known_check {T : Tree} (h : checkN T = 0) : Known T := by
 unfold checkN at h
 by_cases g : (T.pre 1).all (fun x => shapedB x.2) = true
 ·exact known_pre T 1 g
 ·rw [if_neg g] at h; omega
end Go.Proofs.YtbpmhgcjefpigaaGreatDoor

namespace Go.Proofs.YtbpmhgcjefpigaaGreatDoor
open Go.RowKit Go.Shelf
set_option linter.unusedVariables false
theorem KnownL.mem : ∀ {ts : List Tree}, KnownL ts → ∀ {t}, t ∈ ts → Known t
 | [], _, _, h => by cases h
 | a :: r, h, t, hm => by
  simp only [KnownL] at h
  rcases List.mem_cons.mp hm with rfl | hm
  ·exact h.1
  ·exact KnownL.mem h.2 hm
set_option maxHeartbeats 2000000 in
theorem refrows_any (a : List Tree) (ih : ∀ t ∈ a, ∀ (B : Nat) (v v' : Value) (T' : Tree) (w : World), B ≤ w.heap.size → Lies B w v t → Lies B w v' T' → Known t → Known T' → Calls Tryz.prog 30 #[v, v'] w fun e w' => e = .returned (.int .i64 (ordT t T')) ∧ Below w.heap.size w w')
  (B : Nat) (la lb : Option Addr) (ca cb : Nat) (b : List Tree) (w : World) (hB : B ≤ w.heap.size) (ha : ListLies B w la a) (hb : ListLies B w lb b) (h1 : a.length ≤ ca) (h2 : ca ≤ maxLen) (h3 : b.length ≤ cb) (h4 : cb ≤ maxLen) (hka : KnownL a) (hkb : KnownL b) :
  Calls Tryz.prog 33 #[.slice la a.length ca, .slice lb b.length cb] w fun e w' => e = .returned (.int .i64 (ordL a b)) ∧ Below w.heap.size w w' := by
 unfold maxLen at h2 h4
 have HKA := hidE hka
 have HKB := hidE hkb
 clear hka hkb
 go_enter Tryz.func33, Tryz.ntmps33
 go_wp2_with fail
 go_loopw [5] (fun i wr => ∃ j : Nat, j ≤ a.length ∧ j ≤ b.length ∧ i = .int .i64 j ∧ Below w.heap.size w wr ∧ ordL (a.drop j) (b.drop j) = ordL a b) (fun i _ => a.length - (intOf i).toNat)
 case atStart => exact ⟨0, Nat.zero_le _, Nat.zero_le _, rfl, Below.refl _ _, rfl⟩
 case round =>
  obtain ⟨j, hj, hj2, rfl, hbr, hag⟩ := hrel
  have HAG : Hid (ordL (a.drop j) (b.drop j) = ordL a b) := hag
  clear hag
  by_cases hja : j < a.length
  ·by_cases hjb : j < b.length
   ·obtain ⟨bl, off, rfl, hbl, hk⟩ := ha.resolve_left (by intro e; subst e; simp at hja)
    obtain ⟨bl', off', rfl, hbl', hk'⟩ := hb.resolve_left (by intro e; subst e; simp at hjb)
    obtain ⟨⟨k, x, n, s, ks, ts⟩, hx⟩ : ∃ t, a[j]? = some t := ⟨_, List.getElem?_eq_getElem hja⟩
    obtain ⟨⟨k', x', n', s', ks', ts'⟩, hy⟩ : ∃ t, b[j]? = some t := ⟨_, List.getElem?_eq_getElem hjb⟩
    have HST := hidE (ordL_drop hx hy)
    have hkr := hk.below (hbr.mono hB) hbl
    have hkr' := hk'.below (hbr.mono hB) hbl'
    obtain ⟨ka, kc, la, lc, ⟨c0, c1, c2, c3, c4, c5⟩, hl⟩ := hkr.cells hx
    obtain ⟨ka', kc', la', lc', ⟨d0, d1, d2, d3, d4, d5⟩, hl'⟩ := hkr'.cells hy
    have HIH := hidE (ih _ (List.mem_of_getElem? hx))
    have HK1 := hidE (HKA.out.mem (List.mem_of_getElem? hx))
    have HK2 := hidE (HKB.out.mem (List.mem_of_getElem? hy))
    clear hx hy hk hk' hkr hkr'
    have hL := hidE hl
    have hL' := hidE hl'
    clear hl hl'
    have hBr : B ≤ wr.heap.size := Nat.le_trans hB hbr.size
    go_wp2_with fail
    have HC := hidE (HIH.out B _ _ _ wr.drew (show B ≤ wr.drew.heap.size from hBr) (hL.out.below (Below.refl B wr).drew) (hL'.out.below (Below.refl B wr).drew) HK1.out HK2.out)
    go_region_with (go_at_call 30; refine HC.out.mono ?_; rintro e w' ⟨rfl, hk2⟩)
    all_goals
     have HB2 : Hid (Below w.heap.size w w') := hbr.drew.trans (hk2.mono hbr.size)
     generalize hcm : ordT (.mk k x n s ks ts) (.mk k' x' n' s' ks' ts') = cm at *
     have HCM := hidE hcm
     clear hcm hk2 c0 c1 c2 c3 c4 c5 d0 d1 d2 d3 d4 d5
     by_cases h0 : cm = 0
     ·have h0' : (cm != 0) = false := by simp [h0]
      have h0'' : (cm == 0) = true := by simp [h0]
      go_wp2_with fail
      go_roundw
      case rel => exact ⟨j + 1, by omega, by omega, by go_num, HB2.out, by have := HST.out; rw [if_pos h0] at this; rw [← this]; exact HAG.out⟩
      case measure => simp [intOf]; omega
     ·have h0' : (cm != 0) = true := by simp [h0]
      have h0'' : (cm == 0) = false := by simp [h0]
      go_wp2_with fail
      go_ret
      refine ⟨?_, HB2.out⟩
      have := HST.out; rw [if_neg h0] at this; rw [← HAG.out, this]; rfl
   ·have HN : Hid (cmpI a.length b.length = ordL a b) := by show _ = _; rw [← HAG.out, ordL_end (by omega)]
    clear HAG
    go_wp2_with fail
    refine (ints_any _ _ _).mono ?_
    rintro e w' ⟨rfl, rfl⟩
    go_wp2_with fail
    go_ret
    exact ⟨by rw [← HN.out]; rfl, hbr⟩
  ·have HN : Hid (cmpI a.length b.length = ordL a b) := by show _ = _; rw [← HAG.out, ordL_end (by omega)]
   clear HAG
   go_wp2_with fail
   refine (ints_any _ _ _).mono ?_
   rintro e w' ⟨rfl, rfl⟩
   go_wp2_with fail
   go_ret
   exact ⟨by rw [← HN.out]; rfl, hbr⟩
end Go.Proofs.YtbpmhgcjefpigaaGreatDoor

namespace Go.Proofs.YtbpmhgcjefpigaaGreatDoor
open Go.RowKit Go.Shelf
set_option linter.unusedVariables false
theorem rank_ne (k k' : Int) (h : k ≠ k') (h0 : 0 ≤ k) (h7 : k ≤ 7) (g0 : 0 ≤ k') (g7 : k' ≤ 7) : cmpI (rankN k) (rankN k') ≠ 0 := by
 have a : k = 0 ∨ k = 1 ∨ k = 2 ∨ k = 3 ∨ k = 4 ∨ k = 5 ∨ k = 6 ∨ k = 7 := by omega
 have b : k' = 0 ∨ k' = 1 ∨ k' = 2 ∨ k' = 3 ∨ k' = 4 ∨ k' = 5 ∨ k' = 6 ∨ k' = 7 := by omega
 rcases a with rfl | rfl | rfl | rfl | rfl | rfl | rfl | rfl <;> rcases b with rfl | rfl | rfl | rfl | rfl | rfl | rfl | rfl <;> first | exact absurd rfl h | decide
set_option maxRecDepth 100000 in
set_option maxHeartbeats 2000000 in
theorem refcmp_ne (k : Int) (x : Bool) (n : Int) (s : ByteArray) (ka : Option Addr) (kl kc : Nat) (la : Option Addr) (ll lc : Nat) (k' : Int) (x' : Bool) (n' : Int) (s' : ByteArray) (ka' : Option Addr) (kl' kc' : Nat) (la' : Option Addr) (ll' lc' : Nat) (w : World) (hne : k ≠ k') (h0 : 0 ≤ k) (h7 : k ≤ 7) (g0 : 0 ≤ k') (g7 : k' ≤ 7) :
  Calls Tryz.prog 30 #[.agg #[.int .i64 k, .bool x, .int .i64 n, .string s, .slice ka kl kc, .slice la ll lc], .agg #[.int .i64 k', .bool x', .int .i64 n', .string s', .slice ka' kl' kc', .slice la' ll' lc']] w fun e w' => e = .returned (.int .i64 (cmpI (rankN k) (rankN k'))) ∧ Below w.heap.size w w' := by
 have HX : Hid (∀ w1, Below ((w.alloc (.cells #[.int .i64 k, .bool x, .int .i64 n, .string s, .slice ka kl kc, .slice la ll lc] 26)).alloc (.cells #[.int .i64 k', .bool x', .int .i64 n', .string s', .slice ka' kl' kc', .slice la' ll' lc'] 26)).heap.size ((w.alloc (.cells #[.int .i64 k, .bool x, .int .i64 n, .string s, .slice ka kl kc, .slice la ll lc] 26)).alloc (.cells #[.int .i64 k', .bool x', .int .i64 n', .string s', .slice ka' kl' kc', .slice la' ll' lc'] 26)) w1 → _) := fun w1 hb => two_boxes (w := w) (w1 := w1) (A := #[.int .i64 k, .bool x, .int .i64 n, .string s, .slice ka kl kc, .slice la ll lc]) (A' := #[.int .i64 k', .bool x', .int .i64 n', .string s', .slice ka' kl' kc', .slice la' ll' lc']) hb
 have e1 : (k == k') = false := ne_bool hne
 have HH := hidE (And.intro (And.intro h0 h7) (And.intro g0 g7))
 clear hne h0 h7 g0 g7
 have HS : Hid (∀ w1, Below ((w.alloc (.cells #[.int .i64 k, .bool x, .int .i64 n, .string s, .slice ka kl kc, .slice la ll lc] 26)).alloc (.cells #[.int .i64 k', .bool x', .int .i64 n', .string s', .slice ka' kl' kc', .slice la' ll' lc'] 26)).heap.size ((w.alloc (.cells #[.int .i64 k, .bool x, .int .i64 n, .string s, .slice ka kl kc, .slice la ll lc] 26)).alloc (.cells #[.int .i64 k', .bool x', .int .i64 n', .string s', .slice ka' kl' kc', .slice la' ll' lc'] 26)) w1 → ∀ r, Calls Tryz.prog 68 #[.int .i64 r] w1 (fun e w2 => e = .returned (.int .i64 (rankN r)) ∧ Below w1.heap.size w1 w2) → Calls Tryz.prog 68 #[.int .i64 r] w1 fun e w2 => e = .returned (.int .i64 (rankN r)) ∧ w2.cell? ⟨w.heap.size, 0, none⟩ = some (.int .i64 k) ∧ w2.cell? ⟨w.heap.size + 1, 0, none⟩ = some (.int .i64 k') ∧ Hid (Below ((w.alloc (.cells #[.int .i64 k, .bool x, .int .i64 n, .string s, .slice ka kl kc, .slice la ll lc] 26)).alloc (.cells #[.int .i64 k', .bool x', .int .i64 n', .string s', .slice ka' kl' kc', .slice la' ll' lc'] 26)).heap.size ((w.alloc (.cells #[.int .i64 k, .bool x, .int .i64 n, .string s, .slice ka kl kc, .slice la ll lc] 26)).alloc (.cells #[.int .i64 k', .bool x', .int .i64 n', .string s', .slice ka' kl' kc', .slice la' ll' lc'] 26)) w2)) := by
  intro w1 hb r hc
  refine hc.mono ?_
  rintro e w2 ⟨he, hb2⟩
  have hb3 := below_on hb hb2
  obtain ⟨_, f, g⟩ := HX.out w2 hb3
  exact ⟨he, f 0 _ rfl, g 0 _ rfl, hb3⟩
 have HC1 : Hid (Calls Tryz.prog 68 #[.int .i64 k] ((w.alloc (.cells #[.int .i64 k, .bool x, .int .i64 n, .string s, .slice ka kl kc, .slice la ll lc] 26)).alloc (.cells #[.int .i64 k', .bool x', .int .i64 n', .string s', .slice ka' kl' kc', .slice la' ll' lc'] 26)).drew fun e w2 => e = .returned (.int .i64 (rankN k)) ∧ w2.cell? ⟨w.heap.size, 0, none⟩ = some (.int .i64 k) ∧ w2.cell? ⟨w.heap.size + 1, 0, none⟩ = some (.int .i64 k') ∧ Hid (Below ((w.alloc (.cells #[.int .i64 k, .bool x, .int .i64 n, .string s, .slice ka kl kc, .slice la ll lc] 26)).alloc (.cells #[.int .i64 k', .bool x', .int .i64 n', .string s', .slice ka' kl' kc', .slice la' ll' lc'] 26)).heap.size ((w.alloc (.cells #[.int .i64 k, .bool x, .int .i64 n, .string s, .slice ka kl kc, .slice la ll lc] 26)).alloc (.cells #[.int .i64 k', .bool x', .int .i64 n', .string s', .slice ka' kl' kc', .slice la' ll' lc'] 26)) w2)) := HS.out _ (Below.refl _ _).drew _ (refrank_any k _ HH.out.1.1 HH.out.1.2)
 have HC2 : Hid (Calls Tryz.prog 68 #[.int .i64 k'] ((w.alloc (.cells #[.int .i64 k, .bool x, .int .i64 n, .string s, .slice ka kl kc, .slice la ll lc] 26)).alloc (.cells #[.int .i64 k', .bool x', .int .i64 n', .string s', .slice ka' kl' kc', .slice la' ll' lc'] 26)).drew fun e w2 => e = .returned (.int .i64 (rankN k')) ∧ w2.cell? ⟨w.heap.size, 0, none⟩ = some (.int .i64 k) ∧ w2.cell? ⟨w.heap.size + 1, 0, none⟩ = some (.int .i64 k') ∧ Hid (Below ((w.alloc (.cells #[.int .i64 k, .bool x, .int .i64 n, .string s, .slice ka kl kc, .slice la ll lc] 26)).alloc (.cells #[.int .i64 k', .bool x', .int .i64 n', .string s', .slice ka' kl' kc', .slice la' ll' lc'] 26)).heap.size ((w.alloc (.cells #[.int .i64 k, .bool x, .int .i64 n, .string s, .slice ka kl kc, .slice la ll lc] 26)).alloc (.cells #[.int .i64 k', .bool x', .int .i64 n', .string s', .slice ka' kl' kc', .slice la' ll' lc'] 26)) w2)) := HS.out _ (Below.refl _ _).drew _ (refrank_any k' _ HH.out.2.1 HH.out.2.2)
 have HC3 : Hid (∀ w1, Hid (Below ((w.alloc (.cells #[.int .i64 k, .bool x, .int .i64 n, .string s, .slice ka kl kc, .slice la ll lc] 26)).alloc (.cells #[.int .i64 k', .bool x', .int .i64 n', .string s', .slice ka' kl' kc', .slice la' ll' lc'] 26)).heap.size ((w.alloc (.cells #[.int .i64 k, .bool x, .int .i64 n, .string s, .slice ka kl kc, .slice la ll lc] 26)).alloc (.cells #[.int .i64 k', .bool x', .int .i64 n', .string s', .slice ka' kl' kc', .slice la' ll' lc'] 26)) w1) → Calls Tryz.prog 68 #[.int .i64 k'] w1 fun e w2 => e = .returned (.int .i64 (rankN k')) ∧ w2.cell? ⟨w.heap.size, 0, none⟩ = some (.int .i64 k) ∧ w2.cell? ⟨w.heap.size + 1, 0, none⟩ = some (.int .i64 k') ∧ Hid (Below ((w.alloc (.cells #[.int .i64 k, .bool x, .int .i64 n, .string s, .slice ka kl kc, .slice la ll lc] 26)).alloc (.cells #[.int .i64 k', .bool x', .int .i64 n', .string s', .slice ka' kl' kc', .slice la' ll' lc'] 26)).heap.size ((w.alloc (.cells #[.int .i64 k, .bool x, .int .i64 n, .string s, .slice ka kl kc, .slice la ll lc] 26)).alloc (.cells #[.int .i64 k', .bool x', .int .i64 n', .string s', .slice ka' kl' kc', .slice la' ll' lc'] 26)) w2)) := fun w1 hb => HS.out _ hb.out _ (refrank_any k' _ HH.out.2.1 HH.out.2.2)
 have HC4 : Hid (∀ w1, Hid (Below ((w.alloc (.cells #[.int .i64 k, .bool x, .int .i64 n, .string s, .slice ka kl kc, .slice la ll lc] 26)).alloc (.cells #[.int .i64 k', .bool x', .int .i64 n', .string s', .slice ka' kl' kc', .slice la' ll' lc'] 26)).heap.size ((w.alloc (.cells #[.int .i64 k, .bool x, .int .i64 n, .string s, .slice ka kl kc, .slice la ll lc] 26)).alloc (.cells #[.int .i64 k', .bool x', .int .i64 n', .string s', .slice ka' kl' kc', .slice la' ll' lc'] 26)) w1) → Calls Tryz.prog 68 #[.int .i64 k] w1 fun e w2 => e = .returned (.int .i64 (rankN k)) ∧ w2.cell? ⟨w.heap.size, 0, none⟩ = some (.int .i64 k) ∧ w2.cell? ⟨w.heap.size + 1, 0, none⟩ = some (.int .i64 k') ∧ Hid (Below ((w.alloc (.cells #[.int .i64 k, .bool x, .int .i64 n, .string s, .slice ka kl kc, .slice la ll lc] 26)).alloc (.cells #[.int .i64 k', .bool x', .int .i64 n', .string s', .slice ka' kl' kc', .slice la' ll' lc'] 26)).heap.size ((w.alloc (.cells #[.int .i64 k, .bool x, .int .i64 n, .string s, .slice ka kl kc, .slice la ll lc] 26)).alloc (.cells #[.int .i64 k', .bool x', .int .i64 n', .string s', .slice ka' kl' kc', .slice la' ll' lc'] 26)) w2)) := fun w1 hb => HS.out _ hb.out _ (refrank_any k _ HH.out.1.1 HH.out.1.2)
 have HF : Hid (∀ w1, Hid (Below ((w.alloc (.cells #[.int .i64 k, .bool x, .int .i64 n, .string s, .slice ka kl kc, .slice la ll lc] 26)).alloc (.cells #[.int .i64 k', .bool x', .int .i64 n', .string s', .slice ka' kl' kc', .slice la' ll' lc'] 26)).heap.size ((w.alloc (.cells #[.int .i64 k, .bool x, .int .i64 n, .string s, .slice ka kl kc, .slice la ll lc] 26)).alloc (.cells #[.int .i64 k', .bool x', .int .i64 n', .string s', .slice ka' kl' kc', .slice la' ll' lc'] 26)) w1) → Below w.heap.size w w1) := fun w1 hb => (HX.out w1 hb.out).1
 clear HS HX HH
 generalize rankN k = rk at *
 generalize rankN k' = rk' at *
 go_enter Tryz.func30, Tryz.ntmps30
 go_wp2_with fail
 go_region_with (first
  | (go_at_call 67; refine (ints_any _ _ _).mono ?_; rintro e w9 ⟨rfl, rfl⟩)
  | (go_at_call 68; refine (HC3.out _ HB1).mono ?_; rintro e w2 ⟨rfl, x2, y2, HB2⟩)
  | (go_at_call 68; refine (HC4.out _ HB1).mono ?_; rintro e w2 ⟨rfl, x2, y2, HB2⟩)
  | (go_at_call 68; refine HC1.out.mono ?_; rintro e w1 ⟨rfl, x1, y1, HB1⟩)
  | (go_at_call 68; refine HC2.out.mono ?_; rintro e w1 ⟨rfl, x1, y1, HB1⟩))
 all_goals
  go_wp2_with fail
  go_ret
  exact ⟨rfl, HF.out _ HB2⟩
end Go.Proofs.YtbpmhgcjefpigaaGreatDoor

