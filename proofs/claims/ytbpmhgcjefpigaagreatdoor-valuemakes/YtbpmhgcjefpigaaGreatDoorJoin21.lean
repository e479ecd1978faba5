/- What may be written over, and what stays where numbers and texts alone are written over. spoil: a value that was answered is written over; nothing else turns. Small things for ValueMakes. -/
import Derived.Test.YtbpmhgcjefpigaaGreatDoorFcopy
import Derived.Test.YtbpmhgcjefpigaaGreatDoorSpared
import Derived.Test.YtbpmhgcjefpigaaGreatDoorJoin18
import Derived.Test.YtbpmhgcjefpigaaGreatDoorJoin20
import Derived.Test.YtbpmhgcjefpigaaGreatDoorMapn
import Derived.Test.YtbpmhgcjefpigaaGreatDoorRmapl
namespace Go.Proofs.YtbpmhgcjefpigaaGreatDoor
open Go.RowKit Go.Shelf
set_option linter.unusedVariables false
/-- Cells of one kind: the same, or two texts, or two numbers. -/
def softV (u u' : Value) : Prop := u' = u ∨ (∃ a b, u = .string a ∧ u' = .string b) ∨ (∃ a b, u = .int .i64 a ∧ u' = .int .i64 b)
theorem softV.refl (u : Value) : softV u u := .inl rfl
theorem softV.trans {a b c : Value} (h : softV a b) (k : softV b c) : softV a c := by
  rcases h with rfl | ⟨x, y, rfl, rfl⟩ | ⟨x, y, rfl, rfl⟩
  · exact k
  · rcases k with rfl | ⟨x', y', h, rfl⟩ | ⟨x', y', h, rfl⟩
    · exact .inr (.inl ⟨_, _, rfl, rfl⟩)
    · exact .inr (.inl ⟨_, _, rfl, rfl⟩)
    · cases h
  · rcases k with rfl | ⟨x', y', h, rfl⟩ | ⟨x', y', h, rfl⟩
    · exact .inr (.inr ⟨_, _, rfl, rfl⟩)
    · cases h
    · exact .inr (.inr ⟨_, _, rfl, rfl⟩)
/-- Numbers and texts of the blocks from lo up to hi may have been written over; nothing else has turned. -/
structure Soft (lo hi : Nat) (w w' : World) : Prop where
  below : Below lo w w'
  out : ∀ k, hi ≤ k → k < w.heap.size → w'.heap[k]? = w.heap[k]?
  cell : ∀ b o u, w.cell? ⟨b, o, none⟩ = some u → ∃ u', w'.cell? ⟨b, o, none⟩ = some u' ∧ softV u u'
  frozen : ∀ b o u, w.cell? ⟨b, o, none⟩ = some u → w'.frozen? ⟨b, o, none⟩ = w.frozen? ⟨b, o, none⟩
variable {lo hi : Nat} {w w1 w2 : World}
theorem Soft.refl (lo hi : Nat) (w : World) : Soft lo hi w w := ⟨Below.refl _ _, fun _ _ _ => rfl, fun _ _ u h => ⟨u, h, softV.refl _⟩, fun _ _ _ _ => rfl⟩
theorem Soft.trans (h : Soft lo hi w w1) (k : Soft lo hi w1 w2) : Soft lo hi w w2 :=
  ⟨h.below.trans k.below, fun b h1 h2 => (k.out b h1 (Nat.lt_of_lt_of_le h2 h.below.size)).trans (h.out b h1 h2),
    fun b o u hu => by
      obtain ⟨u1, h1, s1⟩ := h.cell b o u hu
      obtain ⟨u2, h2, s2⟩ := k.cell b o u1 h1
      exact ⟨u2, h2, s1.trans s2⟩,
    fun b o u hu => by
      obtain ⟨u1, h1, s1⟩ := h.cell b o u hu
      exact (k.frozen b o u1 h1).trans (h.frozen b o u hu)⟩
theorem cell_lt {b o : Nat} {u : Value} (h : w.cell? ⟨b, o, none⟩ = some u) : b < w.heap.size := by
  rcases Nat.lt_or_ge b w.heap.size with g | g
  · exact g
  · unfold World.cell? at h
    rw [show (⟨b, o, none⟩ : Addr).block = b from rfl, Array.getElem?_eq_none g] at h
    cases h
theorem Soft.of_below (hb : Below w.heap.size w w1) (h : lo ≤ w.heap.size) : Soft lo hi w w1 :=
  ⟨hb.mono h, fun k _ hk => hb.block k hk, fun b o u hu => ⟨u, (hb.cell (p := ⟨b, o, none⟩) (cell_lt hu)).trans hu, softV.refl _⟩, fun b o u hu => hb.frozen (p := ⟨b, o, none⟩) (cell_lt hu)⟩
theorem Soft.set {b o : Nat} {u u' : Value} (hc : w.cell? ⟨b, o, none⟩ = some u) (h1 : lo ≤ b) (h2 : b < hi) (hs : softV u u') : Soft lo hi w (w.setCell ⟨b, o, none⟩ u') := by
  refine ⟨(Below.refl _ _).setCell (p := ⟨b, o, none⟩) h1 _, fun k hk _ => Below.heap_setCell _ _ _ _ (by show k ≠ b; omega), fun b' o' x hx => ?_, fun b' o' x hx => World.frozen?_setCell _ _ _ _⟩
  by_cases e : b' = b ∧ o' = o
  · obtain ⟨rfl, rfl⟩ := e
    rw [hc] at hx
    obtain rfl := Option.some.inj hx
    exact ⟨u', World.cell?_setCell_same _ _ _ hc, hs⟩
  · exact ⟨x, (World.cell?_setCell_other _ _ _ _ (fun h => e (by simp only [Addr.mk.injEq] at h; omega))).trans hx, softV.refl _⟩
mutual
/-- A value that may be written over: its lists lie in blocks from lo up to hi. -/
def Sp (lo hi : Nat) (w : World) : Value → Tree → Prop
  | v, .mk k b n s ks ts => ∃ k' b' n' s' ka kc la lc, v = .agg #[.int .i64 k', .bool b', .int .i64 n', .string s', .slice ka ks.length kc, .slice la ts.length lc] ∧
      (ks.length ≤ kc ∧ kc ≤ maxLen ∧ ts.length ≤ lc ∧ lc ≤ maxLen) ∧
      (ks = [] ∨ ∃ bk off, ka = some ⟨bk, off, none⟩ ∧ lo ≤ bk ∧ bk < hi ∧ ∀ i, i < ks.length → (∃ x, w.cell? ⟨bk, off + i, none⟩ = some (.string x)) ∧ w.frozen? ⟨bk, off + i, none⟩ = false) ∧
      (ts = [] ∨ ∃ bl off, la = some ⟨bl, off, none⟩ ∧ lo ≤ bl ∧ bl < hi ∧ SpKids lo hi w bl off ts)
def SpKids (lo hi : Nat) (w : World) (bl : Nat) : Nat → List Tree → Prop
  | _, [] => True
  | off, t :: ts => (∃ k b n s v4 v5, (w.cell? ⟨bl, off, none⟩ = some (.int .i64 k) ∧ w.cell? ⟨bl, off + 1, none⟩ = some (.bool b) ∧ w.cell? ⟨bl, off + 2, none⟩ = some (.int .i64 n) ∧ w.cell? ⟨bl, off + 3, none⟩ = some (.string s) ∧
      w.cell? ⟨bl, off + 4, none⟩ = some v4 ∧ w.cell? ⟨bl, off + 5, none⟩ = some v5) ∧ w.frozen? ⟨bl, off, none⟩ = false ∧ Sp lo hi w (.agg #[.int .i64 k, .bool b, .int .i64 n, .string s, v4, v5]) t) ∧ SpKids lo hi w bl (off + 6) ts
end
theorem Sp.other {T : Tree} {k k' n n' : Int} {b b' : Bool} {s s' : ByteArray} {v4 v5 : Value} (h : Sp lo hi w (.agg #[.int .i64 k, .bool b, .int .i64 n, .string s, v4, v5]) T) : Sp lo hi w (.agg #[.int .i64 k', .bool b', .int .i64 n', .string s', v4, v5]) T := by
  obtain ⟨p0, p1, p2, p3, ks, ts⟩ := T
  simp only [Sp] at h ⊢
  obtain ⟨_, _, _, _, ka, kc, la, lc, e, h1, h2, h3⟩ := h
  simp only [Value.agg.injEq, Array.mk.injEq, List.cons.injEq, and_true] at e
  obtain ⟨_, _, _, _, rfl, rfl⟩ := e
  exact ⟨_, _, _, _, ka, kc, la, lc, rfl, h1, h2, h3⟩
theorem Sp.slices {T : Tree} {k n : Int} {b : Bool} {s : ByteArray} {v4 v5 : Value} (h : Sp lo hi w (.agg #[.int .i64 k, .bool b, .int .i64 n, .string s, v4, v5]) T) : ∃ ka kc la lc, v4 = .slice ka T.keys.length kc ∧ v5 = .slice la T.kids.length lc := by
  obtain ⟨p0, p1, p2, p3, ks, ts⟩ := T
  simp only [Sp] at h
  obtain ⟨_, _, _, _, ka, kc, la, lc, e, h1, h2, h3⟩ := h
  simp only [Value.agg.injEq, Array.mk.injEq, List.cons.injEq, and_true] at e
  obtain ⟨_, _, _, _, rfl, rfl⟩ := e
  exact ⟨ka, kc, la, lc, rfl, rfl⟩
theorem softV.slice {a : Option Addr} {m c : Nat} {u : Value} (h : softV (.slice a m c) u) : u = .slice a m c := by
  rcases h with rfl | ⟨_, _, h, _⟩ | ⟨_, _, h, _⟩
  · rfl
  · cases h
  · cases h
theorem softV.bool {a : Bool} {u : Value} (h : softV (.bool a) u) : u = .bool a := by
  rcases h with rfl | ⟨_, _, h, _⟩ | ⟨_, _, h, _⟩
  · rfl
  · cases h
  · cases h
theorem softV.int {a : Int} {u : Value} (h : softV (.int .i64 a) u) : ∃ b, u = .int .i64 b := by
  rcases h with rfl | ⟨_, _, h, _⟩ | ⟨_, b, _, rfl⟩
  · exact ⟨_, rfl⟩
  · cases h
  · exact ⟨_, rfl⟩
theorem softV.string {a : ByteArray} {u : Value} (h : softV (.string a) u) : ∃ b, u = .string b := by
  rcases h with rfl | ⟨_, b, _, rfl⟩ | ⟨_, _, h, _⟩
  · exact ⟨_, rfl⟩
  · exact ⟨_, rfl⟩
  · cases h
mutual
theorem Sp.soft (hs : Soft lo hi w w1) : ∀ {v : Value} {T : Tree}, Sp lo hi w v T → Sp lo hi w1 v T
  | v, .mk k b n s ks ts, h => by
    simp only [Sp] at h ⊢
    obtain ⟨k', b', n', s', ka, kc, la, lc, rfl, h1, h2, h3⟩ := h
    refine ⟨k', b', n', s', ka, kc, la, lc, rfl, h1, h2.imp id fun ⟨bk, off, e, g1, g2, g3⟩ => ⟨bk, off, e, g1, g2, fun i hi => ?_⟩, h3.imp id fun ⟨bl, off, e, g1, g2, g3⟩ => ⟨bl, off, e, g1, g2, SpKids.soft hs g3⟩⟩
    obtain ⟨⟨x, hx⟩, hf⟩ := g3 i hi
    obtain ⟨u, hu, su⟩ := hs.cell _ _ _ hx
    obtain ⟨y, rfl⟩ := su.string
    exact ⟨⟨y, hu⟩, (hs.frozen _ _ _ hx).trans hf⟩
theorem SpKids.soft (hs : Soft lo hi w w1) {bl : Nat} : ∀ {off : Nat} {ts : List Tree}, SpKids lo hi w bl off ts → SpKids lo hi w1 bl off ts
  | off, [], _ => by simp only [SpKids]
  | off, t :: ts, h => by
    simp only [SpKids] at h ⊢
    obtain ⟨⟨k, b, n, s, v4, v5, ⟨c0, c1, c2, c3, c4, c5⟩, hf, hv⟩, hr⟩ := h
    refine ⟨?_, SpKids.soft hs hr⟩
    obtain ⟨ka, kc, la, lc, rfl, rfl⟩ := hv.slices
    obtain ⟨u0, d0, s0⟩ := hs.cell _ _ _ c0
    obtain ⟨u1, d1, s1⟩ := hs.cell _ _ _ c1
    obtain ⟨u2, d2, s2⟩ := hs.cell _ _ _ c2
    obtain ⟨u3, d3, s3⟩ := hs.cell _ _ _ c3
    obtain ⟨u4, d4, s4⟩ := hs.cell _ _ _ c4
    obtain ⟨u5, d5, s5⟩ := hs.cell _ _ _ c5
    obtain ⟨k', rfl⟩ := s0.int
    obtain rfl := s1.bool
    obtain ⟨n', rfl⟩ := s2.int
    obtain ⟨s', rfl⟩ := s3.string
    obtain rfl := s4.slice
    obtain rfl := s5.slice
    exact ⟨k', b, n', s', _, _, ⟨d0, d1, d2, d3, d4, d5⟩, (hs.frozen _ _ _ c0).trans hf, (Sp.soft hs hv).other⟩
end
theorem SpKids.at {bl : Nat} : ∀ {ts : List Tree} {off : Nat}, SpKids lo hi w bl off ts → ∀ {i : Nat} {t : Tree}, ts[i]? = some t →
    ∃ k b n s v4 v5, (w.cell? ⟨bl, off + i * 6, none⟩ = some (.int .i64 k) ∧ w.cell? ⟨bl, off + i * 6 + 1, none⟩ = some (.bool b) ∧ w.cell? ⟨bl, off + i * 6 + 2, none⟩ = some (.int .i64 n) ∧ w.cell? ⟨bl, off + i * 6 + 3, none⟩ = some (.string s) ∧
      w.cell? ⟨bl, off + i * 6 + 4, none⟩ = some v4 ∧ w.cell? ⟨bl, off + i * 6 + 5, none⟩ = some v5) ∧ w.frozen? ⟨bl, off + i * 6, none⟩ = false ∧ Sp lo hi w (.agg #[.int .i64 k, .bool b, .int .i64 n, .string s, v4, v5]) t
  | t :: ts, off, h, 0, u, hu => by
    simp only [SpKids] at h
    simp only [List.getElem?_cons_zero, Option.some.injEq] at hu
    subst hu
    simpa using h.1
  | t :: ts, off, h, i + 1, u, hu => by
    simp only [SpKids] at h
    have := SpKids.at h.2 (i := i) (by simpa using hu)
    have e : off + (i + 1) * 6 = off + 6 + i * 6 := by omega
    rwa [e]
mutual
theorem LiesF.sp : ∀ {v : Value} {T : Tree}, LiesF lo hi w v T → Sp lo hi w v T
  | v, .mk k b n s ks ts, h => by
    simp only [LiesF] at h
    simp only [Sp]
    obtain ⟨ka, kc, la, lc, rfl, ⟨_, h2, h3, h4, h5⟩, hk, ht⟩ := h
    exact ⟨k, b, n, s, ka, kc, la, lc, rfl, ⟨h2, h3, h4, h5⟩, hk.imp id fun ⟨bk, off, e, g1, g2, g3⟩ => ⟨bk, off, e, g1, g2, fun i hi => ⟨⟨_, (g3 i hi).1⟩, (g3 i hi).2.2⟩⟩, ht.imp id fun ⟨bl, off, e, g1, g2, g3⟩ => ⟨bl, off, e, g1, g2, KidsF.sp g3⟩⟩
theorem KidsF.sp {bl : Nat} : ∀ {off : Nat} {ts : List Tree}, KidsF lo hi w bl off ts → SpKids lo hi w bl off ts
  | off, [], _ => by simp only [SpKids]
  | off, t :: ts, h => by
    simp only [KidsF] at h
    simp only [SpKids]
    obtain ⟨⟨v0, v1, v2, v3, v4, v5, ⟨c0, c1, c2, c3, c4, c5⟩, hf, hv⟩, hr⟩ := h
    refine ⟨?_, KidsF.sp hr⟩
    have hs := LiesF.sp hv
    obtain ⟨k, b, n, s, ks, us⟩ := t
    simp only [LiesF] at hv
    obtain ⟨ka, kc, la, lc, e, _⟩ := hv
    simp only [Value.agg.injEq, Array.mk.injEq, List.cons.injEq, and_true] at e
    obtain ⟨rfl, rfl, rfl, rfl, rfl, rfl⟩ := e
    exact ⟨_, _, _, _, _, _, ⟨c0, c1, c2, c3, c4, c5⟩, hf, hs⟩
end
end Go.Proofs.YtbpmhgcjefpigaaGreatDoor

namespace Go.Proofs.YtbpmhgcjefpigaaGreatDoor
open Go.RowKit Go.Shelf
set_option linter.unusedVariables false
set_option maxRecDepth 100000 in
set_option maxHeartbeats 2000000 in
theorem spoil_any : ∀ (T : Tree) (lo hi : Nat) (v : Value) (w : World), lo ≤ hi → hi ≤ w.heap.size → Sp lo hi w v T →
    Calls Tryz.prog 28 #[v] w fun e w' => (∃ x, e = .returned x) ∧ Soft lo hi w w' := by
  refine Tree.ind ?_
  intro k x n s ks ts ih lo hi v w hlh hhi hv
  simp only [Sp] at hv
  obtain ⟨k', b', n', s', ka, kc, la, lc, rfl, ⟨h1, h2, h3, h4⟩, hk, ht⟩ := hv
  unfold maxLen at h2 h4
  obtain ⟨W1, hW1⟩ : ∃ W1, w.alloc (.cells #[.int .i64 k', .bool b', .int .i64 n', .string s', .slice ka ks.length kc, .slice la ts.length lc] 26) = W1 := ⟨_, rfl⟩
  have hb1 : Below w.heap.size w W1 := hW1 ▸ (Below.refl _ _).alloc (Nat.le_refl _) _
  have hs1 : W1.heap.size = w.heap.size + 1 := by rw [← hW1]; simp
  have hq1 : W1.heap[w.heap.size]? = some (.cells #[.int .i64 k', .bool b', .int .i64 n', .string s', .slice ka ks.length kc, .slice la ts.length lc] 26 (0, 0)) := hW1 ▸ World.alloc_heap_new _ _
  have HW1 := hidE hW1
  have HK : Hid (ks = [] ∨ ∃ bk off, ka = some ⟨bk, off, none⟩ ∧ lo ≤ bk ∧ bk < hi ∧ ∀ i, i < ks.length → (∃ x, w.cell? ⟨bk, off + i, none⟩ = some (.string x)) ∧ w.frozen? ⟨bk, off + i, none⟩ = false) := hk
  have HT : Hid (ts = [] ∨ ∃ bl off, la = some ⟨bl, off, none⟩ ∧ lo ≤ bl ∧ bl < hi ∧ SpKids lo hi w bl off ts) := ht
  have HIH := hidE ih
  have hso1 : Soft lo hi w W1 := Soft.of_below hb1 (by omega)
  have HBX : Hid (∀ W, Soft lo hi W1 W → W.cell? ⟨w.heap.size, 4, none⟩ = some (.slice ka ks.length kc) ∧ W.cell? ⟨w.heap.size, 5, none⟩ = some (.slice la ts.length lc)) := fun W hs => by
    have e := (hs.out w.heap.size hhi (by omega)).trans hq1
    exact ⟨by unfold World.cell?; simp only [e]; rfl, by unfold World.cell?; simp only [e]; rfl⟩
  clear hW1 hq1 hk ht ih
  go_enter Tryz.func28, Tryz.ntmps28
  go_wp2_with fail
  rw [HW1.out]
  clear HW1
  go_loopw [2] (fun i wr => ∃ j : Nat, j ≤ ks.length ∧ i = .int .i64 j ∧ Soft lo hi W1 wr) (fun i _ => ks.length - (intOf i).toNat)
  case atStart => exact ⟨0, Nat.zero_le _, rfl, Soft.refl _ _ _⟩
  case round =>
    obtain ⟨j, hj, rfl, hsr⟩ := hrel
    have HSR := hidE hsr
    obtain ⟨c4, c5⟩ := HBX.out wr hsr
    clear hsr
    by_cases hlt : j < ks.length
    · obtain ⟨bk, off, rfl, hl1, hl2, hc⟩ := HK.out.resolve_left (by intro e; subst e; simp at hlt)
      obtain ⟨⟨y, hy⟩, hf⟩ := hc j hlt
      obtain ⟨u, hu, su⟩ := (hso1.trans HSR.out).cell _ _ _ hy
      obtain ⟨y', rfl⟩ := su.string
      have hf' : wr.frozen? ⟨bk, off + j, none⟩ = false := ((hso1.trans HSR.out).frozen _ _ _ hy).trans hf
      have HST : Hid (Soft lo hi W1 (wr.setCell ⟨bk, off + j, none⟩ (.string ⟨#[63]⟩))) := HSR.out.trans (Soft.set hu hl1 hl2 (.inr (.inl ⟨_, _, rfl, rfl⟩)))
      clear hc hy hf su
      go_wp2_with fail
      go_roundw
      case rel => exact ⟨j + 1, by omega, by go_num, HST.out⟩
      case measure => simp [intOf]; omega
    · go_wp2_with fail
      go_loopw [3] (fun i wr => ∃ j : Nat, j ≤ ts.length ∧ i = .int .i64 j ∧ Soft lo hi W1 wr) (fun i _ => ts.length - (intOf i).toNat)
      case atStart => exact ⟨0, Nat.zero_le _, rfl, HSR.out⟩
      case round =>
        clear HSR c4 c5
        obtain ⟨i, hi', rfl, hsr⟩ := hrel
        have HSR := hidE hsr
        obtain ⟨c4, c5⟩ := HBX.out wr hsr
        clear hsr
        by_cases hlt' : i < ts.length
        · obtain ⟨bl, off, rfl, hl1, hl2, hc⟩ := HT.out.resolve_left (by intro e; subst e; simp at hlt')
          obtain ⟨t, hx⟩ : ∃ t, ts[i]? = some t := ⟨_, List.getElem?_eq_getElem hlt'⟩
          have hsp := SpKids.soft (hso1.trans HSR.out) hc
          obtain ⟨k2, b2, n2, s2, v4, v5, ⟨d0, d1, d2, d3, d4, d5⟩, hf, hsp2⟩ := hsp.at hx
          have HC := hidE (HIH.out t (List.mem_of_getElem? hx) lo hi _ wr hlh (by have := HSR.out.below.size; omega) hsp2)
          obtain ⟨ka2, kc2, la2, lc2, rfl, rfl⟩ := hsp2.slices
          have HF := hidE hf
          have HD0 := hidE d0
          clear hc hx hsp hsp2 hf
          go_wp2_with fail
          refine HC.out.mono ?_
          rintro e w5 ⟨⟨xx, rfl⟩, hs5⟩
          have HS5 : Hid (Soft lo hi W1 w5) := HSR.out.trans hs5
          obtain ⟨e4, e5⟩ := HBX.out w5 HS5.out
          obtain ⟨u0, g0, su⟩ := hs5.cell _ _ _ HD0.out
          obtain ⟨k3, rfl⟩ := su.int
          have g1 : w5.frozen? ⟨bl, off + i * 6, none⟩ = false := (hs5.frozen _ _ _ HD0.out).trans HF.out
          have HS6 : Hid (Soft lo hi W1 (w5.setCell ⟨bl, off + i * 6, none⟩ (.int .i64 77))) := HS5.out.trans (Soft.set g0 hl1 hl2 (.inr (.inr ⟨_, _, rfl, rfl⟩)))
          clear d0 d1 d2 d3 d4 d5 su hs5 c4 c5
          go_wp2_with fail
          go_roundw
          case rel => exact ⟨i + 1, by omega, by go_num, HS6.out⟩
          case measure => simp [intOf]; omega
        · go_wp2_with fail
          go_end0
          exact ⟨⟨_, rfl⟩, hso1.trans HSR.out⟩
end Go.Proofs.YtbpmhgcjefpigaaGreatDoor

namespace Go.Proofs.YtbpmhgcjefpigaaGreatDoor
open Go.RowKit Go.Shelf Go.Lib
set_option linter.unusedVariables false
theorem totalL_bound' : ∀ {ts : List Tree}, (∀ t ∈ ts, t.total ≤ 2000) → Tree.totalL ts ≤ 2000 * ts.length
  | [], _ => by simp [Tree.totalL]
  | t :: r, h => by
    have h0 := h t (List.mem_cons_self ..)
    have h1 := totalL_bound' (ts := r) fun u hu => h u (List.mem_cons_of_mem _ hu)
    simp only [Tree.totalL, List.length_cons]
    omega
theorem totalL_few {ts : List Tree} (h : ∀ t ∈ ts, t.total ≤ 2000) (hl : ts.length ≤ 60) : Tree.totalL ts ≤ 1000000 := by
  have := totalL_bound' h
  omega
/-- What a map of keys and values is, and its error. -/
def MapIs (ks : List ByteArray) (ts : List Tree) (en : Int) (T : Tree) : Prop :=
  ((ks.length = ts.length ∧ ks.Nodup) ∧ en = 0 ∧ ∃ M, MapOf ks ts M ∧ T = .mk 5 false 0 ⟨#[]⟩ (M.map Prod.fst) (M.map Prod.snd)) ∨ (¬ (ks.length = ts.length ∧ ks.Nodup) ∧ en = 2 ∧ T = .mk 0 false 0 ⟨#[]⟩ [] [])
theorem MapIs.one {ks : List ByteArray} {ts : List Tree} {en en' : Int} {T T' : Tree} (h : MapIs ks ts en T) (h' : MapIs ks ts en' T') : en' = en ∧ T' = T := by
  rcases h with ⟨g, rfl, M, hM, rfl⟩ | ⟨g, rfl, rfl⟩ <;> rcases h' with ⟨g', rfl, M', hM', rfl⟩ | ⟨g', rfl, rfl⟩
  · rw [hM.one hM']; exact ⟨rfl, rfl⟩
  · exact absurd g g'
  · exact absurd g' g
  · exact ⟨rfl, rfl⟩
theorem nullF (lo hi : Nat) (w : World) : LiesF lo hi w (.agg #[.int .i64 0, .bool false, .int .i64 0, .string ⟨#[]⟩, .slice none 0 0, .slice none 0 0]) (.mk 0 false 0 ⟨#[]⟩ [] []) := by
  simp only [LiesF]
  exact ⟨none, 0, none, 0, rfl, ⟨by decide, Nat.le_refl _, by decide, Nat.le_refl _, by decide⟩, .inl rfl, .inl trivial⟩
theorem mapTo_is {ks : List ByteArray} {ts : List Tree} {A : Nat} {e : Ending} {w' : World} (h : MapTo ks ts A e w') : ∃ v en T, e = .returned (.tuple #[v, .int .i64 en]) ∧ LiesF A w'.heap.size w' v T ∧ MapIs ks ts en T := by
  rcases h with ⟨g, v, M, rfl, hM, hl⟩ | ⟨g, rfl⟩
  · exact ⟨v, 0, _, rfl, hl, .inl ⟨g, rfl, M, hM, rfl⟩⟩
  · exact ⟨_, 2, _, rfl, nullF _ _ _, .inr ⟨g, rfl, rfl⟩⟩
theorem rmapTo_is {ks : List ByteArray} {ts : List Tree} {e : Ending} {w' : World} (h : RMapTo ks ts e w') : ∃ v en T, e = .returned (.tuple #[v, .int .i64 en]) ∧ Lies w'.heap.size w' v T ∧ MapIs ks ts en T := by
  rcases h with ⟨g, v, M, rfl, hM, hl⟩ | ⟨g, rfl⟩
  · exact ⟨v, 0, _, rfl, hl, .inl ⟨g, rfl, M, hM, rfl⟩⟩
  · exact ⟨_, 2, _, rfl, (nullF 0 w'.heap.size w').lie, .inr ⟨g, rfl, rfl⟩⟩
theorem leaf_alike (k : Int) (b : Bool) (n : Int) (s : ByteArray) (hs : s.size ≤ maxLen) (w : World) : Calls Tryz.prog 27 #[.agg #[.int .i64 k, .bool b, .int .i64 n, .string s, .slice none 0 0, .slice none 0 0], .agg #[.int .i64 k, .bool b, .int .i64 n, .string s, .slice none 0 0, .slice none 0 0]] w fun e w' => e = .returned (.bool true) ∧ Below w.heap.size w w' := by
  have h : Lies w.heap.size w (.agg #[.int .i64 k, .bool b, .int .i64 n, .string s, .slice none 0 0, .slice none 0 0]) (.mk k b n s [] []) := by
    simp only [Lies]
    exact ⟨none, 0, none, 0, rfl, ⟨hs, Nat.le_refl _, by decide, Nat.le_refl _, by decide⟩, .inl rfl, .inl trivial⟩
  exact alike_any _ w.heap.size _ _ w (Nat.le_refl _) h h
end Go.Proofs.YtbpmhgcjefpigaaGreatDoor

