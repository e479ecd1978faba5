/- Storable, the program's and the document's. The program's Size is the document's; its Storable is the document's of values that may be. The values at the bounds: how great they are, and what Check answers of them. Text and Once of a value that is refused. -/
import Derived.Test.YtbpmhgcjefpigaaGreatDoorJoin11
import Derived.Test.YtbpmhgcjefpigaaGreatDoorJoin30
import Derived.Test.YtbpmhgcjefpigaaGreatDoorJoin21
import Derived.Test.YtbpmhgcjefpigaaGreatDoorJoin14
import Derived.Lib.ValidLaws
namespace Go.Proofs.YtbpmhgcjefpigaaGreatDoor
open Go.RowKit Go.Shelf
set_option linter.unusedVariables false

/-- The kind of the first value of a list. -/
def firstK (ts : List Tree) : Int := match ts with | [] => 0 | t :: _ => t.kind
/-- Are all values of the first one's kind? -/
def sameK (ts : List Tree) : Bool := ts.all fun t => t.kind == firstK ts
/-- What the document's Storable answers. -/
def rstorB (T : Tree) : Bool := sameK T.kids && (if T.kind = 4 then (if T.kids = [] then true else plainB (firstK T.kids)) else plainB T.kind)
/-- What Storable answers of a value that may be. -/
def storB (T : Tree) : Bool := if T.kind = 4 then T.kids.all fun t => plainB t.kind && (t.kind == firstK T.kids) else plainB T.kind

theorem take_all_snoc {p : Tree → Bool} {ts : List Tree} {j : Nat} {t : Tree} (h : (ts.take j).all p = true) (hx : ts[j]? = some t) (ht : p t = true) : (ts.take (j + 1)).all p = true := by
  rw [List.take_add_one, hx, List.all_append, h]; simp [ht]
theorem all_false {p : Tree → Bool} {ts : List Tree} {j : Nat} {t : Tree} (hx : ts[j]? = some t) (ht : p t = false) : ts.all p = false := by
  rw [List.all_eq_false]; exact ⟨t, List.mem_of_getElem? hx, by simp [ht]⟩
/-- The first value of a list that lies. -/
theorem KidsLie.first {B bl off : Nat} {w : World} {ts : List Tree} (h : KidsLie B w bl off ts) (h0 : 0 < ts.length) : w.cell? ⟨bl, off, none⟩ = some (.int .i64 (firstK ts)) := by
  obtain ⟨⟨p0, p1, p2, p3, p4, p5⟩, hx⟩ : ∃ t, ts[0]? = some t := ⟨_, List.getElem?_eq_getElem h0⟩
  obtain ⟨_, _, _, _, ⟨c0, _⟩, _⟩ := h.cells hx
  cases ts with
  | nil => simp at h0
  | cons t r =>
    simp at hx; subst hx
    simpa [firstK, Tree.kind] using c0

set_option maxRecDepth 100000 in
set_option maxHeartbeats 2000000 in
theorem refstor_any (T : Tree) (B : Nat) (v : Value) (w : World) (hB : B ≤ w.heap.size) (hv : Lies B w v T) : Calls Tryz.prog 26 #[v] w fun e w' => e = .returned (.bool (rstorB T)) ∧ Below w.heap.size w w' := by
  obtain ⟨k, x, n, s, ks, ts⟩ := T
  simp only [Lies] at hv
  obtain ⟨ka, kc, la, lc, rfl, ⟨hs1, hs2, hs3, hs4, hs5⟩, hk, ht⟩ := hv
  unfold maxLen at hs5
  obtain ⟨W1, hW1⟩ : ∃ W1, w.alloc (.cells #[.int .i64 k, .bool x, .int .i64 n, .string s, .slice ka ks.length kc, .slice la ts.length lc] 26) = W1 := ⟨_, rfl⟩
  have hb1 : Below w.heap.size w W1 := hW1 ▸ (Below.refl _ _).alloc (Nat.le_refl _) _
  have hq1 : W1.heap[w.heap.size]? = some (.cells #[.int .i64 k, .bool x, .int .i64 n, .string s, .slice ka ks.length kc, .slice la ts.length lc] 26 (0, 0)) := hW1 ▸ World.alloc_heap_new _ _
  have hlt1 : w.heap.size < W1.heap.size := (Array.getElem?_eq_some_iff.1 hq1).1
  have HX : Hid (∀ W, Below W1.heap.size W1 W → Below w.heap.size w W ∧ W.cell? ⟨w.heap.size, 0, none⟩ = some (.int .i64 k) ∧ W.cell? ⟨w.heap.size, 5, none⟩ = some (.slice la ts.length lc)) := fun W hb => by
    have e := (hb.block _ hlt1).trans hq1
    exact ⟨hb1.trans (hb.mono (by omega)), by unfold World.cell?; simp only [e]; rfl, by unfold World.cell?; simp only [e]; rfl⟩
  have HT : Hid (ts = [] ∨ ∃ bl off, la = some ⟨bl, off, none⟩ ∧ bl < B ∧ KidsLie B w bl off ts) := ht
  have HR : Hid (rstorB (.mk k x n s ks ts) = (sameK ts && (if k = 4 then (if ts = [] then true else plainB (firstK ts)) else plainB k))) := rfl
  have HW1 := hidE hW1
  clear hW1 hq1 ht hk
  go_enter Tryz.func26, Tryz.ntmps26
  go_wp2_with fail
  rw [HW1.out]
  clear HW1
  go_loopw [3] (fun i wr => ∃ j : Nat, j ≤ ts.length ∧ i = .int .i64 j ∧ Below W1.heap.size W1 wr ∧ (ts.take j).all (fun t => t.kind == firstK ts) = true) (fun i _ => ts.length - (intOf i).toNat)
  case atStart => exact ⟨0, Nat.zero_le _, rfl, Below.refl _ _, rfl⟩
  case round =>
    obtain ⟨j, hj, rfl, hbr, hal⟩ := hrel
    have HBR := hidE hbr
    have HAL := hidE hal
    obtain ⟨hbw, q0, q5⟩ := HX.out wr hbr
    have HBW := hidE hbw
    clear hbr hbw hal
    by_cases hlt : j < ts.length
    · obtain ⟨bl, off, rfl, hbl, hkk⟩ := HT.out.resolve_left (by intro e; subst e; simp at hlt)
      obtain ⟨⟨p0, p1, p2, p3, p4, p5⟩, hx⟩ : ∃ t, ts[j]? = some t := ⟨_, List.getElem?_eq_getElem hlt⟩
      have hkw := hkk.below (HBW.out.mono hB) hbl
      obtain ⟨_, _, _, _, ⟨c0, _⟩, _⟩ := hkw.cells hx
      have d0 := hkw.first (by omega)
      have HX2 := hidE hx
      obtain ⟨fk, hfk⟩ : ∃ f, firstK ts = f := ⟨_, rfl⟩
      rw [hfk] at d0
      have HFK := hidE hfk
      have hl0 : (0 : Int) < ts.length := by omega
      clear hkk hkw hx hfk
      go_wp2_with fail
      go_quiet (fail)
      by_cases e : p0 = fk
      · have e' : (p0 != fk) = false := by simp [e]
        go_wp2_with fail
        go_roundw
        case rel => exact ⟨j + 1, by omega, by go_num, below_drewN HBR.out _, take_all_snoc HAL.out HX2.out (by rw [HFK.out]; simp [Tree.kind, e])⟩
        case measure => simp [intOf]; omega
      · have e' : (p0 != fk) = true := by simp [e]
        have HRF : Hid (rstorB (.mk k x n s ks ts) = false) := by
          show _ = _
          rw [HR.out]
          have : sameK ts = false := all_false HX2.out (by rw [HFK.out]; simp [Tree.kind, e])
          rw [this]; rfl
        go_wp2_with fail
        go_ret
        exact ⟨by rw [HRF.out]; rfl, below_drewN HBW.out _⟩
    · have HSM : Hid (sameK ts = true) := by
        have := HAL.out
        rw [List.take_of_length_le (by omega)] at this
        exact this
      have HR2 : Hid (rstorB (.mk k x n s ks ts) = (if k = 4 then (if ts = [] then true else plainB (firstK ts)) else plainB k)) := by
        show _ = _; rw [HR.out, HSM.out, Bool.true_and]
      clear HAL HR HSM
      by_cases k4 : k = 4
      · have k4' : (k == 4) = true := by simp [k4]
        by_cases hl0 : 0 < ts.length
        · have hl0' : (0 : Int) < ts.length := by omega
          obtain ⟨bl, off, rfl, hbl, hkk⟩ := HT.out.resolve_left (by intro e; subst e; simp at hl0)
          have d0 := (hkk.below (HBW.out.mono hB) hbl).first hl0
          have HR3 : Hid (rstorB (.mk k x n s ks ts) = plainB (firstK ts)) := by
            show _ = _; rw [HR2.out, if_pos k4, if_neg (by intro e; subst e; simp at hl0)]
          obtain ⟨fk, hfk⟩ : ∃ f, firstK ts = f := ⟨_, rfl⟩
          rw [hfk] at d0
          have HFK := hidE hfk
          clear hkk hfk
          go_wp2_with fail
          all_goals
            go_ret
            refine ⟨?_, HBW.out⟩
            rw [HR3.out, HFK.out]
            simp_all [plainB]
        · have hl0' : ¬ (0 : Int) < ts.length := by omega
          have HR3 : Hid (rstorB (.mk k x n s ks ts) = true) := by
            show _ = _; rw [HR2.out, if_pos k4, if_pos (List.eq_nil_of_length_eq_zero (by omega))]
          clear k4
          go_wp2_with fail
          go_ret
          exact ⟨by rw [HR3.out]; rfl, HBW.out⟩
      · have k4' : (k == 4) = false := by simp [k4]
        have HR3 : Hid (rstorB (.mk k x n s ks ts) = plainB k) := by
          show _ = _; rw [HR2.out, if_neg k4]
        go_wp2_with fail
        all_goals
          go_ret
          refine ⟨?_, HBW.out⟩
          rw [HR3.out]
          simp_all [plainB]
end Go.Proofs.YtbpmhgcjefpigaaGreatDoor

namespace Go.Proofs.YtbpmhgcjefpigaaGreatDoor
open Go.RowKit Go.Shelf
set_option linter.unusedVariables false

mutual
theorem pre_count : ∀ (T : Tree) (d : Int), ((T.pre d).length : Int) = cntT T
  | .mk k b n s ks ts, d => by
    simp only [Tree.pre, List.length_cons, cntT]
    have := preL_count ts (d + 1)
    omega
theorem preL_count : ∀ (l : List Tree) (d : Int), ((Tree.preL d l).length : Int) = cntL l
  | [], d => by simp [Tree.preL, cntL]
  | t :: l, d => by
    simp only [Tree.preL, List.length_append, cntL]
    have := pre_count t d
    have := preL_count l d
    omega
end
def deepF (m : Int) (l : List (Int × Tree)) : Int := (l.map fun x => x.1).foldl max m
theorem hgtL_nonneg : ∀ (l : List Tree), 0 ≤ hgtL l
  | [] => by simp [hgtL]
  | t :: l => by have := hgtL_nonneg l; simp only [hgtL]; omega
mutual
theorem pre_deepest : ∀ (T : Tree) (d m : Int), d - 1 ≤ m → deepF m (T.pre d) = max m (d - 1 + hgtT T)
  | .mk k b n s ks ts, d, m, h => by
    have e : deepF m (Tree.pre d (.mk k b n s ks ts)) = deepF (max m d) (Tree.preL (d + 1) ts) := by simp [deepF, Tree.pre]
    rw [e, preL_deepest ts (d + 1) (max m d) (by omega)]
    have := hgtL_nonneg ts
    simp only [hgtT]
    omega
theorem preL_deepest : ∀ (l : List Tree) (d m : Int), d - 1 ≤ m → deepF m (Tree.preL d l) = max m (d - 1 + hgtL l)
  | [], d, m, h => by simp only [Tree.preL, hgtL, deepF, List.map_nil, List.foldl_nil]; omega
  | t :: l, d, m, h => by
    have e : deepF m (Tree.preL d (t :: l)) = deepF (deepF m (t.pre d)) (Tree.preL d l) := by simp [deepF, Tree.preL]
    rw [e, pre_deepest t d m h, preL_deepest l d _ (by omega)]
    simp only [hgtL]
    omega
end
theorem pre_one (T : Tree) : ((T.pre 1).length : Int) = cntT T ∧ deepL (T.pre 1) = hgtT T := by
  refine ⟨pre_count T 1, ?_⟩
  have h := pre_deepest T 1 0 (by omega)
  have h2 := (size_le T).2.2.2.1
  show deepF 0 (T.pre 1) = _
  rw [h]; omega
theorem sizes_fine {T : Tree} (h : checkN T = 0) : sizeN T = cntT T ∧ sizeD T = hgtT T := by
  unfold sizeN sizeD; rw [if_pos h, if_pos h]; exact pre_one T
theorem sizes_not {T : Tree} (h : checkN T ≠ 0) : sizeN T = 0 ∧ sizeD T = 0 := by
  unfold sizeN sizeD; rw [if_neg h, if_neg h]; exact ⟨rfl, rfl⟩

theorem shaped_root {T : Tree} (h : checkN T = 0) : shapedB T = true := by
  obtain ⟨k, b, n, s, ks, ts⟩ := T
  unfold checkN at h
  by_cases ha : ((Tree.mk k b n s ks ts).pre 1).all (fun x => shapedB x.2) = true
  · simp only [Tree.pre, List.all_cons, Bool.and_eq_true] at ha
    exact ha.1
  · rw [if_neg ha] at h; omega
theorem plain_bare {T : Tree} (h : checkN T = 0) (hp : plainB T.kind = true) : T.kids = [] := by
  have hs := shaped_root h
  obtain ⟨k, b, n, s, ks, ts⟩ := T
  simp only [Tree.kind, Tree.kids] at hp ⊢
  have hk : k = 1 ∨ k = 2 ∨ k = 3 := by simpa [plainB, or_assoc] using hp
  apply List.eq_nil_of_length_eq_zero
  rcases hk with rfl | rfl | rfl <;> simp [shapedB, blankB] at hs <;> simp [hs]
theorem stor_eq {T : Tree} (h : checkN T = 0) : rstorB T = storB T := by
  unfold rstorB storB
  by_cases k4 : T.kind = 4
  · rw [if_pos k4, if_pos k4]
    by_cases hn : T.kids = []
    · rw [if_pos hn, hn]; rfl
    · rw [if_neg hn, Bool.eq_iff_iff]
      obtain ⟨t0, r, e⟩ : ∃ t r, T.kids = t :: r := by cases hh : T.kids with | nil => exact absurd hh hn | cons t r => exact ⟨t, r, rfl⟩
      have hf : firstK T.kids = t0.kind := by rw [e]; rfl
      simp only [Bool.and_eq_true, sameK, List.all_eq_true, beq_iff_eq]
      constructor
      · rintro ⟨h1, h2⟩ t ht
        exact ⟨by rw [h1 t ht]; exact h2, h1 t ht⟩
      · intro h1
        refine ⟨fun t ht => (h1 t ht).2, ?_⟩
        have := (h1 t0 (by rw [e]; simp)).1
        rw [hf]; exact this
  · rw [if_neg k4, if_neg k4]
    by_cases hp : plainB T.kind = true
    · rw [plain_bare h hp, hp]; rfl
    · have hp' : plainB T.kind = false := by simpa using hp
      rw [hp', Bool.and_false]
end Go.Proofs.YtbpmhgcjefpigaaGreatDoor

namespace Go.Proofs.YtbpmhgcjefpigaaGreatDoor
open Go.RowKit Go.Shelf
set_option linter.unusedVariables false

def nullT : Tree := .mk 0 false 0 ⟨#[]⟩ [] []
/-- Lists in lists, so often, about nothing. -/
def deepT : Nat → Tree
  | 0 => nullT
  | n + 1 => .mk 4 false 0 ⟨#[]⟩ [] [deepT n]
def overT : Tree := .mk 5 false 0 ⟨#[]⟩ [⟨#[107]⟩] [deepT 63]
def longT (n : Nat) : Tree := .mk 4 false 0 ⟨#[]⟩ [] (List.replicate n nullT)
def textT (s x : ByteArray) : Tree := .mk 5 false 0 ⟨#[]⟩ [s] [.mk 3 false 0 x [] []]

theorem valid_ascii : ∀ (l : List UInt8), (∀ b ∈ l, b.toNat < 128) → Lib.validD l = true
  | [], _ => Lib.validD_nil
  | b :: t, h => by rw [Lib.validD_cons b t (h b (by simp))]; exact valid_ascii t fun x hx => h x (by simp [hx])

theorem null_facts : mayT nullT = true ∧ hgtT nullT = 1 ∧ bytT nullT = 0 ∧ lngT nullT = 0 ∧ cntT nullT = 1 ∧ nullT.total = 1 := by
  have hb : badB 0 false 0 ⟨#[]⟩ 0 0 = false := by
    simp [badB, rbareB, Lib.validD_nil]
  have hk : keyBytes [] = 0 := rfl
  simp only [nullT, mayT, mayL, hgtT, hgtL, bytT, bytL, lngT, lngL, cntT, cntL, Tree.total, Tree.totalL, List.length_nil, hk]
  refine ⟨by rw [hb, rising_none rfl]; rfl, by omega, by decide, by decide, by omega, by decide⟩
theorem bad_list (n : Nat) : badB 4 false 0 ⟨#[]⟩ 0 n = false := by
  simp [badB, rbareB, Lib.validD_nil]
theorem bad_map : badB 5 false 0 ⟨#[]⟩ 1 1 = false := by
  simp [badB, rbareB, Lib.validD_nil]
theorem bad_text {x : ByteArray} (h : Lib.validD x.data.toList = true) : badB 3 false 0 x 0 0 = false := by
  simp [badB, rbareB, h]
theorem deep_facts : ∀ n, mayT (deepT n) = true ∧ hgtT (deepT n) = n + 1 ∧ bytT (deepT n) = 0 ∧ (0 ≤ lngT (deepT n) ∧ lngT (deepT n) ≤ 1) ∧ cntT (deepT n) = n + 1 ∧ (deepT n).total = n + 1
  | 0 => by
    obtain ⟨h1, h2, h3, h4, h5, h6⟩ := null_facts
    simp only [deepT]
    refine ⟨h1, h2, h3, by omega, h5, h6⟩
  | n + 1 => by
    obtain ⟨h1, h2, h3, h4, h5, h6⟩ := deep_facts n
    have hk : keyBytes [] = 0 := rfl
    simp only [deepT, mayT, mayL, hgtT, hgtL, bytT, bytL, lngT, lngL, cntT, cntL, Tree.total, Tree.totalL, List.length_cons, List.length_nil, h1, h2, h3, h5, h6, hk]
    refine ⟨by rw [bad_list, rising_none rfl]; rfl, ?_, ?_, ?_, ?_, ?_⟩
    · omega
    · show (0 : Int) + 0 + (0 + 0) = 0; omega
    · constructor <;> omega
    · push_cast; omega
    · show 1 + (0 : Int) + ((0 : Nat) : Int) + 0 + ((n : Int) + 1 + 0) = _; push_cast; omega
theorem rep_facts : ∀ n, mayL (List.replicate n nullT) = true ∧ hgtL (List.replicate n nullT) ≤ 1 ∧ bytL (List.replicate n nullT) = 0 ∧ lngL (List.replicate n nullT) = 0 ∧ Tree.totalL (List.replicate n nullT) = n
  | 0 => by refine ⟨rfl, by decide, rfl, rfl, rfl⟩
  | n + 1 => by
    obtain ⟨h1, h2, h3, h4, h5⟩ := rep_facts n
    obtain ⟨g1, g2, g3, g4, _, g6⟩ := null_facts
    simp only [List.replicate_succ, mayL, hgtL, bytL, lngL, Tree.totalL, h1, h3, h4, h5, g1, g2, g3, g4, g6]
    refine ⟨rfl, by omega, by omega, by omega, by push_cast; omega⟩
theorem long_facts (n : Nat) : mayT (longT n) = true ∧ hgtT (longT n) ≤ 2 ∧ bytT (longT n) = 0 ∧ lngT (longT n) = n ∧ (longT n).total = n + 1 := by
  obtain ⟨h1, h2, h3, h4, h5⟩ := rep_facts n
  have hk : keyBytes [] = 0 := rfl
  simp only [longT, mayT, hgtT, bytT, lngT, Tree.total, List.length_replicate, List.length_nil, h1, h3, h4, h5, hk]
  refine ⟨by rw [bad_list, rising_none rfl]; rfl, by omega, ?_, by omega, ?_⟩
  · show (0 : Int) + 0 + 0 = 0; omega
  · show 1 + (0 : Int) + ((0 : Nat) : Int) + 0 + (n : Int) = _; push_cast; omega
theorem rising_one {s : ByteArray} (h : Lib.validD s.data.toList = true) : risingB [s] = true := by
  refine rising_true fun i hi => ?_
  obtain rfl : i = 0 := by simp at hi; exact hi
  simp [risesAt, h]
theorem text_facts {s x : ByteArray} (hs : Lib.validD s.data.toList = true) (hx : Lib.validD x.data.toList = true) : mayT (textT s x) = true ∧ hgtT (textT s x) = 2 ∧ bytT (textT s x) = s.size + x.size ∧ lngT (textT s x) = 1 ∧ (textT s x).total = 3 + s.size + x.size := by
  have hk : keyBytes [] = 0 := rfl
  have hk1 : keyBytes [s] = s.size := by simp [keyBytes]
  simp only [textT, mayT, mayL, hgtT, hgtL, bytT, bytL, lngT, lngL, Tree.total, Tree.totalL, List.length_cons, List.length_nil, hk, hk1]
  refine ⟨by rw [bad_map, bad_text hx, rising_one hs, rising_none rfl]; rfl, by omega, ?_, by omega, ?_⟩
  · show (0 : Int) + s.size + ((x.size : Int) + 0 + 0 + 0) = _; omega
  · show 1 + (0 : Int) + ((1 : Nat) : Int) + s.size + (1 + (x.size : Int) + ((0 : Nat) : Int) + 0 + 0 + 0) = _; push_cast; omega
theorem over_facts : mayT overT = true ∧ hgtT overT = 65 ∧ bytT overT = 1 ∧ overT.total ≤ 100 := by
  obtain ⟨h1, h2, h3, h4, h5, h6⟩ := deep_facts 63
  have hk1 : keyBytes [(⟨#[107]⟩ : ByteArray)] = 1 := by decide
  have hv : Lib.validD (⟨#[107]⟩ : ByteArray).data.toList = true := valid_ascii _ (by decide)
  simp only [overT, mayT, mayL, hgtT, hgtL, bytT, bytL, Tree.total, Tree.totalL, List.length_cons, List.length_nil, h1, h2, h3, h6, hk1]
  refine ⟨by rw [bad_map, rising_one hv]; rfl, by omega, by show (0 : Int) + 1 + (0 + 0) = 1; omega, by show 1 + (0 : Int) + ((1 : Nat) : Int) + 1 + (((63 : Nat) : Int) + 1 + 0) ≤ 100; omega⟩

theorem check_deep : checkN (deepT 63) = 0 := by
  obtain ⟨h1, h2, h3, h4, _⟩ := deep_facts 63
  rw [check_eq, if_pos h1, if_neg]; omega
theorem check_over : checkN overT = 3 := by
  obtain ⟨h1, h2, h3, _⟩ := over_facts
  rw [check_eq, if_pos h1, if_pos]; omega
theorem check_long {n : Nat} (h : n ≤ 65536) : checkN (longT n) = 0 := by
  obtain ⟨h1, h2, h3, h4, _⟩ := long_facts n
  rw [check_eq, if_pos h1, if_neg]; omega
theorem check_more {n : Nat} (h : 65536 < n) : checkN (longT n) = 3 := by
  obtain ⟨h1, h2, h3, h4, _⟩ := long_facts n
  rw [check_eq, if_pos h1, if_pos]; omega
theorem check_text {s x : ByteArray} (hs : Lib.validD s.data.toList = true) (hx : Lib.validD x.data.toList = true) (h : s.size + x.size ≤ 1048576) : checkN (textT s x) = 0 := by
  obtain ⟨h1, h2, h3, h4, _⟩ := text_facts hs hx
  rw [check_eq, if_pos h1, if_neg]; omega
theorem check_great {s x : ByteArray} (hs : Lib.validD s.data.toList = true) (hx : Lib.validD x.data.toList = true) (h : 1048576 < s.size + x.size) : checkN (textT s x) = 3 := by
  obtain ⟨h1, h2, h3, h4, _⟩ := text_facts hs hx
  rw [check_eq, if_pos h1, if_pos]; omega
theorem modest_to {T : Tree} (h : T.total ≤ 2000000) : Modest T := by
  have := total_bounds T 1
  exact ⟨by omega, by omega⟩
end Go.Proofs.YtbpmhgcjefpigaaGreatDoor

namespace Go.Proofs.YtbpmhgcjefpigaaGreatDoor
open Go.RowKit Go.Shelf
set_option linter.unusedVariables false

set_option maxHeartbeats 1000000 in
theorem Text_not (T : Tree) (hc : checkN T ≠ 0) (hm : Modest T) (B : Nat) (v : Value) (w : World) (hB : B ≤ w.heap.size) (hv : Lies B w v T) (hT : Tabs w) :
    Calls Tryz.prog 39 #[v] w fun e w' => e = .returned (.tuple #[.string ⟨#[]⟩, .int .i64 (checkN T)]) ∧ Below w.heap.size w w' := by
  have hv0 := hv
  obtain ⟨k, b, nn, s, ks, ts⟩ := T
  simp only [Lies] at hv
  obtain ⟨ka, kc, la, lc, rfl, -⟩ := hv
  obtain ⟨W1, hW1⟩ : ∃ W1, w.alloc (.cells #[.int .i64 k, .bool b, .int .i64 nn, .string s, .slice ka ks.length kc, .slice la ts.length lc] 26) = W1 := ⟨_, rfl⟩
  have hb1 : Below w.heap.size w W1 := hW1 ▸ (Below.refl _ _).alloc (Nat.le_refl _) _
  have hl1 := (hv0.below (hb1.mono hB)).mono (Nat.le_trans hB hb1.size)
  have HC := hidE (check_any _ _ _ hl1 (hT.below hb1) hm.1 hm.2)
  obtain ⟨cn, hcn⟩ : ∃ x, checkN (.mk k b nn s ks ts) = x := ⟨_, rfl⟩
  rw [hcn] at HC hc ⊢
  have hc' : (cn != 0) = true := by simp [hc]
  have HB1 := hidE hb1
  have HW1 := hidE hW1
  clear hW1 hb1 hl1 hT hm hv0 hcn hc
  go_enter Tryz.func39, Tryz.ntmps39
  go_wp2_with fail
  rw [HW1.out]
  refine HC.out.mono ?_
  rintro e w2 ⟨rfl, hb2⟩
  have HB2 : Hid (Below w.heap.size w w2) := below_on HB1.out hb2
  clear hb2 HC HW1
  go_wp2_with fail
  go_ret2
  exact ⟨rfl, HB2.out⟩

set_option maxRecDepth 100000 in
set_option maxHeartbeats 1000000 in
theorem Once_not (T : Tree) (hc : checkN T ≠ 0) (hm : Modest T) (B : Nat) (la : Option Addr) (w : World) (hB : B ≤ w.heap.size) (hl : ListLies B w la [T]) (hT : Tabs w) :
    Calls Tryz.prog 47 #[.slice la 1 1] w fun e w' => e = .returned (.slice none 0 0) ∧ Below w.heap.size w w' := by
  have hmm : ∀ W : World, (Instr.makeMap 87 none).run Tryz.prog W = .ok (.map (some W.heap.size)) (W.alloc (.map #[] 0)) := fun W => rfl
  obtain ⟨bl, off, rfl, hbl, hkk⟩ := hl.resolve_left (by simp)
  obtain ⟨k, b, nn, s, ks, ts⟩ := T
  obtain ⟨ka, kc, lb, lc, ⟨c0, c1, c2, c3, c4, c5⟩, hlx⟩ := hkk.cells (i := 0) rfl
  simp only [Nat.zero_mul, Nat.add_zero] at c0 c1 c2 c3 c4 c5
  obtain ⟨W1, hW1⟩ : ∃ W1, w.alloc (.map #[] 0) = W1 := ⟨_, rfl⟩
  have hb1 : Below w.heap.size w W1 := hW1 ▸ (Below.refl _ _).alloc (Nat.le_refl _) _
  have hlt : bl < w.heap.size := by omega
  replace c0 := (hb1.cell (p := ⟨bl, off, none⟩) hlt).trans c0
  replace c1 := (hb1.cell (p := ⟨bl, off + 1, none⟩) hlt).trans c1
  replace c2 := (hb1.cell (p := ⟨bl, off + 2, none⟩) hlt).trans c2
  replace c3 := (hb1.cell (p := ⟨bl, off + 3, none⟩) hlt).trans c3
  replace c4 := (hb1.cell (p := ⟨bl, off + 4, none⟩) hlt).trans c4
  replace c5 := (hb1.cell (p := ⟨bl, off + 5, none⟩) hlt).trans c5
  obtain ⟨W2, hW2⟩ : ∃ W2, W1.alloc (.cells #[.int .i64 k, .bool b, .int .i64 nn, .string s, .slice ka ks.length kc, .slice lb ts.length lc] 26) = W2 := ⟨_, rfl⟩
  have hb12 : Below W1.heap.size W1 W2 := hW2 ▸ (Below.refl _ _).alloc (Nat.le_refl _) _
  have hb2 : Below w.heap.size w W2 := below_on hb1 hb12
  have HTX := hidE (Text_not _ hc hm B _ W2 (Nat.le_trans hB hb2.size) (hlx.below (hb2.mono hB)) (hT.below hb2))
  obtain ⟨cn, hcn⟩ : ∃ x, checkN (.mk k b nn s ks ts) = x := ⟨_, rfl⟩
  rw [hcn] at HTX hc
  have hc' : (cn != 0) = true := by simp [hc]
  have HB2 := hidE hb2
  have HW1 := hidE hW1
  have HW2 := hidE hW2
  clear hW1 hW2 hb1 hb12 hb2 hkk hlx hl hT hm hcn hc
  go_enter Tryz.func47, Tryz.ntmps47
  go_wp2_with fail
  rw [HW1.out]
  clear hmm
  go_loopw [14] (fun i wr => i = .int .i64 0 ∧ wr = W1) (fun i _ => 1 - (intOf i).toNat)
  case atStart => exact ⟨rfl, rfl⟩
  case round =>
    obtain ⟨rfl, rfl⟩ := hrel
    go_wp2_with fail
    rw [HW2.out]
    refine HTX.out.mono ?_
    rintro e w3 ⟨rfl, hb3⟩
    have HB3 : Hid (Below w.heap.size w w3) := below_on HB2.out hb3
    clear hb3 c0 c1 c2 c3 c4 c5
    go_wp2_with fail
    go_ret
    exact ⟨rfl, HB3.out⟩
end Go.Proofs.YtbpmhgcjefpigaaGreatDoor

