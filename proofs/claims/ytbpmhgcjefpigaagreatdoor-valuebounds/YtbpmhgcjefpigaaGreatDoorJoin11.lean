/- Small values are modest; the shape of a value; two values in a row. The values at the bounds: how great they are, and what Check answers of them. Text and Once of a value that is refused. -/
import Derived.Test.YtbpmhgcjefpigaaGreatDoorJoin8
import Derived.Test.YtbpmhgcjefpigaaGreatDoorWalked
import Derived.Test.YtbpmhgcjefpigaaGreatDoorTotal
import Derived.Lib.ValidLaws
namespace Go.Proofs.YtbpmhgcjefpigaaGreatDoor
open Go.RowKit Go.Shelf
set_option linter.unusedVariables false

theorem keyBytes_pos : ∀ ks : List ByteArray, 0 ≤ keyBytes ks
  | [] => by simp [keyBytes]
  | k :: ks => by
    have := keyBytes_pos ks
    simp only [keyBytes, List.map_cons, List.sum_cons] at this ⊢
    omega
theorem bytesOf_app (a b : List (Int × Tree)) : bytesOf (a ++ b) = bytesOf a + bytesOf b := by
  unfold bytesOf; rw [List.map_append, List.sum_append]
mutual
theorem total_bounds : ∀ (T : Tree) (d : Int), (T.height : Int) ≤ T.total ∧ bytesOf (T.pre d) ≤ T.total ∧ 1 ≤ T.total
  | .mk k b n s ks ts, d => by
    obtain ⟨h1, h2, h3⟩ := totalL_bounds ts (d + 1)
    have h4 := keyBytes_pos ks
    have e : bytesOf ((d, Tree.mk k b n s ks ts) :: Tree.preL (d + 1) ts) = ((s.size : Int) + keyBytes ks) + bytesOf (Tree.preL (d + 1) ts) := by
      simp [bytesOf, Tree.bytes, Tree.text, Tree.keys]
    rw [Tree.height, Tree.total, Tree.pre, e]
    refine ⟨?_, ?_, ?_⟩ <;> omega
theorem totalL_bounds : ∀ (ts : List Tree) (d : Int), (Tree.heightL ts : Int) ≤ Tree.totalL ts ∧ bytesOf (Tree.preL d ts) ≤ Tree.totalL ts ∧ 0 ≤ Tree.totalL ts
  | [], d => by simp [Tree.heightL, Tree.totalL, Tree.preL, bytesOf]
  | t :: ts, d => by
    obtain ⟨h1, h2, h3⟩ := total_bounds t d
    obtain ⟨g1, g2, g3⟩ := totalL_bounds ts d
    rw [Tree.heightL, Tree.totalL, Tree.preL, bytesOf_app]
    refine ⟨?_, ?_, ?_⟩ <;> omega
end
theorem modest_total {T : Tree} (h : T.total ≤ 2000) : Modest T := by
  obtain ⟨h1, h2, _⟩ := total_bounds T 1
  exact ⟨by omega, by omega⟩
theorem small_total {ts : List Tree} (h : smalls ts ≤ 2000) : ∀ t ∈ ts, t.total ≤ 2000 := fun t ht => by
  have hp : ∀ u ∈ ts, 0 ≤ smallN u 2000 := fun u _ => by have := smallN_pos u 2000; omega
  have : smallN t 2000 ≤ 2000 := by
    obtain ⟨i, hi⟩ := List.mem_iff_getElem?.1 ht
    have h1 := smalls_take hi
    have h2 := smalls_take_le (i + 1) hp
    have h3 := smalls_pos (ts := ts.take i) fun u hu => hp u (List.mem_of_mem_take hu)
    omega
  have e := smallN_eq t 2000 this
  omega
theorem lies_form {B : Nat} {w : World} {v : Value} {T : Tree} (h : Lies B w v T) : ∃ (k : Int) (x : Bool) (n : Int) (s : ByteArray) (ka : Option Addr) (kn kc : Nat) (la : Option Addr) (ln lc : Nat), v = .agg #[.int .i64 k, .bool x, .int .i64 n, .string s, .slice ka kn kc, .slice la ln lc] := by
  obtain ⟨k, x, n, s, ks, ts⟩ := T
  simp only [Lies] at h
  obtain ⟨ka, kc, la, lc, rfl, -⟩ := h
  exact ⟨_, _, _, _, _, _, _, _, _, _, rfl⟩
theorem six_cells {w : World} {q : Nat} {x0 x1 x2 x3 x4 x5 : Value} {fz : Nat × Nat} (h : w.heap[q]? = some (.cells #[x0, x1, x2, x3, x4, x5] 26 fz)) :
    w.cell? ⟨q, 0, none⟩ = some x0 ∧ w.cell? ⟨q, 1, none⟩ = some x1 ∧ w.cell? ⟨q, 2, none⟩ = some x2 ∧ w.cell? ⟨q, 3, none⟩ = some x3 ∧ w.cell? ⟨q, 4, none⟩ = some x4 ∧ w.cell? ⟨q, 5, none⟩ = some x5 :=
  ⟨box_cell h rfl, box_cell h rfl, box_cell h rfl, box_cell h rfl, box_cell h rfl, box_cell h rfl⟩
theorem kids_two {W : World} {bl B : Nat} {a0 a1 a2 a3 a4 a5 b0 b1 b2 b3 b4 b5 : Value} {S T : Tree}
    (hc : W.heap[bl]? = some (.cells #[a0, a1, a2, a3, a4, a5, b0, b1, b2, b3, b4, b5] 26 (0, 0)))
    (h1 : Lies B W (.agg #[a0, a1, a2, a3, a4, a5]) S) (h2 : Lies B W (.agg #[b0, b1, b2, b3, b4, b5]) T) : KidsLie B W bl 0 [S, T] := by
  have hcell : ∀ i v, (#[a0, a1, a2, a3, a4, a5, b0, b1, b2, b3, b4, b5] : Array Value)[i]? = some v → W.cell? ⟨bl, i, none⟩ = some v := by
    intro i v hi; unfold World.cell?; simp only [hc]; simpa using hi
  simp only [KidsLie]
  refine ⟨⟨_, _, _, _, _, _, ⟨hcell 0 _ rfl, hcell 1 _ rfl, hcell 2 _ rfl, hcell 3 _ rfl, hcell 4 _ rfl, hcell 5 _ rfl⟩, h1⟩, ⟨_, _, _, _, _, _, ⟨hcell 6 _ rfl, hcell 7 _ rfl, hcell 8 _ rfl, hcell 9 _ rfl, hcell 10 _ rfl, hcell 11 _ rfl⟩, h2⟩, trivial⟩
theorem lies_kind {B : Nat} {w : World} {k : Int} {v1 v2 v3 v4 v5 : Value} {T : Tree} (h : Lies B w (.agg #[.int .i64 k, v1, v2, v3, v4, v5]) T) : T.kind = k := by
  obtain ⟨k', x, n, s, ks, ts⟩ := T
  simp only [Lies] at h
  obtain ⟨ka, kc, la, lc, e, -⟩ := h
  injection e with e
  injection e with e
  injection e with e1 e2
  injection e1 with _ e3
  exact e3.symm
end Go.Proofs.YtbpmhgcjefpigaaGreatDoor

namespace Go.Proofs.YtbpmhgcjefpigaaGreatDoor
open Go.RowKit Go.Shelf
set_option linter.unusedVariables false

def nullT : Tree := .mk 0 false 0 ⟨#[]⟩ [] []
/-- Lists in lists, so often, about nothing. -/
def deepT : Nat → Tree
  | 0 => nullT
  | n + 1 => .mk 4 false 0 ⟨#[]⟩ [] [deepT n]
def overT : Tree := .mk 5 false 0 ⟨#[]⟩ [⟨#[107]⟩] [deepT 63]
def longT (n : Nat) : Tree := .mk 4 false 0 ⟨#[]⟩ [] (List.replicate n nullT)
def textT (s x : ByteArray) : Tree := .mk 5 false 0 ⟨#[]⟩ [s] [.mk 3 false 0 x [] []]

theorem valid_ascii : ∀ (l : List UInt8), (∀ b ∈ l, b.toNat < 128) → Lib.validD l = true
  | [], _ => Lib.validD_nil
  | b :: t, h => by rw [Lib.validD_cons b t (h b (by simp))]; exact valid_ascii t fun x hx => h x (by simp [hx])

theorem null_facts : mayT nullT = true ∧ hgtT nullT = 1 ∧ bytT nullT = 0 ∧ lngT nullT = 0 ∧ cntT nullT = 1 ∧ nullT.total = 1 := by
  have hb : badB 0 false 0 ⟨#[]⟩ 0 0 = false := by
    simp [badB, rbareB, Lib.validD_nil]
  have hk : keyBytes [] = 0 := rfl
  simp only [nullT, mayT, mayL, hgtT, hgtL, bytT, bytL, lngT, lngL, cntT, cntL, Tree.total, Tree.totalL, List.length_nil, hk]
  refine ⟨by rw [hb, rising_none rfl]; rfl, by omega, by decide, by decide, by omega, by decide⟩
theorem bad_list (n : Nat) : badB 4 false 0 ⟨#[]⟩ 0 n = false := by
  simp [badB, rbareB, Lib.validD_nil]
theorem bad_map : badB 5 false 0 ⟨#[]⟩ 1 1 = false := by
  simp [badB, rbareB, Lib.validD_nil]
theorem bad_text {x : ByteArray} (h : Lib.validD x.data.toList = true) : badB 3 false 0 x 0 0 = false := by
  simp [badB, rbareB, h]
theorem deep_facts : ∀ n, mayT (deepT n) = true ∧ hgtT (deepT n) = n + 1 ∧ bytT (deepT n) = 0 ∧ (0 ≤ lngT (deepT n) ∧ lngT (deepT n) ≤ 1) ∧ cntT (deepT n) = n + 1 ∧ (deepT n).total = n + 1
  | 0 => by
    obtain ⟨h1, h2, h3, h4, h5, h6⟩ := null_facts
    simp only [deepT]
    refine ⟨h1, h2, h3, by omega, h5, h6⟩
  | n + 1 => by
    obtain ⟨h1, h2, h3, h4, h5, h6⟩ := deep_facts n
    have hk : keyBytes [] = 0 := rfl
    simp only [deepT, mayT, mayL, hgtT, hgtL, bytT, bytL, lngT, lngL, cntT, cntL, Tree.total, Tree.totalL, List.length_cons, List.length_nil, h1, h2, h3, h5, h6, hk]
    refine ⟨by rw [bad_list, rising_none rfl]; rfl, ?_, ?_, ?_, ?_, ?_⟩
    · omega
    · show (0 : Int) + 0 + (0 + 0) = 0; omega
    · constructor <;> omega
    · push_cast; omega
    · show 1 + (0 : Int) + ((0 : Nat) : Int) + 0 + ((n : Int) + 1 + 0) = _; push_cast; omega
theorem rep_facts : ∀ n, mayL (List.replicate n nullT) = true ∧ hgtL (List.replicate n nullT) ≤ 1 ∧ bytL (List.replicate n nullT) = 0 ∧ lngL (List.replicate n nullT) = 0 ∧ Tree.totalL (List.replicate n nullT) = n
  | 0 => by refine ⟨rfl, by decide, rfl, rfl, rfl⟩
  | n + 1 => by
    obtain ⟨h1, h2, h3, h4, h5⟩ := rep_facts n
    obtain ⟨g1, g2, g3, g4, _, g6⟩ := null_facts
    simp only [List.replicate_succ, mayL, hgtL, bytL, lngL, Tree.totalL, h1, h3, h4, h5, g1, g2, g3, g4, g6]
    refine ⟨rfl, by omega, by omega, by omega, by push_cast; omega⟩
theorem long_facts (n : Nat) : mayT (longT n) = true ∧ hgtT (longT n) ≤ 2 ∧ bytT (longT n) = 0 ∧ lngT (longT n) = n ∧ (longT n).total = n + 1 := by
  obtain ⟨h1, h2, h3, h4, h5⟩ := rep_facts n
  have hk : keyBytes [] = 0 := rfl
  simp only [longT, mayT, hgtT, bytT, lngT, Tree.total, List.length_replicate, List.length_nil, h1, h3, h4, h5, hk]
  refine ⟨by rw [bad_list, rising_none rfl]; rfl, by omega, ?_, by omega, ?_⟩
  · show (0 : Int) + 0 + 0 = 0; omega
  · show 1 + (0 : Int) + ((0 : Nat) : Int) + 0 + (n : Int) = _; push_cast; omega
theorem rising_one {s : ByteArray} (h : Lib.validD s.data.toList = true) : risingB [s] = true := by
  refine rising_true fun i hi => ?_
  obtain rfl : i = 0 := by simp at hi; exact hi
  simp [risesAt, h]
theorem text_facts {s x : ByteArray} (hs : Lib.validD s.data.toList = true) (hx : Lib.validD x.data.toList = true) : mayT (textT s x) = true ∧ hgtT (textT s x) = 2 ∧ bytT (textT s x) = s.size + x.size ∧ lngT (textT s x) = 1 ∧ (textT s x).total = 3 + s.size + x.size := by
  have hk : keyBytes [] = 0 := rfl
  have hk1 : keyBytes [s] = s.size := by simp [keyBytes]
  simp only [textT, mayT, mayL, hgtT, hgtL, bytT, bytL, lngT, lngL, Tree.total, Tree.totalL, List.length_cons, List.length_nil, hk, hk1]
  refine ⟨by rw [bad_map, bad_text hx, rising_one hs, rising_none rfl]; rfl, by omega, ?_, by omega, ?_⟩
  · show (0 : Int) + s.size + ((x.size : Int) + 0 + 0 + 0) = _; omega
  · show 1 + (0 : Int) + ((1 : Nat) : Int) + s.size + (1 + (x.size : Int) + ((0 : Nat) : Int) + 0 + 0 + 0) = _; push_cast; omega
theorem over_facts : mayT overT = true ∧ hgtT overT = 65 ∧ bytT overT = 1 ∧ overT.total ≤ 100 := by
  obtain ⟨h1, h2, h3, h4, h5, h6⟩ := deep_facts 63
  have hk1 : keyBytes [(⟨#[107]⟩ : ByteArray)] = 1 := by decide
  have hv : Lib.validD (⟨#[107]⟩ : ByteArray).data.toList = true := valid_ascii _ (by decide)
  simp only [overT, mayT, mayL, hgtT, hgtL, bytT, bytL, Tree.total, Tree.totalL, List.length_cons, List.length_nil, h1, h2, h3, h6, hk1]
  refine ⟨by rw [bad_map, rising_one hv]; rfl, by omega, by show (0 : Int) + 1 + (0 + 0) = 1; omega, by show 1 + (0 : Int) + ((1 : Nat) : Int) + 1 + (((63 : Nat) : Int) + 1 + 0) ≤ 100; omega⟩

theorem check_deep : checkN (deepT 63) = 0 := by
  obtain ⟨h1, h2, h3, h4, _⟩ := deep_facts 63
  rw [check_eq, if_pos h1, if_neg]; omega
theorem check_over : checkN overT = 3 := by
  obtain ⟨h1, h2, h3, _⟩ := over_facts
  rw [check_eq, if_pos h1, if_pos]; omega
theorem check_long {n : Nat} (h : n ≤ 65536) : checkN (longT n) = 0 := by
  obtain ⟨h1, h2, h3, h4, _⟩ := long_facts n
  rw [check_eq, if_pos h1, if_neg]; omega
theorem check_more {n : Nat} (h : 65536 < n) : checkN (longT n) = 3 := by
  obtain ⟨h1, h2, h3, h4, _⟩ := long_facts n
  rw [check_eq, if_pos h1, if_pos]; omega
theorem check_text {s x : ByteArray} (hs : Lib.validD s.data.toList = true) (hx : Lib.validD x.data.toList = true) (h : s.size + x.size ≤ 1048576) : checkN (textT s x) = 0 := by
  obtain ⟨h1, h2, h3, h4, _⟩ := text_facts hs hx
  rw [check_eq, if_pos h1, if_neg]; omega
theorem check_great {s x : ByteArray} (hs : Lib.validD s.data.toList = true) (hx : Lib.validD x.data.toList = true) (h : 1048576 < s.size + x.size) : checkN (textT s x) = 3 := by
  obtain ⟨h1, h2, h3, h4, _⟩ := text_facts hs hx
  rw [check_eq, if_pos h1, if_pos]; omega
theorem modest_to {T : Tree} (h : T.total ≤ 2000000) : Modest T := by
  have := total_bounds T 1
  exact ⟨by omega, by omega⟩
end Go.Proofs.YtbpmhgcjefpigaaGreatDoor

namespace Go.Proofs.YtbpmhgcjefpigaaGreatDoor
open Go.RowKit Go.Shelf
set_option linter.unusedVariables false

set_option maxHeartbeats 1000000 in
theorem Text_not (T : Tree) (hc : checkN T ≠ 0) (hm : Modest T) (B : Nat) (v : Value) (w : World) (hB : B ≤ w.heap.size) (hv : Lies B w v T) (hT : Tabs w) :
    Calls Tryz.prog 39 #[v] w fun e w' => e = .returned (.tuple #[.string ⟨#[]⟩, .int .i64 (checkN T)]) ∧ Below w.heap.size w w' := by
  have hv0 := hv
  obtain ⟨k, b, nn, s, ks, ts⟩ := T
  simp only [Lies] at hv
  obtain ⟨ka, kc, la, lc, rfl, -⟩ := hv
  obtain ⟨W1, hW1⟩ : ∃ W1, w.alloc (.cells #[.int .i64 k, .bool b, .int .i64 nn, .string s, .slice ka ks.length kc, .slice la ts.length lc] 26) = W1 := ⟨_, rfl⟩
  have hb1 : Below w.heap.size w W1 := hW1 ▸ (Below.refl _ _).alloc (Nat.le_refl _) _
  have hl1 := (hv0.below (hb1.mono hB)).mono (Nat.le_trans hB hb1.size)
  have HC := hidE (check_any _ _ _ hl1 (hT.below hb1) hm.1 hm.2)
  obtain ⟨cn, hcn⟩ : ∃ x, checkN (.mk k b nn s ks ts) = x := ⟨_, rfl⟩
  rw [hcn] at HC hc ⊢
  have hc' : (cn != 0) = true := by simp [hc]
  have HB1 := hidE hb1
  have HW1 := hidE hW1
  clear hW1 hb1 hl1 hT hm hv0 hcn hc
  go_enter Tryz.func39, Tryz.ntmps39
  go_wp2_with fail
  rw [HW1.out]
  refine HC.out.mono ?_
  rintro e w2 ⟨rfl, hb2⟩
  have HB2 : Hid (Below w.heap.size w w2) := below_on HB1.out hb2
  clear hb2 HC HW1
  go_wp2_with fail
  go_ret2
  exact ⟨rfl, HB2.out⟩

set_option maxRecDepth 100000 in
set_option maxHeartbeats 1000000 in
theorem Once_not (T : Tree) (hc : checkN T ≠ 0) (hm : Modest T) (B : Nat) (la : Option Addr) (w : World) (hB : B ≤ w.heap.size) (hl : ListLies B w la [T]) (hT : Tabs w) :
    Calls Tryz.prog 47 #[.slice la 1 1] w fun e w' => e = .returned (.slice none 0 0) ∧ Below w.heap.size w w' := by
  have hmm : ∀ W : World, (Instr.makeMap 87 none).run Tryz.prog W = .ok (.map (some W.heap.size)) (W.alloc (.map #[] 0)) := fun W => rfl
  obtain ⟨bl, off, rfl, hbl, hkk⟩ := hl.resolve_left (by simp)
  obtain ⟨k, b, nn, s, ks, ts⟩ := T
  obtain ⟨ka, kc, lb, lc, ⟨c0, c1, c2, c3, c4, c5⟩, hlx⟩ := hkk.cells (i := 0) rfl
  simp only [Nat.zero_mul, Nat.add_zero] at c0 c1 c2 c3 c4 c5
  obtain ⟨W1, hW1⟩ : ∃ W1, w.alloc (.map #[] 0) = W1 := ⟨_, rfl⟩
  have hb1 : Below w.heap.size w W1 := hW1 ▸ (Below.refl _ _).alloc (Nat.le_refl _) _
  have hlt : bl < w.heap.size := by omega
  replace c0 := (hb1.cell (p := ⟨bl, off, none⟩) hlt).trans c0
  replace c1 := (hb1.cell (p := ⟨bl, off + 1, none⟩) hlt).trans c1
  replace c2 := (hb1.cell (p := ⟨bl, off + 2, none⟩) hlt).trans c2
  replace c3 := (hb1.cell (p := ⟨bl, off + 3, none⟩) hlt).trans c3
  replace c4 := (hb1.cell (p := ⟨bl, off + 4, none⟩) hlt).trans c4
  replace c5 := (hb1.cell (p := ⟨bl, off + 5, none⟩) hlt).trans c5
  obtain ⟨W2, hW2⟩ : ∃ W2, W1.alloc (.cells #[.int .i64 k, .bool b, .int .i64 nn, .string s, .slice ka ks.length kc, .slice lb ts.length lc] 26) = W2 := ⟨_, rfl⟩
  have hb12 : Below W1.heap.size W1 W2 := hW2 ▸ (Below.refl _ _).alloc (Nat.le_refl _) _
  have hb2 : Below w.heap.size w W2 := below_on hb1 hb12
  have HTX := hidE (Text_not _ hc hm B _ W2 (Nat.le_trans hB hb2.size) (hlx.below (hb2.mono hB)) (hT.below hb2))
  obtain ⟨cn, hcn⟩ : ∃ x, checkN (.mk k b nn s ks ts) = x := ⟨_, rfl⟩
  rw [hcn] at HTX hc
  have hc' : (cn != 0) = true := by simp [hc]
  have HB2 := hidE hb2
  have HW1 := hidE hW1
  have HW2 := hidE hW2
  clear hW1 hW2 hb1 hb12 hb2 hkk hlx hl hT hm hcn hc
  go_enter Tryz.func47, Tryz.ntmps47
  go_wp2_with fail
  rw [HW1.out]
  clear hmm
  go_loopw [14] (fun i wr => i = .int .i64 0 ∧ wr = W1) (fun i _ => 1 - (intOf i).toNat)
  case atStart => exact ⟨rfl, rfl⟩
  case round =>
    obtain ⟨rfl, rfl⟩ := hrel
    go_wp2_with fail
    rw [HW2.out]
    refine HTX.out.mono ?_
    rintro e w3 ⟨rfl, hb3⟩
    have HB3 : Hid (Below w.heap.size w w3) := below_on HB2.out hb3
    clear hb3 c0 c1 c2 c3 c4 c5
    go_wp2_with fail
    go_ret
    exact ⟨rfl, HB3.out⟩
end Go.Proofs.YtbpmhgcjefpigaaGreatDoor

