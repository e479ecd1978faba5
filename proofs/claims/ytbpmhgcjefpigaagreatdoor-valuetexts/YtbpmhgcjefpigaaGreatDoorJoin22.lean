/- The values at the bounds: how great they are, and what Check answers of them. Text and Once of a value that is refused. Values whose lists have one place more, which is laid; rows of keys are put behind others. -/
import Derived.Test.YtbpmhgcjefpigaaGreatDoorJoin21
import Derived.Test.YtbpmhgcjefpigaaGreatDoorJoin13
import Derived.Lib.ValidLaws
import Derived.Test.YtbpmhgcjefpigaaGreatDoorMap11
import Derived.Laws.OwnMore
namespace Go.Proofs.YtbpmhgcjefpigaaGreatDoor
open Go.RowKit Go.Shelf
set_option linter.unusedVariables false

def nullT : Tree := .mk 0 false 0 ⟨#[]⟩ [] []
/-- Lists in lists, so often, about nothing. -/
def deepT : Nat → Tree
  | 0 => nullT
  | n + 1 => .mk 4 false 0 ⟨#[]⟩ [] [deepT n]
def overT : Tree := .mk 5 false 0 ⟨#[]⟩ [⟨#[107]⟩] [deepT 63]
def longT (n : Nat) : Tree := .mk 4 false 0 ⟨#[]⟩ [] (List.replicate n nullT)
def textT (s x : ByteArray) : Tree := .mk 5 false 0 ⟨#[]⟩ [s] [.mk 3 false 0 x [] []]

theorem valid_ascii : ∀ (l : List UInt8), (∀ b ∈ l, b.toNat < 128) → Lib.validD l = true
  | [], _ => Lib.validD_nil
  | b :: t, h => by rw [Lib.validD_cons b t (h b (by simp))]; exact valid_ascii t fun x hx => h x (by simp [hx])

theorem null_facts : mayT nullT = true ∧ hgtT nullT = 1 ∧ bytT nullT = 0 ∧ lngT nullT = 0 ∧ cntT nullT = 1 ∧ nullT.total = 1 := by
  have hb : badB 0 false 0 ⟨#[]⟩ 0 0 = false := by
    simp [badB, rbareB, Lib.validD_nil]
  have hk : keyBytes [] = 0 := rfl
  simp only [nullT, mayT, mayL, hgtT, hgtL, bytT, bytL, lngT, lngL, cntT, cntL, Tree.total, Tree.totalL, List.length_nil, hk]
  refine ⟨by rw [hb, rising_none rfl]; rfl, by omega, by decide, by decide, by omega, by decide⟩
theorem bad_list (n : Nat) : badB 4 false 0 ⟨#[]⟩ 0 n = false := by
  simp [badB, rbareB, Lib.validD_nil]
theorem bad_map : badB 5 false 0 ⟨#[]⟩ 1 1 = false := by
  simp [badB, rbareB, Lib.validD_nil]
theorem bad_text {x : ByteArray} (h : Lib.validD x.data.toList = true) : badB 3 false 0 x 0 0 = false := by
  simp [badB, rbareB, h]
theorem deep_facts : ∀ n, mayT (deepT n) = true ∧ hgtT (deepT n) = n + 1 ∧ bytT (deepT n) = 0 ∧ (0 ≤ lngT (deepT n) ∧ lngT (deepT n) ≤ 1) ∧ cntT (deepT n) = n + 1 ∧ (deepT n).total = n + 1
  | 0 => by
    obtain ⟨h1, h2, h3, h4, h5, h6⟩ := null_facts
    simp only [deepT]
    refine ⟨h1, h2, h3, by omega, h5, h6⟩
  | n + 1 => by
    obtain ⟨h1, h2, h3, h4, h5, h6⟩ := deep_facts n
    have hk : keyBytes [] = 0 := rfl
    simp only [deepT, mayT, mayL, hgtT, hgtL, bytT, bytL, lngT, lngL, cntT, cntL, Tree.total, Tree.totalL, List.length_cons, List.length_nil, h1, h2, h3, h5, h6, hk]
    refine ⟨by rw [bad_list, rising_none rfl]; rfl, ?_, ?_, ?_, ?_, ?_⟩
    · omega
    · show (0 : Int) + 0 + (0 + 0) = 0; omega
    · constructor <;> omega
    · push_cast; omega
    · show 1 + (0 : Int) + ((0 : Nat) : Int) + 0 + ((n : Int) + 1 + 0) = _; push_cast; omega
theorem rep_facts : ∀ n, mayL (List.replicate n nullT) = true ∧ hgtL (List.replicate n nullT) ≤ 1 ∧ bytL (List.replicate n nullT) = 0 ∧ lngL (List.replicate n nullT) = 0 ∧ Tree.totalL (List.replicate n nullT) = n
  | 0 => by refine ⟨rfl, by decide, rfl, rfl, rfl⟩
  | n + 1 => by
    obtain ⟨h1, h2, h3, h4, h5⟩ := rep_facts n
    obtain ⟨g1, g2, g3, g4, _, g6⟩ := null_facts
    simp only [List.replicate_succ, mayL, hgtL, bytL, lngL, Tree.totalL, h1, h3, h4, h5, g1, g2, g3, g4, g6]
    refine ⟨rfl, by omega, by omega, by omega, by push_cast; omega⟩
theorem long_facts (n : Nat) : mayT (longT n) = true ∧ hgtT (longT n) ≤ 2 ∧ bytT (longT n) = 0 ∧ lngT (longT n) = n ∧ (longT n).total = n + 1 := by
  obtain ⟨h1, h2, h3, h4, h5⟩ := rep_facts n
  have hk : keyBytes [] = 0 := rfl
  simp only [longT, mayT, hgtT, bytT, lngT, Tree.total, List.length_replicate, List.length_nil, h1, h3, h4, h5, hk]
  refine ⟨by rw [bad_list, rising_none rfl]; rfl, by omega, ?_, by omega, ?_⟩
  · show (0 : Int) + 0 + 0 = 0; omega
  · show 1 + (0 : Int) + ((0 : Nat) : Int) + 0 + (n : Int) = _; push_cast; omega
theorem rising_one {s : ByteArray} (h : Lib.validD s.data.toList = true) : risingB [s] = true := by
  refine rising_true fun i hi => ?_
  obtain rfl : i = 0 := by simp at hi; exact hi
  simp [risesAt, h]
theorem text_facts {s x : ByteArray} (hs : Lib.validD s.data.toList = true) (hx : Lib.validD x.data.toList = true) : mayT (textT s x) = true ∧ hgtT (textT s x) = 2 ∧ bytT (textT s x) = s.size + x.size ∧ lngT (textT s x) = 1 ∧ (textT s x).total = 3 + s.size + x.size := by
  have hk : keyBytes [] = 0 := rfl
  have hk1 : keyBytes [s] = s.size := by simp [keyBytes]
  simp only [textT, mayT, mayL, hgtT, hgtL, bytT, bytL, lngT, lngL, Tree.total, Tree.totalL, List.length_cons, List.length_nil, hk, hk1]
  refine ⟨by rw [bad_map, bad_text hx, rising_one hs, rising_none rfl]; rfl, by omega, ?_, by omega, ?_⟩
  · show (0 : Int) + s.size + ((x.size : Int) + 0 + 0 + 0) = _; omega
  · show 1 + (0 : Int) + ((1 : Nat) : Int) + s.size + (1 + (x.size : Int) + ((0 : Nat) : Int) + 0 + 0 + 0) = _; push_cast; omega
theorem over_facts : mayT overT = true ∧ hgtT overT = 65 ∧ bytT overT = 1 ∧ overT.total ≤ 100 := by
  obtain ⟨h1, h2, h3, h4, h5, h6⟩ := deep_facts 63
  have hk1 : keyBytes [(⟨#[107]⟩ : ByteArray)] = 1 := by decide
  have hv : Lib.validD (⟨#[107]⟩ : ByteArray).data.toList = true := valid_ascii _ (by decide)
  simp only [overT, mayT, mayL, hgtT, hgtL, bytT, bytL, Tree.total, Tree.totalL, List.length_cons, List.length_nil, h1, h2, h3, h6, hk1]
  refine ⟨by rw [bad_map, rising_one hv]; rfl, by omega, by show (0 : Int) + 1 + (0 + 0) = 1; omega, by show 1 + (0 : Int) + ((1 : Nat) : Int) + 1 + (((63 : Nat) : Int) + 1 + 0) ≤ 100; omega⟩

theorem check_deep : checkN (deepT 63) = 0 := by
  obtain ⟨h1, h2, h3, h4, _⟩ := deep_facts 63
  rw [check_eq, if_pos h1, if_neg]; omega
theorem check_over : checkN overT = 3 := by
  obtain ⟨h1, h2, h3, _⟩ := over_facts
  rw [check_eq, if_pos h1, if_pos]; omega
theorem check_long {n : Nat} (h : n ≤ 65536) : checkN (longT n) = 0 := by
  obtain ⟨h1, h2, h3, h4, _⟩ := long_facts n
  rw [check_eq, if_pos h1, if_neg]; omega
theorem check_more {n : Nat} (h : 65536 < n) : checkN (longT n) = 3 := by
  obtain ⟨h1, h2, h3, h4, _⟩ := long_facts n
  rw [check_eq, if_pos h1, if_pos]; omega
theorem check_text {s x : ByteArray} (hs : Lib.validD s.data.toList = true) (hx : Lib.validD x.data.toList = true) (h : s.size + x.size ≤ 1048576) : checkN (textT s x) = 0 := by
  obtain ⟨h1, h2, h3, h4, _⟩ := text_facts hs hx
  rw [check_eq, if_pos h1, if_neg]; omega
theorem check_great {s x : ByteArray} (hs : Lib.validD s.data.toList = true) (hx : Lib.validD x.data.toList = true) (h : 1048576 < s.size + x.size) : checkN (textT s x) = 3 := by
  obtain ⟨h1, h2, h3, h4, _⟩ := text_facts hs hx
  rw [check_eq, if_pos h1, if_pos]; omega
theorem modest_to {T : Tree} (h : T.total ≤ 2000000) : Modest T := by
  have := total_bounds T 1
  exact ⟨by omega, by omega⟩
end Go.Proofs.YtbpmhgcjefpigaaGreatDoor

namespace Go.Proofs.YtbpmhgcjefpigaaGreatDoor
open Go.RowKit Go.Shelf
set_option linter.unusedVariables false

set_option maxHeartbeats 1000000 in
theorem Text_not (T : Tree) (hc : checkN T ≠ 0) (hm : Modest T) (B : Nat) (v : Value) (w : World) (hB : B ≤ w.heap.size) (hv : Lies B w v T) (hT : Tabs w) :
    Calls Tryz.prog 39 #[v] w fun e w' => e = .returned (.tuple #[.string ⟨#[]⟩, .int .i64 (checkN T)]) ∧ Below w.heap.size w w' := by
  have hv0 := hv
  obtain ⟨k, b, nn, s, ks, ts⟩ := T
  simp only [Lies] at hv
  obtain ⟨ka, kc, la, lc, rfl, -⟩ := hv
  obtain ⟨W1, hW1⟩ : ∃ W1, w.alloc (.cells #[.int .i64 k, .bool b, .int .i64 nn, .string s, .slice ka ks.length kc, .slice la ts.length lc] 26) = W1 := ⟨_, rfl⟩
  have hb1 : Below w.heap.size w W1 := hW1 ▸ (Below.refl _ _).alloc (Nat.le_refl _) _
  have hl1 := (hv0.below (hb1.mono hB)).mono (Nat.le_trans hB hb1.size)
  have HC := hidE (check_any _ _ _ hl1 (hT.below hb1) hm.1 hm.2)
  obtain ⟨cn, hcn⟩ : ∃ x, checkN (.mk k b nn s ks ts) = x := ⟨_, rfl⟩
  rw [hcn] at HC hc ⊢
  have hc' : (cn != 0) = true := by simp [hc]
  have HB1 := hidE hb1
  have HW1 := hidE hW1
  clear hW1 hb1 hl1 hT hm hv0 hcn hc
  go_enter Tryz.func39, Tryz.ntmps39
  go_wp2_with fail
  rw [HW1.out]
  refine HC.out.mono ?_
  rintro e w2 ⟨rfl, hb2⟩
  have HB2 : Hid (Below w.heap.size w w2) := below_on HB1.out hb2
  clear hb2 HC HW1
  go_wp2_with fail
  go_ret2
  exact ⟨rfl, HB2.out⟩

set_option maxRecDepth 100000 in
set_option maxHeartbeats 1000000 in
theorem Once_not (T : Tree) (hc : checkN T ≠ 0) (hm : Modest T) (B : Nat) (la : Option Addr) (w : World) (hB : B ≤ w.heap.size) (hl : ListLies B w la [T]) (hT : Tabs w) :
    Calls Tryz.prog 47 #[.slice la 1 1] w fun e w' => e = .returned (.slice none 0 0) ∧ Below w.heap.size w w' := by
  have hmm : ∀ W : World, (Instr.makeMap 87 none).run Tryz.prog W = .ok (.map (some W.heap.size)) (W.alloc (.map #[] 0)) := fun W => rfl
  obtain ⟨bl, off, rfl, hbl, hkk⟩ := hl.resolve_left (by simp)
  obtain ⟨k, b, nn, s, ks, ts⟩ := T
  obtain ⟨ka, kc, lb, lc, ⟨c0, c1, c2, c3, c4, c5⟩, hlx⟩ := hkk.cells (i := 0) rfl
  simp only [Nat.zero_mul, Nat.add_zero] at c0 c1 c2 c3 c4 c5
  obtain ⟨W1, hW1⟩ : ∃ W1, w.alloc (.map #[] 0) = W1 := ⟨_, rfl⟩
  have hb1 : Below w.heap.size w W1 := hW1 ▸ (Below.refl _ _).alloc (Nat.le_refl _) _
  have hlt : bl < w.heap.size := by omega
  replace c0 := (hb1.cell (p := ⟨bl, off, none⟩) hlt).trans c0
  replace c1 := (hb1.cell (p := ⟨bl, off + 1, none⟩) hlt).trans c1
  replace c2 := (hb1.cell (p := ⟨bl, off + 2, none⟩) hlt).trans c2
  replace c3 := (hb1.cell (p := ⟨bl, off + 3, none⟩) hlt).trans c3
  replace c4 := (hb1.cell (p := ⟨bl, off + 4, none⟩) hlt).trans c4
  replace c5 := (hb1.cell (p := ⟨bl, off + 5, none⟩) hlt).trans c5
  obtain ⟨W2, hW2⟩ : ∃ W2, W1.alloc (.cells #[.int .i64 k, .bool b, .int .i64 nn, .string s, .slice ka ks.length kc, .slice lb ts.length lc] 26) = W2 := ⟨_, rfl⟩
  have hb12 : Below W1.heap.size W1 W2 := hW2 ▸ (Below.refl _ _).alloc (Nat.le_refl _) _
  have hb2 : Below w.heap.size w W2 := below_on hb1 hb12
  have HTX := hidE (Text_not _ hc hm B _ W2 (Nat.le_trans hB hb2.size) (hlx.below (hb2.mono hB)) (hT.below hb2))
  obtain ⟨cn, hcn⟩ : ∃ x, checkN (.mk k b nn s ks ts) = x := ⟨_, rfl⟩
  rw [hcn] at HTX hc
  have hc' : (cn != 0) = true := by simp [hc]
  have HB2 := hidE hb2
  have HW1 := hidE hW1
  have HW2 := hidE hW2
  clear hW1 hW2 hb1 hb12 hb2 hkk hlx hl hT hm hcn hc
  go_enter Tryz.func47, Tryz.ntmps47
  go_wp2_with fail
  rw [HW1.out]
  clear hmm
  go_loopw [14] (fun i wr => i = .int .i64 0 ∧ wr = W1) (fun i _ => 1 - (intOf i).toNat)
  case atStart => exact ⟨rfl, rfl⟩
  case round =>
    obtain ⟨rfl, rfl⟩ := hrel
    go_wp2_with fail
    rw [HW2.out]
    refine HTX.out.mono ?_
    rintro e w3 ⟨rfl, hb3⟩
    have HB3 : Hid (Below w.heap.size w w3) := below_on HB2.out hb3
    clear hb3 c0 c1 c2 c3 c4 c5
    go_wp2_with fail
    go_ret
    exact ⟨rfl, HB3.out⟩
end Go.Proofs.YtbpmhgcjefpigaaGreatDoor

namespace Go.Proofs.YtbpmhgcjefpigaaGreatDoor
open Go.RowKit Go.Shelf Go.WideShapes
set_option linter.unusedVariables false
set_option linter.unusedSimpArgs false

def spareB : ByteArray := ⟨#[115, 112, 97, 114, 101]⟩
mutual
/-- A value in registers, what is in it in blocks that are so, each list with one place more behind it. -/
def SpareP (p : Nat → Prop) (w : World) : Value → Tree → Prop
  | v, .mk k b n s ks ts => ∃ bk kc bl lc, v = .agg #[.int .i64 k, .bool b, .int .i64 n, .string s, .slice (some ⟨bk, 0, none⟩) ks.length kc, .slice (some ⟨bl, 0, none⟩) ts.length lc] ∧
      (s.size ≤ maxLen ∧ ks.length < kc ∧ kc ≤ maxLen ∧ ts.length < lc ∧ lc ≤ maxLen) ∧ (p bk ∧ p bl) ∧
      (∀ i, i < ks.length → w.cell? ⟨bk, i, none⟩ = some (.string (ks.getD i ⟨#[]⟩)) ∧ (ks.getD i ⟨#[]⟩).size ≤ maxLen) ∧ w.cell? ⟨bk, ks.length, none⟩ = some (.string spareB) ∧
      SpareKids p w bl 0 ts ∧ w.cell? ⟨bl, ts.length * 6, none⟩ = some (.int .i64 77)
def SpareKids (p : Nat → Prop) (w : World) (bl : Nat) : Nat → List Tree → Prop
  | _, [] => True
  | off, t :: ts => (∃ v0 v1 v2 v3 v4 v5, (w.cell? ⟨bl, off, none⟩ = some v0 ∧ w.cell? ⟨bl, off + 1, none⟩ = some v1 ∧ w.cell? ⟨bl, off + 2, none⟩ = some v2 ∧ w.cell? ⟨bl, off + 3, none⟩ = some v3 ∧
      w.cell? ⟨bl, off + 4, none⟩ = some v4 ∧ w.cell? ⟨bl, off + 5, none⟩ = some v5) ∧ SpareP p w (.agg #[v0, v1, v2, v3, v4, v5]) t) ∧ SpareKids p w bl (off + 6) ts
end
/-- The blocks that are so stay. -/
def Stay (p : Nat → Prop) (w w' : World) : Prop := ∀ b i, p b → w'.cell? ⟨b, i, none⟩ = w.cell? ⟨b, i, none⟩
theorem Stay.cell {p : Nat → Prop} {w w' : World} (h : Stay p w w') {b i : Nat} (hb : p b) : w'.cell? ⟨b, i, none⟩ = w.cell? ⟨b, i, none⟩ := h b i hb
mutual
theorem SpareP.keep {p : Nat → Prop} {w w' : World} (h : Stay p w w') : ∀ {v : Value} {T : Tree}, SpareP p w v T → SpareP p w' v T
  | v, .mk k b n s ks ts, hl => by
    simp only [SpareP] at hl ⊢
    obtain ⟨bk, kc, bl, lc, hv, hb, ⟨h1, h2⟩, hk, hs, ht, hx⟩ := hl
    exact ⟨bk, kc, bl, lc, hv, hb, ⟨h1, h2⟩, fun i hi => ⟨(h.cell h1).trans (hk i hi).1, (hk i hi).2⟩, (h.cell h1).trans hs, SpareKids.keep h h2 ht, (h.cell h2).trans hx⟩
theorem SpareKids.keep {p : Nat → Prop} {w w' : World} (h : Stay p w w') {bl : Nat} (hlt : p bl) : ∀ {off : Nat} {ts : List Tree}, SpareKids p w bl off ts → SpareKids p w' bl off ts
  | off, [], hl => by simp only [SpareKids]
  | off, t :: ts, hl => by
    simp only [SpareKids] at hl ⊢
    obtain ⟨⟨v0, v1, v2, v3, v4, v5, ⟨c0, c1, c2, c3, c4, c5⟩, hv⟩, hr⟩ := hl
    exact ⟨⟨v0, v1, v2, v3, v4, v5, ⟨(h.cell hlt).trans c0, (h.cell hlt).trans c1, (h.cell hlt).trans c2, (h.cell hlt).trans c3, (h.cell hlt).trans c4, (h.cell hlt).trans c5⟩, SpareP.keep h hv⟩, SpareKids.keep h hlt hr⟩
end
mutual
theorem SpareP.mono {p q : Nat → Prop} {w : World} (h : ∀ b, p b → q b) : ∀ {v : Value} {T : Tree}, SpareP p w v T → SpareP q w v T
  | v, .mk k b n s ks ts, hl => by
    simp only [SpareP] at hl ⊢
    obtain ⟨bk, kc, bl, lc, hv, hb, ⟨h1, h2⟩, hk, hs, ht, hx⟩ := hl
    exact ⟨bk, kc, bl, lc, hv, hb, ⟨h _ h1, h _ h2⟩, hk, hs, SpareKids.mono h ht, hx⟩
theorem SpareKids.mono {p q : Nat → Prop} {w : World} (h : ∀ b, p b → q b) {bl : Nat} : ∀ {off : Nat} {ts : List Tree}, SpareKids p w bl off ts → SpareKids q w bl off ts
  | off, [], hl => by simp only [SpareKids]
  | off, t :: ts, hl => by
    simp only [SpareKids] at hl ⊢
    obtain ⟨⟨v0, v1, v2, v3, v4, v5, hc, hv⟩, hr⟩ := hl
    exact ⟨⟨v0, v1, v2, v3, v4, v5, hc, SpareP.mono h hv⟩, SpareKids.mono h hr⟩
end
/-- In blocks below B. -/
abbrev Spare (B : Nat) (w : World) (v : Value) (T : Tree) : Prop := SpareP (· < B) w v T
theorem Spare.below {B : Nat} {w w' : World} {v : Value} {T : Tree} (h : Below B w w') (hs : Spare B w v T) : Spare B w' v T := SpareP.keep (fun b i hb => h.cell (p := ⟨b, i, none⟩) hb) hs
theorem Spare.mono {B B' : Nat} {w : World} {v : Value} {T : Tree} (h : B ≤ B') (hs : Spare B w v T) : Spare B' w v T := SpareP.mono (fun b hb => Nat.lt_of_lt_of_le hb h) hs
mutual
theorem Spare.lies {B : Nat} {w : World} : ∀ {v : Value} {T : Tree}, SpareP (· < B) w v T → Lies B w v T
  | v, .mk k b n s ks ts, hl => by
    simp only [SpareP] at hl
    simp only [Lies]
    obtain ⟨bk, kc, bl, lc, hv, ⟨g1, g2, g3, g4, g5⟩, ⟨h1, h2⟩, hk, hs, ht, hx⟩ := hl
    exact ⟨_, kc, _, lc, hv, ⟨g1, by omega, g3, by omega, g5⟩, .inr ⟨bk, 0, rfl, h1, fun i hi => by rw [Nat.zero_add]; exact hk i hi⟩, .inr ⟨bl, 0, rfl, h2, SpareKids.lies ht⟩⟩
theorem SpareKids.lies {B : Nat} {w : World} {bl : Nat} : ∀ {off : Nat} {ts : List Tree}, SpareKids (· < B) w bl off ts → KidsLie B w bl off ts
  | off, [], hl => by simp only [KidsLie]
  | off, t :: ts, hl => by
    simp only [SpareKids] at hl
    simp only [KidsLie]
    obtain ⟨⟨v0, v1, v2, v3, v4, v5, hc, hv⟩, hr⟩ := hl
    exact ⟨⟨v0, v1, v2, v3, v4, v5, hc, Spare.lies hv⟩, SpareKids.lies hr⟩
end
theorem SpareKids.at {p : Nat → Prop} {w : World} {bl : Nat} : ∀ {ts : List Tree} {off : Nat}, SpareKids p w bl off ts → ∀ {i : Nat} {t : Tree}, ts[i]? = some t →
    ∃ v0 v1 v2 v3 v4 v5, (w.cell? ⟨bl, off + i * 6, none⟩ = some v0 ∧ w.cell? ⟨bl, off + i * 6 + 1, none⟩ = some v1 ∧ w.cell? ⟨bl, off + i * 6 + 2, none⟩ = some v2 ∧ w.cell? ⟨bl, off + i * 6 + 3, none⟩ = some v3 ∧
      w.cell? ⟨bl, off + i * 6 + 4, none⟩ = some v4 ∧ w.cell? ⟨bl, off + i * 6 + 5, none⟩ = some v5) ∧ SpareP p w (.agg #[v0, v1, v2, v3, v4, v5]) t
  | [], off, _, i, t, h => by simp at h
  | t :: ts, off, hl, 0, u, h => by
    simp only [SpareKids] at hl
    simp at h; subst h
    simpa using hl.1
  | t :: ts, off, hl, i + 1, u, h => by
    simp only [SpareKids] at hl
    have := SpareKids.at hl.2 (i := i) (t := u) (by simpa using h)
    rw [show off + 6 + i * 6 = off + (i + 1) * 6 from by omega] at this
    exact this
/-- Values in a row of cells, not yet laid. -/
def Row6 (p : Nat → Prop) (w : World) : List Value → List Tree → Prop
  | [], [] => True
  | c0 :: c1 :: c2 :: c3 :: c4 :: c5 :: r, t :: ts => SpareP p w (.agg #[c0, c1, c2, c3, c4, c5]) t ∧ Row6 p w r ts
  | _, _ => False
theorem Row6.snoc {p : Nat → Prop} {w : World} {c0 c1 c2 c3 c4 c5 : Value} {t : Tree} (ht : SpareP p w (.agg #[c0, c1, c2, c3, c4, c5]) t) : ∀ {xs : List Value} {ts : List Tree}, Row6 p w xs ts → Row6 p w (xs ++ [c0, c1, c2, c3, c4, c5]) (ts ++ [t])
  | [], [], _ => by simp only [List.nil_append, Row6]; exact ⟨ht, trivial⟩
  | d0 :: d1 :: d2 :: d3 :: d4 :: d5 :: r, u :: us, h => by
    simp only [Row6] at h
    simp only [List.cons_append, Row6]
    exact ⟨h.1, Row6.snoc ht h.2⟩
  | [], _ :: _, h => by simp [Row6] at h
  | _ :: _, [], h => by simp [Row6] at h
  | [_], _ :: _, h => by simp [Row6] at h
  | [_, _], _ :: _, h => by simp [Row6] at h
  | [_, _, _], _ :: _, h => by simp [Row6] at h
  | [_, _, _, _], _ :: _, h => by simp [Row6] at h
  | [_, _, _, _, _], _ :: _, h => by simp [Row6] at h
theorem Row6.keep {p q : Nat → Prop} {w w' : World} (hs : Stay p w w') (h : ∀ b, p b → q b) : ∀ {xs : List Value} {ts : List Tree}, Row6 p w xs ts → Row6 q w' xs ts
  | [], [], _ => by simp only [Row6]
  | d0 :: d1 :: d2 :: d3 :: d4 :: d5 :: r, u :: us, hr => by
    simp only [Row6] at hr ⊢
    exact ⟨(hr.1.keep hs).mono h, Row6.keep hs h hr.2⟩
  | [], _ :: _, h => by simp [Row6] at h
  | _ :: _, [], h => by simp [Row6] at h
  | [_], _ :: _, h => by simp [Row6] at h
  | [_, _], _ :: _, h => by simp [Row6] at h
  | [_, _, _], _ :: _, h => by simp [Row6] at h
  | [_, _, _, _], _ :: _, h => by simp [Row6] at h
  | [_, _, _, _, _], _ :: _, h => by simp [Row6] at h
theorem Row6.kids {p : Nat → Prop} {w : World} {g : Nat} : ∀ {xs : List Value} {ts : List Tree} {off : Nat}, Row6 p w xs ts → (∀ j u, xs[j]? = some u → w.cell? ⟨g, off + j, none⟩ = some u) → SpareKids p w g off ts
  | [], [], _, _, _ => by simp only [SpareKids]
  | d0 :: d1 :: d2 :: d3 :: d4 :: d5 :: r, u :: us, off, hr, hc => by
    simp only [Row6] at hr
    simp only [SpareKids]
    refine ⟨⟨d0, d1, d2, d3, d4, d5, ⟨hc 0 _ rfl, hc 1 _ rfl, hc 2 _ rfl, hc 3 _ rfl, hc 4 _ rfl, hc 5 _ rfl⟩, hr.1⟩, Row6.kids hr.2 fun j v hv => ?_⟩
    have := hc (j + 6) v (by simpa using hv)
    rwa [show off + (j + 6) = off + 6 + j from by omega] at this
  | [], _ :: _, _, h, _ => by simp [Row6] at h
  | _ :: _, [], _, h, _ => by simp [Row6] at h
  | [_], _ :: _, _, h, _ => by simp [Row6] at h
  | [_, _], _ :: _, _, h, _ => by simp [Row6] at h
  | [_, _, _], _ :: _, _, h, _ => by simp [Row6] at h
  | [_, _, _, _], _ :: _, _, h, _ => by simp [Row6] at h
  | [_, _, _, _, _], _ :: _, _, h, _ => by simp [Row6] at h

theorem strings_get (ks : List ByteArray) {j : Nat} {u : Value} (h : (ks.map Value.string)[j]? = some u) : j < ks.length ∧ u = .string (ks.getD j ⟨#[]⟩) := by
  rw [List.getElem?_map] at h
  obtain ⟨x, h1, rfl⟩ := Option.map_eq_some_iff.1 h
  obtain ⟨h2, h3⟩ := List.getElem?_eq_some_iff.1 h1
  exact ⟨h2, by rw [List.getD_eq_getElem?_getD, h1]; rfl⟩

/-- A row of keys is put behind a row of the call's own. -/
theorem append_keys {ty : TypeId} {base n B kc : Nat} {v : Value} {xs : List Value} {w : World} {ka : Option Addr} {ks : List ByteArray} (hown : w.ownsRow base 9 1 v n xs) (hk : KeysLie B w ka ks) (hn : n + ks.length ≤ 1000000) (hb : base ≤ w.heap.size) :
    ∃ v' w', (Builtin.append_ #[23, 23] ty #[v, .slice ka ks.length kc]).run Tryz.prog w = .ok v' w' ∧ w'.ownsRow base 9 1 v' (n + ks.length) (xs ++ ks.map .string) ∧ w.grownBy w' v.ownBlock ∧ (v'.ownBlock = v.ownBlock ∨ v'.ownBlock = some w.heap.size) := by
  obtain ⟨i0, hi, hz0, hz1, hz2⟩ := info_parts Tryz.info9
  cases ka with
  | none =>
    have hks : ks = [] := by
      rcases hk with h | ⟨_, _, h, _⟩
      · exact h
      · cases h
    subst hks
    refine ⟨v, w, ?_, by simpa using hown, ⟨rfl, rfl, rfl, Nat.le_refl _, fun _ _ _ => rfl⟩, .inl rfl⟩
    rcases hown.2 with ⟨rfl, rfl⟩ | ⟨g, cap, cur, rfl, _, _, hnc, _⟩
    · simp [Builtin.append_, run_underlying Tryz.underlying23, sizeOf, typeInfo, hi, Builtin.lenOf, Builtin.firstCells]
    · simp [Builtin.append_, run_underlying Tryz.underlying23, sizeOf, typeInfo, hi, Builtin.lenOf, Builtin.firstCells, hnc, storeCells]
  | some ad =>
    obtain ⟨v', w', hr, h2, h3, _, h5⟩ := run_append_own_at (P := Tryz.prog) w base 23 ty 9 i0 (.string ⟨#[]⟩) 1 16 Tryz.underlying23 hi hz0 hz1 hz2 rfl (by decide) v n xs hown ad ks.length kc (ks.map .string) (by simp) (fun j u hu => by
        obtain ⟨hj, rfl⟩ := strings_get ks hu
        rcases hk with h | ⟨b, off, h, _, hc⟩
        · subst h; simp at hj
        · obtain rfl : ad = ⟨b, off, none⟩ := Option.some.inj h
          rw [add_plain]; exact (hc j hj).1) (fun u hu => by
        obtain ⟨x, _, rfl⟩ := List.mem_map.1 hu; rfl) (by unfold maxLen; omega) (by omega) hb
    exact ⟨v', w', hr, h2, h3, h5⟩
end Go.Proofs.YtbpmhgcjefpigaaGreatDoor

