/- Names and numerals, told by the program and by the document. Counts as a text. A line of words, written to a builder. -/
import Derived.Test.YthfilnflgahcjaaGreatDoorJoin12
import Derived.Lib.ItoaLen
import Derived.Lib.Join
namespace Go.Proofs.YthfilnflgahcjaaGreatDoor
open Go.RowKit Go.Shelf
set_option linter.unusedVariables false
set_option linter.unusedSimpArgs false
/-- A name as it is told: nothing, if it is no UTF-8. -/
def nameT (s : ByteArray) : ByteArray := if Lib.validD s.data.toList = true then vnameB s else ⟨#[]⟩
theorem nameT_len (s : ByteArray) : (nameT s).size ≤ 2 * s.size + 2 := by
  unfold nameT
  split
  · exact vname_len s
  · exact Nat.zero_le _
theorem nam_any (s : ByteArray) (hs : s.size ≤ 100000) (w : World) (hE : Env2 w) : Calls Tryz.prog 73 #[.string s] w fun e w' => e = .returned (.string (nameT s)) ∧ Below w.heap.size w w' := by
  cases hv : Lib.validD s.data.toList with
  | true =>
    have hn : nameT s = vnameB s := by unfold nameT; rw [if_pos hv]
    rw [hn]
    exact vname_any s (by omega) hv w hE
  | false =>
    have hn : nameT s = ⟨#[]⟩ := by unfold nameT; rw [if_neg (by rw [hv]; decide)]
    rw [hn]
    have HV := hidE (valid_any s (by omega) w hE.e)
    rw [hv] at HV
    clear hv hn hE
    go_enter Tryz.func73, Tryz.ntmps73
    go_wp2_with fail
    refine HV.out.mono ?_
    rintro e w1 ⟨rfl, hb⟩
    have HB := hidE hb
    clear hb HV
    go_wp2_with fail
    go_ret
    exact ⟨rfl, HB.out⟩
theorem rnamed_any (s : ByteArray) (hs : s.size ≤ 100000) (w : World) : Calls Tryz.prog 77 #[.string s] w fun e w' => e = .returned (.string (nameT s)) ∧ Below w.heap.size w w' := by
  have HU : Hid (Calls Tryz.prog 119 #[.string s] w fun e w' => e = .returned (.bool (Lib.validD s.data.toList)) ∧ Below w.heap.size w w') := (utf_any s w (by omega)).mono fun e w' h => by first | exact h | exact ⟨h.1, by rw [h.2]; exact Below.refl _ _⟩
  obtain ⟨n, hn⟩ : ∃ n, nameT s = n := ⟨_, rfl⟩
  have HN := hidE hn
  rw [hn]
  unfold nameT at hn
  cases hv : Lib.validD s.data.toList with
  | true =>
    rw [if_pos hv] at hn
    rw [hv] at HU
    have HR : Hid (∀ W, Calls Tryz.prog 120 #[.string s] W fun e w' => e = .returned (.string n) ∧ Below W.heap.size W w') := fun W => by rw [← hn]; exact rnam_any s hs W
    clear hv hn
    go_enter Tryz.func77, Tryz.ntmps77
    go_wp2_with fail
    refine HU.out.mono ?_
    rintro e w1 ⟨rfl, hb⟩
    have HB := hidE hb
    clear hb HU
    go_wp2_with fail
    refine (HR.out _).mono ?_
    rintro e w2 ⟨rfl, hb2⟩
    have HB2 := hidE (Below.on HB.out hb2)
    clear hb2
    go_wp2_with fail
    go_ret
    exact ⟨rfl, HB2.out⟩
  | false =>
    rw [if_neg (by rw [hv]; decide)] at hn
    subst hn
    rw [hv] at HU
    clear hv
    go_enter Tryz.func77, Tryz.ntmps77
    go_wp2_with fail
    refine HU.out.mono ?_
    rintro e w1 ⟨rfl, hb⟩
    have HB := hidE hb
    clear hb HU
    go_wp2_with fail
    go_ret
    exact ⟨rfl, HB.out⟩
end Go.Proofs.YthfilnflgahcjaaGreatDoor

namespace Go.Proofs.YthfilnflgahcjaaGreatDoor
open Go.RowKit Go.Shelf
set_option linter.unusedVariables false
set_option linter.unusedSimpArgs false
theorem numT_len {n : Int} (h : W64 n) : (numT n).size ≤ 21 := by
  have := Lib.itoa_length_le n (w64_range h).1 (w64_range h).2
  have e : (numT n).size = (Lib.itoa n).length := by simp [numT, ByteArray.size]
  omega
/-- A line of words. -/
def lineB (ws : List ByteArray) : List UInt8 := Lib.join (ws.map fun x => x.data.toList) [32] ++ [10]
def wayT (o : Bool) : ByteArray := if o = true then ⟨#[111, 117, 116]⟩ else ⟨#[105, 110]⟩
def labLine (x : ByteArray × Int) : List UInt8 := lineB [⟨#[108, 97, 98, 101, 108]⟩, nameT x.1, numT x.2]
def typLine (x : ByteArray × Int) : List UInt8 := lineB [⟨#[116, 121, 112, 101]⟩, nameT x.1, numT x.2]
def endLine (x : EndR) : List UInt8 := lineB [⟨#[101, 110, 100]⟩, nameT x.1, nameT x.2.1, wayT x.2.2.1, numT x.2.2.2]
def keyLine (x : KeyR) : List UInt8 := lineB [⟨#[107, 101, 121]⟩, nameT x.1, nameT x.2.1, numT x.2.2.1, numT x.2.2.2]
def headL (s : StatP) : List UInt8 := lineB [⟨#[110, 111, 100, 101, 115]⟩, numT s.nodes] ++ lineB [⟨#[114, 101, 108, 115]⟩, numT s.rels]
def txt1 (s : StatP) : List UInt8 := headL s ++ s.labels.flatMap labLine
def txt2 (s : StatP) : List UInt8 := txt1 s ++ s.types.flatMap typLine
def txt3 (s : StatP) : List UInt8 := txt2 s ++ s.ends.flatMap endLine
def textL (s : StatP) : List UInt8 := txt3 s ++ s.keys.flatMap keyLine
/-- Counts that are numbers, with short names. -/
structure StatW (s : StatP) : Prop where
  n : W64 s.nodes
  r : W64 s.rels
  l : ∀ x ∈ s.labels, x.1.size ≤ 3000 ∧ W64 x.2
  t : ∀ x ∈ s.types, x.1.size ≤ 3000 ∧ W64 x.2
  e : ∀ x ∈ s.ends, x.1.size ≤ 3000 ∧ x.2.1.size ≤ 3000 ∧ W64 x.2.2.2
  k : ∀ x ∈ s.keys, x.1.size ≤ 3000 ∧ x.2.1.size ≤ 3000 ∧ W64 x.2.2.1 ∧ W64 x.2.2.2
theorem size_list (a : ByteArray) : a.data.toList.length = a.size := rfl
theorem line2_len (a b : ByteArray) : (lineB [a, b]).length = a.size + b.size + 2 := by
  simp [lineB, Lib.join, List.intercalate, size_list]; omega
theorem line3_len (a b c : ByteArray) : (lineB [a, b, c]).length = a.size + b.size + c.size + 3 := by
  simp [lineB, Lib.join, List.intercalate, size_list]; omega
theorem line5_len (a b c d e : ByteArray) : (lineB [a, b, c, d, e]).length = a.size + b.size + c.size + d.size + e.size + 5 := by
  simp [lineB, Lib.join, List.intercalate, size_list]; omega
theorem wayT_len (o : Bool) : (wayT o).size ≤ 3 := by cases o <;> decide
theorem labLine_len {x : ByteArray × Int} (h : x.1.size ≤ 3000 ∧ W64 x.2) : (labLine x).length ≤ 13000 := by
  unfold labLine
  rw [line3_len]
  have h1 := nameT_len x.1
  have h2 := numT_len h.2
  have h3 : (⟨#[108, 97, 98, 101, 108]⟩ : ByteArray).size = 5 := rfl
  have := h.1
  omega
theorem typLine_len {x : ByteArray × Int} (h : x.1.size ≤ 3000 ∧ W64 x.2) : (typLine x).length ≤ 13000 := by
  unfold typLine
  rw [line3_len]
  have h1 := nameT_len x.1
  have h2 := numT_len h.2
  have h3 : (⟨#[116, 121, 112, 101]⟩ : ByteArray).size = 4 := rfl
  have := h.1
  omega
theorem endLine_len {x : EndR} (h : x.1.size ≤ 3000 ∧ x.2.1.size ≤ 3000 ∧ W64 x.2.2.2) : (endLine x).length ≤ 13000 := by
  unfold endLine
  rw [line5_len]
  have h1 := nameT_len x.1
  have h2 := numT_len h.2.2
  have h4 := nameT_len x.2.1
  have h5 := wayT_len x.2.2.1
  have h3 : (⟨#[101, 110, 100]⟩ : ByteArray).size = 3 := rfl
  have := h.1
  have := h.2.1
  omega
theorem keyLine_len {x : KeyR} (h : x.1.size ≤ 3000 ∧ x.2.1.size ≤ 3000 ∧ W64 x.2.2.1 ∧ W64 x.2.2.2) : (keyLine x).length ≤ 13000 := by
  unfold keyLine
  rw [line5_len]
  have h1 := nameT_len x.1
  have h2 := numT_len h.2.2.1
  have h4 := nameT_len x.2.1
  have h5 := numT_len h.2.2.2
  have h3 : (⟨#[107, 101, 121]⟩ : ByteArray).size = 3 := rfl
  have := h.1
  have := h.2.1
  omega
theorem flat_step {α : Type} {f : α → List UInt8} {xs : List α} {j : Nat} {x : α} (h : xs[j]? = some x) : (xs.take (j + 1)).flatMap f = (xs.take j).flatMap f ++ f x := by
  rw [List.take_add_one, h]; simp
theorem flat_len {α : Type} {f : α → List UInt8} : ∀ (xs : List α), (∀ x ∈ xs, (f x).length ≤ 13000) → (xs.flatMap f).length ≤ 13000 * xs.length
  | [], _ => by simp
  | x :: xs, h => by
    rw [List.flatMap_cons, List.length_append, List.length_cons]
    have := h x List.mem_cons_self
    have := flat_len xs fun y hy => h y (List.mem_cons_of_mem _ hy)
    omega
theorem flat_take_len {α : Type} {f : α → List UInt8} {xs : List α} (j : Nat) (h : ∀ x ∈ xs, (f x).length ≤ 13000) : ((xs.take j).flatMap f).length ≤ 13000 * xs.length := by
  have := flat_len (xs.take j) fun x hx => h x (List.mem_of_mem_take hx)
  have h2 : (xs.take j).length ≤ xs.length := by rw [List.length_take]; omega
  omega
theorem head_len {s : StatP} (h : StatW s) : (headL s).length ≤ 100 := by
  unfold headL
  rw [List.length_append, line2_len, line2_len]
  have h1 := numT_len h.n
  have h2 := numT_len h.r
  have h3 : (⟨#[110, 111, 100, 101, 115]⟩ : ByteArray).size = 5 := rfl
  have h4 : (⟨#[114, 101, 108, 115]⟩ : ByteArray).size = 4 := rfl
  omega
end Go.Proofs.YthfilnflgahcjaaGreatDoor

namespace Go.Proofs.YthfilnflgahcjaaGreatDoor
open Go.RowKit Go.Shelf
set_option linter.unusedVariables false
set_option linter.unusedSimpArgs false
theorem owns_keep {w w' : World} {B e size n : Nat} {v : Value} {xs : List Value} (h : w.ownsRow B e size v n xs) (hb : Below w.heap.size w w') : w'.ownsRow B e size v n xs := by
  obtain ⟨g1, ⟨g2, g3⟩ | ⟨g, cap, cur, g2, g3, g4, g5⟩⟩ := h
  · exact ⟨g1, .inl ⟨g2, g3⟩⟩
  · exact ⟨g1, .inr ⟨g, cap, cur, g2, g3, (hb.block g (Array.getElem?_eq_some_iff.1 g4).1).trans g4, g5⟩⟩
theorem BldI.keep {B b : Nat} {l : List UInt8} {w w' : World} (h : BldI B b l w) (hb : Below w.heap.size w w') : BldI B b l w' := by
  rcases h with h | h
  · left
    have hlt := h.lt
    obtain ⟨hB, v, hbk, hown, hne⟩ := h
    exact ⟨hB, v, (hb.block b hlt).trans hbk, owns_keep hown hb, hne⟩
  · right
    have hlt := h.lt
    obtain ⟨hB, v, hbk, hown, hne⟩ := h
    exact ⟨hB, v, (hb.block b hlt).trans hbk, owns_keep hown hb, hne⟩
theorem BldI.lt {B b : Nat} {l : List UInt8} {w : World} (h : BldI B b l w) : b < w.heap.size := by
  rcases h with h | h <;> exact Lib.BuilderAt.lt h
theorem bld_new (w : World) : BldI w.heap.size w.heap.size [] (w.alloc (.cells #[.pointer none, .slice none 0 0] 118)) :=
  .inl ⟨Nat.le_refl _, .slice none 0 0, World.alloc_heap_new _ _, World.ownsRow_nil _ _ _ _, by simp [Value.ownBlock]⟩
set_option maxRecDepth 100000 in
set_option maxHeartbeats 4000000 in
theorem line_any (B b bk c : Nat) (l : List UInt8) (ws : List ByteArray) (w : World) (hBw : B ≤ w.heap.size) (h : BldI B b l w) (hbk : bk < w.heap.size) (hcells : ∀ (j : Nat) x, ws[j]? = some x → w.cell? ⟨bk, 0 + j, none⟩ = some (.string x)) (hN : ws.length ≤ 5) (hcap : ws.length ≤ c) (hl : l.length ≤ 100000000) (hs : (lineB ws).length ≤ 100000) :
    Calls Tryz.prog 69 #[.slice (some ⟨bk, 0, none⟩) ws.length c, .pointer (some ⟨b, 0, none⟩)] w fun e w' => e = .returned (.tuple #[]) ∧ BldI B b (l ++ lineB ws) w' ∧ Below B w w' := by
  have hjl : (lineB ws).length = (Lib.join (ws.map (·.data.toList)) (⟨#[32]⟩ : ByteArray).data.toList).length + 1 := by simp [lineB]
  have HJ := hidE (Tryz.strings_Join bk 0 c ws ⟨#[32]⟩ w hcells hbk (by omega) hcap (by omega))
  obtain ⟨J, hJ⟩ : ∃ J : ByteArray, (⟨(Lib.join (ws.map (·.data.toList)) (⟨#[32]⟩ : ByteArray).data.toList).toArray⟩ : ByteArray) = J := ⟨_, rfl⟩
  have HJJ : Hid (lineB ws = (J ++ ⟨#[10]⟩).data.toList) := by
    show _ = _
    rw [← hJ]
    simp [lineB]
  have hzJ : J.size ≤ 100000 := by
    have : J.size = (Lib.join (ws.map (·.data.toList)) (⟨#[32]⟩ : ByteArray).data.toList).length := by rw [← hJ]; simp [ByteArray.size]
    omega
  rw [hJ] at HJ
  have HH := hidE h
  have z1 : ¬ 9223372036854775807 < J.size + 1 := by omega
  clear hcells hJ hjl hs
  generalize ws.length = n at *
  generalize lineB ws = LL at *
  have hz2 : (J ++ ⟨#[10]⟩ : ByteArray).size ≤ 100001 := by rw [ByteArray.size_append]; show J.size + 1 ≤ _; omega
  go_enter Tryz.func69, Tryz.ntmps69
  go_wp2_with fail
  refine HJ.out.mono ?_
  rintro e w1 ⟨rfl, hb1⟩
  have HW := hidE (write_any B b l (J ++ ⟨#[10]⟩) w1 (HH.out.keep hb1) (by omega) (Nat.le_trans hBw hb1.size))
  have HB1 := hidE (hb1.mono hBw)
  clear hb1 HJ h HH hz2
  go_wp2_with fail
  refine HW.out.mono ?_
  rintro e w2 ⟨rfl, h2, hb2⟩
  have H2 := hidE h2
  have HB2 := hidE (HB1.out.trans hb2)
  clear h2 hb2 HW
  go_wp2_with fail
  go_end0
  exact ⟨rfl, by rw [HJJ.out]; exact H2.out, HB2.out⟩
end Go.Proofs.YthfilnflgahcjaaGreatDoor

