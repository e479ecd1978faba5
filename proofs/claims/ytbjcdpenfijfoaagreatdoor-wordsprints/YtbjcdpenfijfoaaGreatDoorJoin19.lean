/- What the rows' list gives (the tables lie in the world), and a world for the witness. A world for the witness. Words that are handed in: where they lie. -/
import Derived.Test.YtbjcdpenfijfoaaGreatDoorJoin7
import Derived.Test.YtbjcdpenfijfoaaGreatDoorCards
import Derived.Test.YtbjcdpenfijfoaaGreatDoorTie
import Derived.Lib.LaidIn
import Derived.Lib.LaidU8T
import Derived.Lib.LaidTab
import Derived.Lib.AppendIntMem
import Derived.Deep.DeepHandedRow
import Derived.Deep.DeepWitnessRowRef
import Derived.PinnedBridge
import Derived.ProofKit
import Derived.OpenShut
import Derived.SizedLaws
import Derived.Shelf.Vars
import Derived.Test.YtbjcdpenfijfoaaGreatDoorJoin15
import Derived.SliceStrings
import Derived.Deep.Slices
namespace Go.Proofs.YtbjcdpenfijfoaaGreatDoor
open Go.ChangeShapes Go.WideShapes Go.ChangeAt Go.RowKit Go.Shelf
set_option linter.unusedVariables false

theorem own : ownKnob Tryz.prog.godebug = none := by kernel_rfl
theorem laidOut : laidOutB Tryz.prog = true := by kernel_rfl
theorem accept_eq : (Rows.laid_unicode_utf8_acceptRanges : DataW Unit) = Lib.acceptData := by kernel_rfl
theorem first_eq : Rows.laid_unicode_utf8_first = Lib.firstData := Pinned.utf8First_eq
theorem pow10_eq : (Rows.laid_internal_strconv_uint64pow10 : DataW Unit) = Lib.tabData .u64 Lib.pow10Tab := by kernel_rfl

abbrev laidList : List (String × DataW Unit) := [("math/bits.deBruijn32tab", Rows.laid_math_bits_deBruijn32tab), ("math/bits.deBruijn64tab", Rows.laid_math_bits_deBruijn64tab), ("internal/strconv.uint64pow10", Rows.laid_internal_strconv_uint64pow10), ("unicode/utf8.acceptRanges", Rows.laid_unicode_utf8_acceptRanges), ("strconv.ErrRange", Rows.laid_strconv_ErrRange), ("strconv.ErrSyntax", Rows.laid_strconv_ErrSyntax), ("unicode/utf8.first", Rows.laid_unicode_utf8_first)]

theorem tabs_of_laid {W : World} (h : laidMet Tryz.prog laidList W) : Lib.Utf8Tabs (Tryz.laysValid_ren.g 3) (Tryz.laysValid_ren.g 4) W :=
  utf8Tabs_of_readsT (U8Types.of196 Tryz.laysValid) ⟨by kernel_rfl, by kernel_rfl, by kernel_rfl, by kernel_rfl, by kernel_rfl, by kernel_rfl, by kernel_rfl⟩
    (first_eq ▸ Lib.laidMet.reads h (.tail _ (.tail _ (.tail _ (.tail _ (.tail _ (.tail _ (.head _)))))))) (accept_eq ▸ Lib.laidMet.reads h (.tail _ (.tail _ (.tail _ (.head _)))))
theorem gSyn : Tryz.prog.globalNamed "strconv.ErrSyntax" = some 4 := by kernel_rfl
theorem gRng : Tryz.prog.globalNamed "strconv.ErrRange" = some 5 := by kernel_rfl

theorem pow_of_laid {W : World} (h : laidMet Tryz.prog laidList W) : Lib.TabIs Tryz.prog W "internal/strconv.uint64pow10" .u64 Lib.pow10Tab := by
  obtain ⟨g, t, cs, fuel, p, h1, h2, h3, h4⟩ : Lib.VarReads Tryz.prog W "internal/strconv.uint64pow10" (Lib.tabData .u64 Lib.pow10Tab) := pow10_eq ▸ Lib.laidMet.reads h (.tail _ (.tail _ (.head _)))
  obtain rfl := Option.some.inj (gPow.symm.trans h1)
  obtain rfl := Option.some.inj ((show (Tryz.prog.globals[3]?).map (·.type) = some 130 by kernel_rfl).symm.trans h2)
  unfold Lib.TabIs
  rw [h3, ← Lib.cells_of_tab Tryz.underlying130 Tryz.underlying31 (by kernel_rfl) (by kernel_rfl) h4]
theorem err_reads {W : World} {n : String} {g : Nat} {d : DataW Unit} {nm : String} {ms : Array (String × TypeId)} {t : TypeId} (hg : Tryz.prog.globalNamed n = some g) (ht : (Tryz.prog.globals[g]?).map (·.type) = some t) (hu : Tryz.prog.underlying t = some (.interface ms))
    (h : Lib.VarReads Tryz.prog W n (.iface nm d)) : ErrAt W g := by
  obtain ⟨g', t', cs, fuel, p, h1, h2, h3, h4⟩ := h
  obtain rfl := Option.some.inj (hg.symm.trans h1)
  obtain rfl := Option.some.inj (ht.symm.trans h2)
  unfold World.var? at h3
  rw [hg, Option.bind_some] at h3
  cases fuel with
  | zero => simp [DataW.trod] at h4
  | succ m =>
    rw [DataW.trod_step] at h4
    unfold DataW.trodStep at h4
    rw [hu] at h4
    cases hh : W.heap[g]? with
    | none => rw [hh] at h3; cases h3
    | some o =>
      rw [hh] at h3
      cases o with
      | cells cc ty fr =>
        simp only [Option.some.injEq] at h3
        subst h3
        have hx : ∃ te pe, cc.toList = [.iface te pe] := by
          revert h4
          generalize cc.toList = l
          intro h4
          match l, h4 with
          | [], h4 => simp at h4
          | [v], h4 =>
            cases v <;> simp at h4
            exact ⟨_, _, rfl⟩
          | _ :: _ :: _, h4 => simp at h4
        obtain ⟨te, pe, hx⟩ := hx
        refine ⟨.iface te pe, ?_, .inr ⟨te, pe, rfl⟩⟩
        have e : cc = #[.iface te pe] := by cases cc; simpa using hx
        simp [World.cell?, hh, e]
      | _ => simp at h3
theorem ml_of_shaped {W : World} (h : W.ShapedOpen Tryz.prog) : ∃ m, W.cell? ⟨2, 0, none⟩ = some (.int .i64 m) :=
  cell_of_shapedOpen_int (P := Tryz.prog) (g := 2) (t := 3) (zero := #[.int .i64 0]) h (of_decide_eq_true (by kernel_rfl)) (by kernel_rfl) rfl (by kernel_rfl) (by kernel_rfl) Tryz.underlying3
theorem room_of_laid {W : World} (h : laidMet Tryz.prog laidList W) : 8 ≤ W.heap.size := by
  obtain ⟨g, t, cs, fuel, p, h1, h2, h3, h4⟩ : Lib.VarReads Tryz.prog W "math/bits.deBruijn64tab" Rows.laid_math_bits_deBruijn64tab := Lib.laidMet.reads h (.tail _ (.head _))
  unfold World.var? at h3
  rw [show Tryz.prog.globalNamed "math/bits.deBruijn64tab" = some 7 by kernel_rfl, Option.bind_some] at h3
  cases hh : W.heap[7]? with
  | none => rw [hh] at h3; cases h3
  | some o => exact (Array.getElem?_eq_some_iff.1 hh).1
/-- What the library's variables hold. -/
theorem env_of {W : World} (h : laidMet Tryz.prog laidList W) (hs : W.ShapedOpen Tryz.prog) : Env W :=
  ⟨room_of_laid h, tabs_of_laid h, ml_of_shaped hs, pow_of_laid h, err_reads gSyn (by kernel_rfl) Tryz.underlying104 (Lib.laidMet.reads h (.tail _ (.tail _ (.tail _ (.tail _ (.tail _ (.head _))))))), err_reads gRng (by kernel_rfl) Tryz.underlying104 (Lib.laidMet.reads h (.tail _ (.tail _ (.tail _ (.tail _ (.head _))))))⟩
end Go.Proofs.YtbjcdpenfijfoaaGreatDoor

namespace Go.Proofs.YtbjcdpenfijfoaaGreatDoor
open Go.ChangeShapes Go.WideShapes Go.ChangeAt Go.RowKit Go.Shelf
set_option linter.unusedVariables false
def cellsOfData : DataW Unit → Array Value
  | .agg l => (l.map fun d => match d with | .lit (.int k z) => Value.int k z | _ => undef).toArray
  | _ => #[]
/-- A world for the witness: the settled one, the variables holding what their initialisers lay. -/
noncomputable def laidWorld (os : Os) : World :=
  let w0 := World.holding Tryz.prog os ⟨#[.cells #[.string ⟨#[105, 110, 118, 97, 108, 105, 100, 32, 115, 121, 110, 116, 97, 120]⟩] 155 (0, 0), .cells #[.string ⟨#[118, 97, 108, 117, 101, 32, 111, 117, 116, 32, 111, 102, 32, 114, 97, 110, 103, 101]⟩] 155 (0, 0)], #[], []⟩
  let put (h : Array Obj) (g : Nat) (cs : Array Value) : Array Obj := h.modify g fun
    | .cells _ t frozen => .cells cs t frozen
    | o => o
  let S := w0.heap.size
  let h1 := put w0.heap 0 (Lib.firstTab.map fun z => Value.int .u8 z).toArray
  let h2 := put h1 1 ((List.range 16).flatMap fun i => [Value.int .u8 (Lib.accLo i), Value.int .u8 (Lib.accHi i)]).toArray
  let h3 := put h2 3 (Lib.pow10Tab.map fun z => Value.int .u64 z).toArray
  let h4 := put h3 6 (cellsOfData Rows.laid_math_bits_deBruijn32tab)
  let h5 := put h4 7 (cellsOfData Rows.laid_math_bits_deBruijn64tab)
  let h6 := put h5 4 #[.iface 153 (.pointer (some ⟨S - 2, 0, none⟩))]
  let h7 := put h6 5 #[.iface 153 (.pointer (some ⟨S - 1, 0, none⟩))]
  { w0 with heap := h7 }
theorem laid_met (os : Os) (args : Array Value) : laidMet Tryz.prog laidList ((laidWorld os).forCall (fun _ _ => 0) ⟨#[], args, []⟩).memory :=
  (LaidIn.of_run (l := laidList) (List.range 60) 8 (by kernel_rfl) (by kernel_rfl) (by kernel_rfl) (by kernel_rfl)).met
end Go.Proofs.YtbjcdpenfijfoaaGreatDoor

namespace Go.Proofs.YtbjcdpenfijfoaaGreatDoor
open Go.ChangeShapes Go.WideShapes Go.ChangeAt Go.RowKit Go.Shelf Go.Deep
set_option linter.unusedVariables false
set_option linter.unusedSimpArgs false
theorem cells33 : Tryz.prog.cellsOf 33 = 4 := by kernel_rfl
theorem cells30 : Tryz.prog.cellsOf 30 = 1 := by kernel_rfl
theorem cells31 : Tryz.prog.cellsOf 31 = 1 := by kernel_rfl
theorem cells9' : Tryz.prog.cellsOf 9 = 1 := by kernel_rfl
theorem cells3 : Tryz.prog.cellsOf 3 = 1 := by kernel_rfl
theorem cells4_of : ∀ (l : List W4) (P : Nat → Value → Prop), (∀ i x, l[i]? = some x → P (i * 4) (.int .i64 x.k) ∧ P (i * 4 + 1) (.int .i64 x.i) ∧ P (i * 4 + 2) (.string x.t) ∧ P (i * 4 + 3) (.int .u64 x.n)) → ∀ j u, (cells4 l)[j]? = some u → P j u
  | [], P, h, j, u, hj => by simp [cells4] at hj
  | x :: l, P, h, j, u, hj => by
    have e : cells4 (x :: l) = x.cells ++ cells4 l := rfl
    rw [e] at hj
    obtain ⟨h0, h1, h2, h3⟩ := h 0 x rfl
    match j, hj with
    | 0, hj => simp [W4.cells] at hj; subst hj; exact h0
    | 1, hj => simp [W4.cells] at hj; subst hj; exact h1
    | 2, hj => simp [W4.cells] at hj; subst hj; exact h2
    | 3, hj => simp [W4.cells] at hj; subst hj; exact h3
    | j + 4, hj =>
      rw [List.getElem?_append_right (by simp [W4.cells])] at hj
      have hs : x.cells.length = 4 := rfl
      rw [hs, Nat.add_sub_cancel] at hj
      exact cells4_of l (fun n v => P (n + 4) v) (fun i y hy => by
        have := h (i + 1) y (by simpa using hy)
        have e1 : (i + 1) * 4 = i * 4 + 4 := by omega
        rw [e1] at this
        obtain ⟨g0, g1, g2, g3⟩ := this
        exact ⟨g0, by rwa [Nat.add_right_comm] at g1, by rwa [Nat.add_right_comm] at g2, by rwa [Nat.add_right_comm] at g3⟩) j u hj
section
variable {H : Type} {enc : TypeId × Value → H} {W : World}
set_option maxRecDepth 100000 in
theorem open_word {fuel : Nat} {cs : List Value} {y : DataW H × List MemPlace} (h : DataW.trod enc Tryz.prog W 0 (fun _ => true) true fuel 33 cs = some y) : ∃ x : W4, cs = x.cells ∧ 0 ≤ x.n ∧ x.n < 18446744073709551616 := by
  obtain ⟨xs, n, hfu, hx, hl, hlen, hf⟩ := DataW.trod_struct Tryz.underlying33 h
  rw [cells33] at hl
  match cs, hl with
  | [v0, v1, v2, v3], _ =>
    match xs, hlen with
    | [y0, y1, y2, y3], _ =>
      have f0 : DataW.trod enc Tryz.prog W 0 (fun _ => true) true n 30 [v0] = some y0 := by simpa [cells30] using hf 0 { name := "Kind", type := 30, offset := 0, embedded := false, tag := "", pkgPath := "", byteOffset := 0 } rfl
      have f1 : DataW.trod enc Tryz.prog W 0 (fun _ => true) true n 3 [v1] = some y1 := by simpa [cells3] using hf 1 { name := "At", type := 3, offset := 1, embedded := false, tag := "", pkgPath := "", byteOffset := 8 } rfl
      have f2 : DataW.trod enc Tryz.prog W 0 (fun _ => true) true n 9 [v2] = some y2 := by simpa [cells9'] using hf 2 { name := "Text", type := 9, offset := 2, embedded := false, tag := "", pkgPath := "", byteOffset := 16 } rfl
      have f3 : DataW.trod enc Tryz.prog W 0 (fun _ => true) true n 31 [v3] = some y3 := by simpa [cells31] using hf 3 { name := "Number", type := 31, offset := 3, embedded := false, tag := "", pkgPath := "", byteOffset := 32 } rfl
      obtain ⟨k, e0, _, _⟩ := DataW.trod_int Tryz.underlying30 f0
      obtain ⟨i, e1, _, _⟩ := DataW.trod_int Tryz.underlying3 f1
      obtain ⟨s, e2, _, _⟩ := DataW.trod_string Tryz.underlying9 f2
      obtain ⟨m, e3, _, wf⟩ := DataW.trod_int Tryz.underlying31 f3
      simp only [List.cons.injEq, and_true] at e0 e1 e2 e3
      subst e0 e1 e2 e3
      refine ⟨⟨k, i, s, m⟩, rfl, ?_⟩
      have hm : IntKind.u64.min ≤ m ∧ m ≤ IntKind.u64.max := by simpa [Lit.wf] using wf
      rw [show IntKind.u64.min = 0 by decide, show IntKind.u64.max = 18446744073709551615 by decide] at hm
      show 0 ≤ m ∧ m < _
      omega
theorem open_words {fuel : Nat} {cs : List Value} {d : DataW H} {p : List MemPlace} (h : DataW.trod enc Tryz.prog W 0 (fun _ => true) true fuel 23 cs = some (d, p)) :
    ∃ v xs, cs = [v] ∧ Lie4 W.heap.size W v xs ∧ ∀ x ∈ xs, 0 ≤ x.n ∧ x.n < 18446744073709551616 := by
  rcases DataW.trod_slice Tryz.underlying23 h with ⟨rfl, _⟩ | ⟨a, len, cap, elems, rest, n, hfu, rfl, hx, _, hl, hm, hlen, hel, _, _⟩
  · exact ⟨_, [], rfl, ⟨none, 0, rfl, Nat.le_refl _, by decide, .inl rfl⟩, fun x hx => by simp at hx⟩
  · have hc : ∀ i, i < len → ∃ x : W4, (W.cell? ((a.add (i * 4)).add 0) = some (.int .i64 x.k) ∧ W.cell? ((a.add (i * 4)).add 1) = some (.int .i64 x.i) ∧ W.cell? ((a.add (i * 4)).add 2) = some (.string x.t) ∧ W.cell? ((a.add (i * 4)).add 3) = some (.int .u64 x.n)) ∧ 0 ≤ x.n ∧ x.n < 18446744073709551616 := by
      intro i hi
      have key := hel i hi
      rw [cells33, List.getElem?_eq_getElem (by omega)] at key
      obtain ⟨cs', h1, h2⟩ := Option.bind_eq_some_iff.1 key
      obtain ⟨_, hl4, hcell⟩ := World.cells?_some h1
      obtain ⟨x, rfl, hn⟩ := open_word h2
      exact ⟨x, ⟨hcell 0 (by simp [W4.cells]), hcell 1 (by simp [W4.cells]), hcell 2 (by simp [W4.cells]), hcell 3 (by simp [W4.cells])⟩, hn⟩
    have : Inhabited W4 := ⟨⟨0, 0, ⟨#[]⟩, 0⟩⟩
    obtain ⟨f, hf⟩ := choose_lt hc
    have hlt : ((List.range len).map f).length = len := by simp
    refine ⟨_, (List.range len).map f, rfl, ⟨some a, cap, by rw [hlt], by omega, ?_, ?_⟩, ?_⟩
    · unfold maxLen at hm; omega
    · by_cases h0 : len = 0
      · left; subst h0; rfl
      · right
        obtain ⟨bl, off, spot⟩ := a
        obtain ⟨c0, _⟩ := (hf 0 (by omega)).1
        have hspot : spot = none := by simpa [Addr.add] using World.cell?_spot c0
        subst hspot
        refine ⟨bl, off, rfl, lt_of_cell c0, cells4_of _ (fun j u => W.cell? ⟨bl, off + j, none⟩ = some u) ?_⟩
        intro i x hix
        rw [List.getElem?_map] at hix
        obtain ⟨j, hj, rfl⟩ := Option.map_eq_some_iff.1 hix
        rw [List.getElem?_eq_some_iff] at hj
        obtain ⟨hji, hjj⟩ := hj
        simp only [List.length_range, List.getElem_range] at hji hjj
        subst hjj
        obtain ⟨c0, c1, c2, c3⟩ := (hf _ hji).1
        rw [Lib.add_plain, Lib.add_plain] at c0 c1 c2 c3
        exact ⟨c0, by rw [← Nat.add_assoc]; exact c1, by rw [← Nat.add_assoc]; exact c2, by rw [← Nat.add_assoc]; exact c3⟩
    · intro x hx
      obtain ⟨j, hj, rfl⟩ := List.mem_map.1 hx
      exact (hf j (List.mem_range.1 hj)).2
end
end Go.Proofs.YtbjcdpenfijfoaaGreatDoor

