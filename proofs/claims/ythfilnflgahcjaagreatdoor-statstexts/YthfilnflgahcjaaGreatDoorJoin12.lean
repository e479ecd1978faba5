/- The document's own: names, told. Names and numerals, told by the program and by the document. Counts as a text. A line of words, written to a builder. -/
import Derived.Test.YthfilnflgahcjaaGreatDoorJoin10
import Derived.Test.YthfilnflgahcjaaGreatDoorJoin11
import Derived.Lib.ItoaLen
import Derived.Lib.Join
namespace Go.Proofs.YthfilnflgahcjaaGreatDoor
open Go.RowKit Go.Shelf
set_option linter.unusedVariables false
set_option linter.unusedSimpArgs false
def byE (c : UInt8) : List Value := [.int .u8 (c.toNat : Int)]
theorem one_byte (x : UInt8) : ∀ u ∈ byE x, u.oneCell' = true := fun u hu => by simp only [byE, List.mem_cons, List.not_mem_nil, or_false] at hu; rw [hu]; rfl
theorem elem116 : ElemIs 116 5 1 1 (.int .u8 0) := elem_of (by kernel_rfl) (by kernel_rfl) rfl (by decide) (by decide)
theorem byE_flat : ∀ l : List UInt8, (l.map byE).flatten = Lib.byteCells l
  | [] => rfl
  | c :: l => by
    rw [List.map_cons, List.flatten_cons, byE_flat l]; rfl
theorem conv_bytes {w : World} {base : Nat} {v : Value} {l : List UInt8} (h : ORow 5 1 byE base w v l) (hl : l ≠ []) : (convert 116 9 v).run Tryz.prog w = .ok (.string ⟨l.toArray⟩) w := by
  unfold ORow at h
  rw [byE_flat] at h
  have h' := h
  obtain ⟨_, ⟨h1, h2⟩ | ⟨g, cap, cur, h1, _⟩⟩ := h
  · exact absurd (List.eq_nil_of_length_eq_zero h2) hl
  · subst h1
    refine run_convert_bytes_back (P := Tryz.prog) w 116 9 5 ⟨g, 0, none⟩ cap l Tryz.underlying116 Tryz.underlying5 Tryz.underlying9 fun j hj => ?_
    refine h'.cells (g := g) rfl j _ ?_
    simp [Lib.byteCells, hj]
theorem at_byte (s : ByteArray) (j : Nat) (h : j < s.size) : s.data.toList[j]? = some s[j] := by
  rw [List.getElem?_eq_getElem (by simpa using h)]; rfl
theorem dblB_snoc (l : List UInt8) (c : UInt8) : dblB (l ++ [c]) = dblB l ++ (if c = 96 then [96, 96] else [c]) := by simp [dblB]
set_option maxRecDepth 100000 in
set_option maxHeartbeats 4000000 in
theorem rnam_any (s : ByteArray) (hs : s.size ≤ 100000) (w : World) : Calls Tryz.prog 120 #[.string s] w fun e w' => e = .returned (.string (vnameB s)) ∧ Below w.heap.size w w' := by
  have HP := hidE (refPlain_any s (by unfold maxLen; omega) w)
  go_enter Tryz.func120, Tryz.ntmps120
  go_wp2_with fail
  refine HP.out.mono ?_
  rintro e w0 ⟨rfl, hw0⟩
  rw [hw0]
  clear HP hw0
  cases hb : vbareB s with
  | true =>
    have HN : Hid (vnameB s = s) := by show _ = _; unfold vnameB; rw [if_pos hb]
    clear hb
    go_wp2_with fail
    go_ret
    exact ⟨by rw [HN.out]; rfl, Below.refl _ _⟩
  | false =>
    have HN : Hid (vnameB s = ⟨(96 :: (dblB s.data.toList ++ [96])).toArray⟩) := by
      show _ = _
      unfold vnameB
      rw [if_neg (by simp [hb])]
      apply ByteArray.ext
      simp
    clear hb
    obtain ⟨W1, hW1⟩ : ∃ W1, w.alloc (.cells #[.int .u8 96] 5) = W1 := ⟨_, rfl⟩
    have HB1 : Hid (Below w.heap.size w W1) := by rw [← hW1]; exact below_new w _
    have HO1 : Hid (ORow 5 1 byE w.heap.size W1 (.slice (some ⟨w.heap.size, 0, none⟩) 1 1) [96]) := by rw [← hW1]; exact orow_new (e := 5) (k := 1) (enc := byE) (fun _ => rfl) w [96] _ rfl (by simp) (Nat.le_refl _)
    have HW1 := hidE hW1
    clear hW1
    go_upto_region 4 with fail
    rw [HW1.out]
    go_wp2_with fail
    go_loopw [4, 3] (fun i r wr => ∃ j : Nat, j ≤ s.size ∧ i = .int .i64 j ∧ ORow 5 1 byE w.heap.size wr r (96 :: dblB (s.data.toList.take j)) ∧ Below w.heap.size w wr) (fun i _ _ => s.size - (intOf i).toNat)
    case atStart => exact ⟨0, Nat.zero_le _, rfl, HO1.out, HB1.out⟩
    case round =>
      obtain ⟨j, hj, rfl, hor, hbr⟩ := hrel
      have HOR := hidE hor
      have HBR := hidE hbr
      clear HO1 HB1 HW1 hor hbr
      have hlen : (96 :: dblB (s.data.toList.take j)).length ≤ 2 * s.size + 1 := by
        have h1 := dblB_len (s.data.toList.take j)
        have h2 : (s.data.toList.take j).length ≤ s.size := by rw [List.length_take]; show min j s.size ≤ _; omega
        rw [List.length_cons]; omega
      by_cases hlt : j < s.size
      · have HAT := hidE (at_byte s j hlt)
        have hji : (j : Int) < s.size := by omega
        obtain ⟨x, hx⟩ : ∃ x, s[j] = x := ⟨_, rfl⟩
        have HX := hidE hx
        obtain ⟨W2, hW2⟩ : ∃ W2, wr.alloc (.cells #[.int .u8 (s[j].toNat : Int)] 5) = W2 := ⟨_, rfl⟩
        have hb2 : Below wr.heap.size wr W2 := by rw [← hW2]; exact below_new wr _
        obtain ⟨v3, w3, q1, q2, q3, _⟩ := append_one (ty := 116) (c := 1) (bl := wr.heap.size) (off := 0) (x := s[j]) elem116 (fun _ => rfl) one_byte (HOR.out.below hb2) (fun jj u hu => by
          rw [Nat.zero_add, ← hW2]
          exact cell_new _ _ _ _ _ (by simpa [byE] using hu)) (by omega) (Nat.le_trans HBR.out.size hb2.size)
        have HO3 := hidE q2
        have HB3 : Hid (Below w.heap.size w w3) := HBR.out.trans ((hb2.mono HBR.out.size).trans q3)
        have HW2 := hidE hW2
        clear hW2 hb2 q2 q3 hx HBR HOR
        go_upto_region 8 with (at_builtin; rw [HW2.out]; refine Lib.wpList_append_run _ rfl _ _ _ _ rfl _ _ rfl rfl _ _ q1 ?_)
        clear q1 HW2
        by_cases h96 : s[j] = 96
        · have g96 : ((s[j].toNat : Int) == 96) = true := by rw [h96]; rfl
          have HE : Hid (96 :: dblB (s.data.toList.take (j + 1)) = (96 :: dblB (s.data.toList.take j) ++ [s[j]]) ++ [96]) := by
            show _ = _
            rw [List.take_add_one, HAT.out]
            show 96 :: dblB (_ ++ [s[j]]) = _
            rw [dblB_snoc, if_pos h96, h96]; simp
          have hlen' : ((96 :: dblB (s.data.toList.take j)) ++ [s[j]]).length ≤ 2 * s.size + 2 := by rw [List.length_append]; show _ + 1 ≤ _; omega
          obtain ⟨W4, hW4⟩ : ∃ W4, w3.alloc (.cells #[.int .u8 96] 5) = W4 := ⟨_, rfl⟩
          have hb4 : Below w3.heap.size w3 W4 := by rw [← hW4]; exact below_new w3 _
          obtain ⟨v5, w5, q1, q2, q3, _⟩ := append_one (ty := 116) (c := 1) (bl := w3.heap.size) (off := 0) (x := (96 : UInt8)) elem116 (fun _ => rfl) one_byte (HO3.out.below hb4) (fun jj u hu => by
            rw [Nat.zero_add, ← hW4]
            exact cell_new _ _ _ _ _ (by simpa [byE] using hu)) (by omega) (Nat.le_trans HB3.out.size hb4.size)
          have HO5 := hidE q2
          have HB5 : Hid (Below w.heap.size w w5) := HB3.out.trans ((hb4.mono HB3.out.size).trans q3)
          have HW4 := hidE hW4
          clear hW4 hb4 q2 q3 h96 HO3 HB3
          go_wp2_with (at_builtin; rw [HW4.out]; refine Lib.wpList_append_run _ rfl _ _ _ _ rfl _ _ rfl rfl _ _ q1 ?_)
          go_roundw
          case rel => exact ⟨j + 1, by omega, by go_num, by rw [HE.out]; exact HO5.out, HB5.out⟩
          case measure => simp [intOf]; omega
        · have g96 : ((s[j].toNat : Int) == 96) = false := by
            simp only [beq_eq_false_iff_ne]
            intro h
            apply h96
            apply UInt8.toNat_inj.1
            have : s[j].toNat = 96 := by omega
            rw [this]; rfl
          have HE : Hid (96 :: dblB (s.data.toList.take (j + 1)) = 96 :: dblB (s.data.toList.take j) ++ [s[j]]) := by
            show _ = _
            rw [List.take_add_one, HAT.out]
            show 96 :: dblB (_ ++ [s[j]]) = _
            rw [dblB_snoc, if_neg h96]; rfl
          clear h96
          go_wp2_with fail
          go_roundw
          case rel => exact ⟨j + 1, by omega, by go_num, by rw [HE.out]; exact HO3.out, HB3.out⟩
          case measure => simp [intOf]; omega
      · have hji : ¬ (j : Int) < s.size := by omega
        have HQ : Hid (dblB (s.data.toList.take j) = dblB s.data.toList) := by
          show _ = _
          rw [List.take_of_length_le (by show s.size ≤ j; omega)]
        obtain ⟨W3, hW3⟩ : ∃ W3, wr.alloc (.cells #[.int .u8 96] 5) = W3 := ⟨_, rfl⟩
        have hb3 : Below wr.heap.size wr W3 := by rw [← hW3]; exact below_new wr _
        obtain ⟨v4, w4, q1, q2, q3, _⟩ := append_one (ty := 116) (c := 1) (bl := wr.heap.size) (off := 0) (x := (96 : UInt8)) elem116 (fun _ => rfl) one_byte (HOR.out.below hb3) (fun jj u hu => by
          rw [Nat.zero_add, ← hW3]
          exact cell_new _ _ _ _ _ (by simpa [byE] using hu)) (by omega) (Nat.le_trans HBR.out.size hb3.size)
        have hcv := conv_bytes q2 (by simp)
        have HB4 : Hid (Below w.heap.size w w4) := HBR.out.trans ((hb3.mono HBR.out.size).trans q3)
        obtain ⟨ca, cc, hcs⟩ := q2.slice
        subst hcs
        obtain ⟨L, hL⟩ : ∃ L, (96 :: dblB (s.data.toList.take j) ++ [96]).length = L := ⟨_, rfl⟩
        rw [hL] at q1 hcv
        have HW3 := hidE hW3
        clear hW3 hb3 q2 q3 HOR HBR hL
        go_wp2_with (at_builtin; rw [HW3.out]; refine Lib.wpList_append_run _ rfl _ _ _ _ rfl _ _ rfl rfl _ _ q1 ?_)
        go_ret
        refine ⟨?_, HB4.out⟩
        rw [HN.out, HQ.out]
        rfl
end Go.Proofs.YthfilnflgahcjaaGreatDoor

namespace Go.Proofs.YthfilnflgahcjaaGreatDoor
open Go.RowKit Go.Shelf
set_option linter.unusedVariables false
set_option linter.unusedSimpArgs false
/-- A name as it is told: nothing, if it is no UTF-8. -/
def nameT (s : ByteArray) : ByteArray := if Lib.validD s.data.toList = true then vnameB s else ⟨#[]⟩
theorem nameT_len (s : ByteArray) : (nameT s).size ≤ 2 * s.size + 2 := by
  unfold nameT
  split
  · exact vname_len s
  · exact Nat.zero_le _
theorem nam_any (s : ByteArray) (hs : s.size ≤ 100000) (w : World) (hE : Env2 w) : Calls Tryz.prog 73 #[.string s] w fun e w' => e = .returned (.string (nameT s)) ∧ Below w.heap.size w w' := by
  cases hv : Lib.validD s.data.toList with
  | true =>
    have hn : nameT s = vnameB s := by unfold nameT; rw [if_pos hv]
    rw [hn]
    exact vname_any s (by omega) hv w hE
  | false =>
    have hn : nameT s = ⟨#[]⟩ := by unfold nameT; rw [if_neg (by rw [hv]; decide)]
    rw [hn]
    have HV := hidE (valid_any s (by omega) w hE.e)
    rw [hv] at HV
    clear hv hn hE
    go_enter Tryz.func73, Tryz.ntmps73
    go_wp2_with fail
    refine HV.out.mono ?_
    rintro e w1 ⟨rfl, hb⟩
    have HB := hidE hb
    clear hb HV
    go_wp2_with fail
    go_ret
    exact ⟨rfl, HB.out⟩
theorem rnamed_any (s : ByteArray) (hs : s.size ≤ 100000) (w : World) : Calls Tryz.prog 77 #[.string s] w fun e w' => e = .returned (.string (nameT s)) ∧ Below w.heap.size w w' := by
  have HU : Hid (Calls Tryz.prog 119 #[.string s] w fun e w' => e = .returned (.bool (Lib.validD s.data.toList)) ∧ Below w.heap.size w w') := (utf_any s w (by omega)).mono fun e w' h => by first | exact h | exact ⟨h.1, by rw [h.2]; exact Below.refl _ _⟩
  obtain ⟨n, hn⟩ : ∃ n, nameT s = n := ⟨_, rfl⟩
  have HN := hidE hn
  rw [hn]
  unfold nameT at hn
  cases hv : Lib.validD s.data.toList with
  | true =>
    rw [if_pos hv] at hn
    rw [hv] at HU
    have HR : Hid (∀ W, Calls Tryz.prog 120 #[.string s] W fun e w' => e = .returned (.string n) ∧ Below W.heap.size W w') := fun W => by rw [← hn]; exact rnam_any s hs W
    clear hv hn
    go_enter Tryz.func77, Tryz.ntmps77
    go_wp2_with fail
    refine HU.out.mono ?_
    rintro e w1 ⟨rfl, hb⟩
    have HB := hidE hb
    clear hb HU
    go_wp2_with fail
    refine (HR.out _).mono ?_
    rintro e w2 ⟨rfl, hb2⟩
    have HB2 := hidE (Below.on HB.out hb2)
    clear hb2
    go_wp2_with fail
    go_ret
    exact ⟨rfl, HB2.out⟩
  | false =>
    rw [if_neg (by rw [hv]; decide)] at hn
    subst hn
    rw [hv] at HU
    clear hv
    go_enter Tryz.func77, Tryz.ntmps77
    go_wp2_with fail
    refine HU.out.mono ?_
    rintro e w1 ⟨rfl, hb⟩
    have HB := hidE hb
    clear hb HU
    go_wp2_with fail
    go_ret
    exact ⟨rfl, HB.out⟩
end Go.Proofs.YthfilnflgahcjaaGreatDoor

namespace Go.Proofs.YthfilnflgahcjaaGreatDoor
open Go.RowKit Go.Shelf
set_option linter.unusedVariables false
set_option linter.unusedSimpArgs false
theorem numT_len {n : Int} (h : W64 n) : (numT n).size ≤ 21 := by
  have := Lib.itoa_length_le n (w64_range h).1 (w64_range h).2
  have e : (numT n).size = (Lib.itoa n).length := by simp [numT, ByteArray.size]
  omega
/-- A line of words. -/
def lineB (ws : List ByteArray) : List UInt8 := Lib.join (ws.map fun x => x.data.toList) [32] ++ [10]
def wayT (o : Bool) : ByteArray := if o = true then ⟨#[111, 117, 116]⟩ else ⟨#[105, 110]⟩
def labLine (x : ByteArray × Int) : List UInt8 := lineB [⟨#[108, 97, 98, 101, 108]⟩, nameT x.1, numT x.2]
def typLine (x : ByteArray × Int) : List UInt8 := lineB [⟨#[116, 121, 112, 101]⟩, nameT x.1, numT x.2]
def endLine (x : EndR) : List UInt8 := lineB [⟨#[101, 110, 100]⟩, nameT x.1, nameT x.2.1, wayT x.2.2.1, numT x.2.2.2]
def keyLine (x : KeyR) : List UInt8 := lineB [⟨#[107, 101, 121]⟩, nameT x.1, nameT x.2.1, numT x.2.2.1, numT x.2.2.2]
def headL (s : StatP) : List UInt8 := lineB [⟨#[110, 111, 100, 101, 115]⟩, numT s.nodes] ++ lineB [⟨#[114, 101, 108, 115]⟩, numT s.rels]
def txt1 (s : StatP) : List UInt8 := headL s ++ s.labels.flatMap labLine
def txt2 (s : StatP) : List UInt8 := txt1 s ++ s.types.flatMap typLine
def txt3 (s : StatP) : List UInt8 := txt2 s ++ s.ends.flatMap endLine
def textL (s : StatP) : List UInt8 := txt3 s ++ s.keys.flatMap keyLine
/-- Counts that are numbers, with short names. -/
structure StatW (s : StatP) : Prop where
  n : W64 s.nodes
  r : W64 s.rels
  l : ∀ x ∈ s.labels, x.1.size ≤ 3000 ∧ W64 x.2
  t : ∀ x ∈ s.types, x.1.size ≤ 3000 ∧ W64 x.2
  e : ∀ x ∈ s.ends, x.1.size ≤ 3000 ∧ x.2.1.size ≤ 3000 ∧ W64 x.2.2.2
  k : ∀ x ∈ s.keys, x.1.size ≤ 3000 ∧ x.2.1.size ≤ 3000 ∧ W64 x.2.2.1 ∧ W64 x.2.2.2
theorem size_list (a : ByteArray) : a.data.toList.length = a.size := rfl
theorem line2_len (a b : ByteArray) : (lineB [a, b]).length = a.size + b.size + 2 := by
  simp [lineB, Lib.join, List.intercalate, size_list]; omega
theorem line3_len (a b c : ByteArray) : (lineB [a, b, c]).length = a.size + b.size + c.size + 3 := by
  simp [lineB, Lib.join, List.intercalate, size_list]; omega
theorem line5_len (a b c d e : ByteArray) : (lineB [a, b, c, d, e]).length = a.size + b.size + c.size + d.size + e.size + 5 := by
  simp [lineB, Lib.join, List.intercalate, size_list]; omega
theorem wayT_len (o : Bool) : (wayT o).size ≤ 3 := by cases o <;> decide
theorem labLine_len {x : ByteArray × Int} (h : x.1.size ≤ 3000 ∧ W64 x.2) : (labLine x).length ≤ 13000 := by
  unfold labLine
  rw [line3_len]
  have h1 := nameT_len x.1
  have h2 := numT_len h.2
  have h3 : (⟨#[108, 97, 98, 101, 108]⟩ : ByteArray).size = 5 := rfl
  have := h.1
  omega
theorem typLine_len {x : ByteArray × Int} (h : x.1.size ≤ 3000 ∧ W64 x.2) : (typLine x).length ≤ 13000 := by
  unfold typLine
  rw [line3_len]
  have h1 := nameT_len x.1
  have h2 := numT_len h.2
  have h3 : (⟨#[116, 121, 112, 101]⟩ : ByteArray).size = 4 := rfl
  have := h.1
  omega
theorem endLine_len {x : EndR} (h : x.1.size ≤ 3000 ∧ x.2.1.size ≤ 3000 ∧ W64 x.2.2.2) : (endLine x).length ≤ 13000 := by
  unfold endLine
  rw [line5_len]
  have h1 := nameT_len x.1
  have h2 := numT_len h.2.2
  have h4 := nameT_len x.2.1
  have h5 := wayT_len x.2.2.1
  have h3 : (⟨#[101, 110, 100]⟩ : ByteArray).size = 3 := rfl
  have := h.1
  have := h.2.1
  omega
theorem keyLine_len {x : KeyR} (h : x.1.size ≤ 3000 ∧ x.2.1.size ≤ 3000 ∧ W64 x.2.2.1 ∧ W64 x.2.2.2) : (keyLine x).length ≤ 13000 := by
  unfold keyLine
  rw [line5_len]
  have h1 := nameT_len x.1
  have h2 := numT_len h.2.2.1
  have h4 := nameT_len x.2.1
  have h5 := numT_len h.2.2.2
  have h3 : (⟨#[107, 101, 121]⟩ : ByteArray).size = 3 := rfl
  have := h.1
  have := h.2.1
  omega
theorem flat_step {α : Type} {f : α → List UInt8} {xs : List α} {j : Nat} {x : α} (h : xs[j]? = some x) : (xs.take (j + 1)).flatMap f = (xs.take j).flatMap f ++ f x := by
  rw [List.take_add_one, h]; simp
theorem flat_len {α : Type} {f : α → List UInt8} : ∀ (xs : List α), (∀ x ∈ xs, (f x).length ≤ 13000) → (xs.flatMap f).length ≤ 13000 * xs.length
  | [], _ => by simp
  | x :: xs, h => by
    rw [List.flatMap_cons, List.length_append, List.length_cons]
    have := h x List.mem_cons_self
    have := flat_len xs fun y hy => h y (List.mem_cons_of_mem _ hy)
    omega
theorem flat_take_len {α : Type} {f : α → List UInt8} {xs : List α} (j : Nat) (h : ∀ x ∈ xs, (f x).length ≤ 13000) : ((xs.take j).flatMap f).length ≤ 13000 * xs.length := by
  have := flat_len (xs.take j) fun x hx => h x (List.mem_of_mem_take hx)
  have h2 : (xs.take j).length ≤ xs.length := by rw [List.length_take]; omega
  omega
theorem head_len {s : StatP} (h : StatW s) : (headL s).length ≤ 100 := by
  unfold headL
  rw [List.length_append, line2_len, line2_len]
  have h1 := numT_len h.n
  have h2 := numT_len h.r
  have h3 : (⟨#[110, 111, 100, 101, 115]⟩ : ByteArray).size = 5 := rfl
  have h4 : (⟨#[114, 101, 108, 115]⟩ : ByteArray).size = 4 := rfl
  omega
end Go.Proofs.YthfilnflgahcjaaGreatDoor

namespace Go.Proofs.YthfilnflgahcjaaGreatDoor
open Go.RowKit Go.Shelf
set_option linter.unusedVariables false
set_option linter.unusedSimpArgs false
theorem owns_keep {w w' : World} {B e size n : Nat} {v : Value} {xs : List Value} (h : w.ownsRow B e size v n xs) (hb : Below w.heap.size w w') : w'.ownsRow B e size v n xs := by
  obtain ⟨g1, ⟨g2, g3⟩ | ⟨g, cap, cur, g2, g3, g4, g5⟩⟩ := h
  · exact ⟨g1, .inl ⟨g2, g3⟩⟩
  · exact ⟨g1, .inr ⟨g, cap, cur, g2, g3, (hb.block g (Array.getElem?_eq_some_iff.1 g4).1).trans g4, g5⟩⟩
theorem BldI.keep {B b : Nat} {l : List UInt8} {w w' : World} (h : BldI B b l w) (hb : Below w.heap.size w w') : BldI B b l w' := by
  rcases h with h | h
  · left
    have hlt := h.lt
    obtain ⟨hB, v, hbk, hown, hne⟩ := h
    exact ⟨hB, v, (hb.block b hlt).trans hbk, owns_keep hown hb, hne⟩
  · right
    have hlt := h.lt
    obtain ⟨hB, v, hbk, hown, hne⟩ := h
    exact ⟨hB, v, (hb.block b hlt).trans hbk, owns_keep hown hb, hne⟩
theorem BldI.lt {B b : Nat} {l : List UInt8} {w : World} (h : BldI B b l w) : b < w.heap.size := by
  rcases h with h | h <;> exact Lib.BuilderAt.lt h
theorem bld_new (w : World) : BldI w.heap.size w.heap.size [] (w.alloc (.cells #[.pointer none, .slice none 0 0] 118)) :=
  .inl ⟨Nat.le_refl _, .slice none 0 0, World.alloc_heap_new _ _, World.ownsRow_nil _ _ _ _, by simp [Value.ownBlock]⟩
set_option maxRecDepth 100000 in
set_option maxHeartbeats 4000000 in
theorem line_any (B b bk c : Nat) (l : List UInt8) (ws : List ByteArray) (w : World) (hBw : B ≤ w.heap.size) (h : BldI B b l w) (hbk : bk < w.heap.size) (hcells : ∀ (j : Nat) x, ws[j]? = some x → w.cell? ⟨bk, 0 + j, none⟩ = some (.string x)) (hN : ws.length ≤ 5) (hcap : ws.length ≤ c) (hl : l.length ≤ 100000000) (hs : (lineB ws).length ≤ 100000) :
    Calls Tryz.prog 69 #[.slice (some ⟨bk, 0, none⟩) ws.length c, .pointer (some ⟨b, 0, none⟩)] w fun e w' => e = .returned (.tuple #[]) ∧ BldI B b (l ++ lineB ws) w' ∧ Below B w w' := by
  have hjl : (lineB ws).length = (Lib.join (ws.map (·.data.toList)) (⟨#[32]⟩ : ByteArray).data.toList).length + 1 := by simp [lineB]
  have HJ := hidE (Tryz.strings_Join bk 0 c ws ⟨#[32]⟩ w hcells hbk (by omega) hcap (by omega))
  obtain ⟨J, hJ⟩ : ∃ J : ByteArray, (⟨(Lib.join (ws.map (·.data.toList)) (⟨#[32]⟩ : ByteArray).data.toList).toArray⟩ : ByteArray) = J := ⟨_, rfl⟩
  have HJJ : Hid (lineB ws = (J ++ ⟨#[10]⟩).data.toList) := by
    show _ = _
    rw [← hJ]
    simp [lineB]
  have hzJ : J.size ≤ 100000 := by
    have : J.size = (Lib.join (ws.map (·.data.toList)) (⟨#[32]⟩ : ByteArray).data.toList).length := by rw [← hJ]; simp [ByteArray.size]
    omega
  rw [hJ] at HJ
  have HH := hidE h
  have z1 : ¬ 9223372036854775807 < J.size + 1 := by omega
  clear hcells hJ hjl hs
  generalize ws.length = n at *
  generalize lineB ws = LL at *
  have hz2 : (J ++ ⟨#[10]⟩ : ByteArray).size ≤ 100001 := by rw [ByteArray.size_append]; show J.size + 1 ≤ _; omega
  go_enter Tryz.func69, Tryz.ntmps69
  go_wp2_with fail
  refine HJ.out.mono ?_
  rintro e w1 ⟨rfl, hb1⟩
  have HW := hidE (write_any B b l (J ++ ⟨#[10]⟩) w1 (HH.out.keep hb1) (by omega) (Nat.le_trans hBw hb1.size))
  have HB1 := hidE (hb1.mono hBw)
  clear hb1 HJ h HH hz2
  go_wp2_with fail
  refine HW.out.mono ?_
  rintro e w2 ⟨rfl, h2, hb2⟩
  have H2 := hidE h2
  have HB2 := hidE (HB1.out.trans hb2)
  clear h2 hb2 HW
  go_wp2_with fail
  go_end0
  exact ⟨rfl, by rw [HJJ.out]; exact H2.out, HB2.out⟩
end Go.Proofs.YthfilnflgahcjaaGreatDoor

