/- The document's numbers of any size, as the reference reckons: Of64 (68), To64 (112), WideMul (67). Ported from logic's texts. -/
import Derived.Test.YthfilnflgahcjaaGreatDoorJoin4
import Derived.Laws.OwnMore
import Derived.OneCell
import Derived.WalkKit
import Derived.WalkSpells
import Derived.WalkLawsBesides
namespace Go.Proofs.YthfilnflgahcjaaGreatDoor.Wd
open Go.RowKit Go.WideShapes
set_option linter.unusedVariables false
set_option linter.unusedSimpArgs false
set_option maxRecDepth 100000
def sz (a : Int) : Int := if a < 0 then -a else a
/-- A number that fits 64 bits, and no error; else nought, and the error ErrWide. -/
def fitN (n : Int) : Int := if -9223372036854775808 ≤ n ∧ n ≤ 9223372036854775807 then n else 0
def fitE (n : Int) : Int := if -9223372036854775808 ≤ n ∧ n ≤ 9223372036854775807 then 0 else 120
theorem fit_in {n : Int} (h1 : -9223372036854775808 ≤ n) (h2 : n ≤ 9223372036854775807) : fitN n = n ∧ fitE n = 0 := by simp [fitN, fitE, h1, h2]
theorem fit_out {n : Int} (h : n < -9223372036854775808 ∨ 9223372036854775807 < n) : fitN n = 0 ∧ fitE n = 120 := by
  have : ¬ (-9223372036854775808 ≤ n ∧ n ≤ 9223372036854775807) := by omega
  simp [fitN, fitE, this]
theorem fit_zero : fitN 0 = 0 ∧ fitE 0 = 0 := fit_in (by omega) (by omega)
theorem ret_ii {k1 k2 : IntKind} {a b c d : Int} (h : a = b) (h2 : c = d) : Ending.returned (.tuple #[.int k1 a, .int k2 c]) = .returned (.tuple #[.int k1 b, .int k2 d]) := by rw [h, h2]
theorem ownsRow_below {base e size n : Nat} {w w' : World} {v : Value} {xs : List Value} (h : w.ownsRow base e size v n xs) (hb : Below w.heap.size w w') : w'.ownsRow base e size v n xs := by
  have hl := h.lt
  obtain ⟨h1, h2 | ⟨g, cap, cur, rfl, h3, h4, h5⟩⟩ := h
  · exact ⟨h1, Or.inl h2⟩
  · exact ⟨h1, Or.inr ⟨g, cap, cur, rfl, h3, (hb.block g (hl g rfl).2).trans h4, h5⟩⟩
theorem ownsRow_slice {w : World} {base e size : Nat} {v : Value} {n : Nat} {xs : List Value} (h : w.ownsRow base e size v n xs) : ∃ ad cap, v = .slice ad n cap := by
  obtain ⟨_, h | ⟨g, cap, cur, rfl, _⟩⟩ := h
  · obtain ⟨rfl, rfl⟩ := h; exact ⟨_, _, rfl⟩
  · exact ⟨_, _, rfl⟩
theorem mul_le' {a b c d : Int} (h1 : 0 ≤ a) (h2 : a ≤ c) (h3 : 0 ≤ b) (h4 : b ≤ d) : 0 ≤ a * b ∧ a * b ≤ c * d :=
  ⟨Int.mul_nonneg h1 h3, Int.mul_le_mul h2 h4 h3 (Int.le_trans h1 h2)⟩
theorem addr_ne {b c o p : Nat} (h : b ≠ c) : (⟨b, o, none⟩ : Addr) ≠ ⟨c, p, none⟩ := by intro e; exact h (congrArg Addr.block e)
theorem hidden {p : Prop} (h : p) : Hid p := h
theorem Tryz.info3 : (Tryz.prog.info? 3).map (fun i => (i.zero, i.size, i.bytes)) = some (some (.int .i64 0), 1, 8) := by kernel_rfl
/-- Digits to the base 65536, the lowest first, and the number that they are. -/
def IsDig (ds : List Int) : Prop := ∀ d ∈ ds, 0 ≤ d ∧ d ≤ 65535
def dv : List Int → Int
  | [] => 0
  | d :: r => d + 65536 * dv r
/-- A slice that some call has made holds these digits. -/
def Dig (w : World) (v : Value) (ds : List Int) : Prop := w.ownsRow 0 3 1 v ds.length (ds.map (Value.int .i64)) ∧ IsDig ds
theorem ownsRow_low {base e size n : Nat} {w : World} {v : Value} {xs : List Value} (h : w.ownsRow base e size v n xs) : w.ownsRow 0 e size v n xs := by
  obtain ⟨h1, h2 | ⟨g, cap, cur, rfl, h3, h4⟩⟩ := h
  · exact ⟨h1, Or.inl h2⟩
  · exact ⟨h1, Or.inr ⟨g, cap, cur, rfl, Nat.zero_le _, h4⟩⟩
theorem Dig.later {w w' : World} {v : Value} {ds : List Int} (h : Dig w v ds) (hb : Below w.heap.size w w') : Dig w' v ds := ⟨ownsRow_below h.1 hb, h.2⟩
/-- Such a slice: nothing, or a place and its cells. -/
theorem Dig.cases {w : World} {v : Value} {ds : List Int} (h : Dig w v ds) : (v = .slice none 0 0 ∧ ds = []) ∨
    ∃ g cap, v = .slice (some ⟨g, 0, none⟩) ds.length cap ∧ g < w.heap.size ∧ ds.length ≤ cap ∧ cap ≤ maxLen ∧ ∀ j, j < ds.length → w.cell? ⟨g, j, none⟩ = some (.int .i64 (ds.getD j 0)) := by
  obtain ⟨ho, _⟩ := h
  have ho' := ho
  obtain ⟨h1, ⟨rfl, h2⟩ | ⟨g, cap, cur, rfl, h3, h4, h5, h6, h7⟩⟩ := ho
  · exact Or.inl ⟨rfl, List.length_eq_zero_iff.1 h2⟩
  · refine Or.inr ⟨g, cap, rfl, (ho'.lt g rfl).2, h5, h6, ?_⟩
    intro j hj
    have := ho'.cells (g := g) rfl j (.int .i64 ds[j]) (by simp [hj])
    rw [add_plain] at this
    simpa [List.getD, hj] using this
theorem getD_out {ds : List Int} {i : Nat} (h : ds.length ≤ i) : ds.getD i 0 = 0 := by rw [List.getD_eq_getElem?_getD, List.getElem?_eq_none h]; rfl
theorem isDig_getD {ds : List Int} (h : IsDig ds) (i : Nat) : 0 ≤ ds.getD i 0 ∧ ds.getD i 0 ≤ 65535 := by
  by_cases hi : i < ds.length
  · have e : ds.getD i 0 = ds[i] := by simp [List.getD, hi]
    rw [e]; exact h _ (List.getElem_mem hi)
  · have e : ds.getD i 0 = 0 := getD_out (by omega)
    rw [e]; omega
theorem dv_snoc (ds : List Int) (d : Int) : dv (ds ++ [d]) = dv ds + 65536 ^ ds.length * d := by
  induction ds with
  | nil => simp [dv]
  | cons a r ih =>
    simp only [List.cons_append, dv, ih, List.length_cons, Int.pow_succ, Int.mul_add]
    rw [← Int.mul_assoc, Int.mul_comm 65536 (65536 ^ r.length)]
    omega
theorem dv_nn {ds : List Int} (h : IsDig ds) : 0 ≤ dv ds := by
  induction ds with
  | nil => simp [dv]
  | cons a r ih =>
    have h1 := h a (by simp)
    have h2 := ih fun d hd => h d (by simp [hd])
    simp only [dv]; omega
theorem isDig_snoc {ds : List Int} {d : Int} (h : IsDig ds) (h1 : 0 ≤ d) (h2 : d ≤ 65535) : IsDig (ds ++ [d]) := by
  intro x hx
  simp at hx
  rcases hx with hx | rfl
  · exact h x hx
  · exact ⟨h1, h2⟩
/-- One digit more of a number that is taken apart. -/
theorem apart_step {ds : List Int} {U N : Int} {k : Nat} (hl : ds.length = k) (h : dv ds + U * 65536 ^ k = N) (hU : 0 ≤ U) : dv (ds ++ [U % 65536]) + U / 65536 * 65536 ^ (k + 1) = N := by
  rw [dv_snoc, hl, Int.pow_succ, ← h]
  have e : U = U / 65536 * 65536 + U % 65536 := by omega
  have e2 : U * 65536 ^ k = U / 65536 * (65536 ^ k * 65536) + 65536 ^ k * (U % 65536) := by
    conv => lhs; rw [e]
    rw [Int.add_mul, Int.mul_assoc, Int.mul_comm 65536 (65536 ^ k), Int.mul_comm (U % 65536)]
  omega
/-- A row of ints that the call makes above block b, one more in it: what lies below b stays. -/
theorem app_below {b : Nat} {wr w1 : World} {v : Value} {n : Nat} {xs : List Value} {o : Obj} (hB : b ≤ wr.heap.size) (hown : wr.ownsRow b 3 1 v n xs) (hgrow : (wr.alloc o).grownBy w1 v.ownBlock) : Below b wr w1 :=
  ((Below.refl b wr).alloc hB o).grown hgrow (by simp; omega) (fun j hj => (hown.lt j hj).1)
/-- The struct that is being made, and the one that is handed back: blocks B + 1 and B. -/
def Made (B : Nat) (neg : Bool) (v : Value) (wr : World) : Prop :=
  wr.cell? ⟨B + 1, 1, none⟩ = some v ∧ B + 2 ≤ wr.heap.size ∧ wr.cell? ⟨B + 1, 0, none⟩ = some (.bool neg) ∧ wr.frozen? ⟨B + 1, 1, none⟩ = false ∧ wr.cell? ⟨B, 0, none⟩ = some (.bool false) ∧ wr.cell? ⟨B, 1, none⟩ = some (.slice none 0 0) ∧
  wr.frozen? ⟨B, 0, none⟩ = false ∧ wr.frozen? ⟨B, 1, none⟩ = false
theorem Made.below {B : Nat} {neg : Bool} {v : Value} {wr w1 : World} (h : Made B neg v wr) (hb : Below (B + 2) wr w1) : Made B neg v w1 := by
  obtain ⟨a1, a2, a3, a4, a5, a6, a7, a8⟩ := h
  refine ⟨(hb.cell (p := ⟨B + 1, 1, none⟩) (by show B + 1 < B + 2; omega)).trans a1, Nat.le_trans a2 hb.size, (hb.cell (p := ⟨B + 1, 0, none⟩) (by show B + 1 < B + 2; omega)).trans a3,
    (hb.frozen (p := ⟨B + 1, 1, none⟩) (by show B + 1 < B + 2; omega)).trans a4, (hb.cell (p := ⟨B, 0, none⟩) (by show B < B + 2; omega)).trans a5, (hb.cell (p := ⟨B, 1, none⟩) (by show B < B + 2; omega)).trans a6,
    (hb.frozen (p := ⟨B, 0, none⟩) (by show B < B + 2; omega)).trans a7, (hb.frozen (p := ⟨B, 1, none⟩) (by show B < B + 2; omega)).trans a8⟩
theorem Made.set {B : Nat} {neg : Bool} {v : Value} {wr : World} (h : Made B neg v wr) (v' : Value) : Made B neg v' (wr.setCell ⟨B + 1, 1, none⟩ v') := by
  obtain ⟨a1, a2, a3, a4, a5, a6, a7, a8⟩ := h
  have o1 : (⟨B + 1, 1, none⟩ : Addr) ≠ ⟨B, 0, none⟩ := by simp
  have o2 : (⟨B + 1, 1, none⟩ : Addr) ≠ ⟨B, 1, none⟩ := by simp
  refine ⟨World.cell?_setCell_same _ _ _ a1, by simpa using a2, (World.cell?_setCell_other _ _ _ _ (by simp)).trans a3, (World.frozen?_setCell _ _ _ _).trans a4, (World.cell?_setCell_other _ _ _ _ o1).trans a5,
    (World.cell?_setCell_other _ _ _ _ o2).trans a6, (World.frozen?_setCell _ _ _ _).trans a7, (World.frozen?_setCell _ _ _ _).trans a8⟩
/-- A row of ints lies in later worlds as long as its block stays. -/
theorem ownsRow_set {b : Nat} {w : World} {v : Value} {n : Nat} {xs : List Value} (h : w.ownsRow b 3 1 v n xs) {a : Addr} (ha : a.block < b) (u : Value) : (w.setCell a u).ownsRow b 3 1 v n xs := ownsRow_setCell_below h ha u
theorem of64_fin {n U : Int} {ds : List Int} {U' : Int} {k : Nat} (hk : k = 4) (HL : Hid (ds.length = k)) (HS : Hid (dv ds + U' * 65536 ^ k = U)) (HD : Hid (IsDig ds)) (hU : U ≤ 9223372036854775808) (h0 : 0 ≤ U') (HU : Hid (sz n = U)) : ds.length = 4 ∧ dv ds = sz n := by
  subst hk
  have h := HS.out
  have e : (65536 : Int) ^ 4 = 18446744073709551616 := by decide
  rw [e] at h
  have := dv_nn HD.out
  refine ⟨HL.out, ?_⟩
  rw [HU.out]
  omega
set_option maxHeartbeats 3200000 in
theorem of64_neg (n : Int) (w : World) (h1 : -9223372036854775808 ≤ n) (h2 : n ≤ 9223372036854775807) (hlt : n < 0) :
    Calls Tryz.prog 68 #[.int .i64 n] w fun e w' => ∃ v ds, e = .returned (.agg #[.bool true, v]) ∧ Below w.heap.size w w' ∧ Dig w' v ds ∧ ds.length = 4 ∧ dv ds = sz n := by
  obtain ⟨i0, hi, hz0, hz1, hz2⟩ := info_parts Tryz.info3
  obtain ⟨U, hU⟩ : ∃ U, -n = U := ⟨_, rfl⟩
  have HU : Hid (sz n = U) := by unfold Hid sz; rw [if_pos hlt]; exact hU
  have hn : 0 ≤ U := by omega
  have hs : U ≤ 9223372036854775808 := by omega
  have hu : IntKind.u64.wrap (-IntKind.u64.wrap n) = U := by rw [← hU, IntKind.wrap_u64, IntKind.wrap_u64]; omega
  clear hU
  go_enter Tryz.func68, Tryz.ntmps68
  go_wp2
  try rw [hu]
  clear hu
  go_loopw [4, 5] (fun u i wr => ∃ k : Nat, ∃ ds : List Int, ∃ U' : Int, ∃ v : Value, k ≤ 4 ∧ i = .int .i64 k ∧ u = .int .u64 U' ∧ 0 ≤ U' ∧ U' ≤ 9223372036854775808 ∧ ds.length = k ∧ IsDig ds ∧ dv ds + U' * 65536 ^ k = U ∧
      wr.ownsRow (w.heap.size + 2) 3 1 v k (ds.map (Value.int .i64)) ∧ Made w.heap.size true v wr ∧ Below w.heap.size w wr)
    (fun _ i _ => 4 - (intOf i).toNat)
  case atStart =>
    refine ⟨0, [], U, .slice none 0 0, by omega, rfl, rfl, hn, hs, rfl, ?_, by simp [dv], World.ownsRow_nil _ _ _ _, ?_, ?_⟩
    · intro d hd; simp at hd
    · unfold Made; simp
    · exact ((Below.refl _ _).alloc (Nat.le_refl _) _).alloc (by simp) _
  case round =>
    obtain ⟨k, ds, U', v, hk, rfl, rfl, u1, u2, hlen, hdig, hsum, hown, hmade, hbel⟩ := hrel
    have HL : Hid (ds.length = k) := hlen
    have HD : Hid (IsDig ds) := hdig
    have HS : Hid (dv ds + U' * 65536 ^ k = U) := hsum
    clear hlen hdig hsum
    have hB := hmade.2.1
    have HM : Hid (Made w.heap.size true v wr) := hmade
    have HV := hmade.1
    clear hmade
    by_cases hlt4 : k < 4
    · go_wp2_with (first
        | (at_builtin; refine wpList_append_own _ rfl _ _ 110 rfl (w.heap.size + 2) 3 i0 (.int .i64 0) 1 8 Tryz.underlying110 hi hz0 hz1 hz2 rfl (by decide) _ _ _ rfl (hown.alloc _) ⟨wr.heap.size, 0, none⟩ 1 1 [.int .i64 (U' % 65536)] rfl rfl ?c1 ?c2 ?c3 ?c4 ?c5 ?_)
        | fail)
      case c1 => exact cell_one_new _ _ _
      case c2 => intro u hu; simp at hu; subst hu; rfl
      case c3 => unfold maxLen; omega
      case c4 => omega
      case c5 => simp; omega
      intro v' w1 hown' hgrow _
      obtain ⟨ad', cap', hv'⟩ := ownsRow_slice hown'
      subst hv'
      have R := app_below hB hown hgrow
      have HM1 := HM.out.below R
      have hfz := HM1.2.2.2.1
      have hcv := HM1.1
      have HM2 : Hid (Made w.heap.size true (.slice ad' (k + 1) cap') (w1.setCell ⟨w.heap.size + 1, 1, none⟩ (.slice ad' (k + 1) cap'))) := HM1.set _
      have hb2 : Below w.heap.size w (w1.setCell ⟨w.heap.size + 1, 1, none⟩ (.slice ad' (k + 1) cap')) := (hbel.trans (R.mono (by omega))).setCell (p := ⟨w.heap.size + 1, 1, none⟩) (by show w.heap.size ≤ w.heap.size + 1; omega) _
      have ho2 := ownsRow_set hown' (a := ⟨w.heap.size + 1, 1, none⟩) (by show w.heap.size + 1 < w.heap.size + 2; omega) (.slice ad' (k + 1) cap')
      clear hown' hgrow hown R HM1 hbel HV
      go_wp2
      go_roundw
      case rel => exact ⟨k + 1, ds ++ [U' % 65536], U' / 65536, _, by omega, by go_num, rfl, by omega, by omega, by have := HL.out; simp; omega, isDig_snoc HD.out (by omega) (by omega), apart_step HL.out HS.out u1, by simpa using ho2, HM2.out, hb2⟩
      case measure => simp [intOf]; omega
    · have hfin := of64_fin (n := n) (by omega) HL HS HD hs u1 HU
      obtain ⟨c1, c2, c3, c4, c5, c6, c7, c8⟩ := HM.out
      have HF : Hid (ds.length = 4 ∧ dv ds = sz n) := hfin
      clear hfin HV
      obtain ⟨ad, cap, hv⟩ := ownsRow_slice hown
      subst hv
      go_wp2
      refine bodyPost_ret (v := .agg #[.bool true, .slice ad k cap]) (by simp [results, Tryz.results68, go_sem, c5, c6]) rfl ⟨_, ds, rfl, ?_, ⟨?_, HD.out⟩, HF.out⟩
      · exact (hbel.setCell (p := ⟨w.heap.size, 0, none⟩) (Nat.le_refl _) _).setCell (p := ⟨w.heap.size, 1, none⟩) (Nat.le_refl _) _
      · rw [HL.out]
        exact ownsRow_low (ownsRow_set (ownsRow_set hown (a := ⟨w.heap.size, 0, none⟩) (by show w.heap.size < w.heap.size + 2; omega) _) (a := ⟨w.heap.size, 1, none⟩) (by show w.heap.size < w.heap.size + 2; omega) _)
set_option maxHeartbeats 3200000 in
theorem of64_pos (n : Int) (w : World) (h1 : -9223372036854775808 ≤ n) (h2 : n ≤ 9223372036854775807) (hlt : ¬ n < 0) :
    Calls Tryz.prog 68 #[.int .i64 n] w fun e w' => ∃ v ds, e = .returned (.agg #[.bool false, v]) ∧ Below w.heap.size w w' ∧ Dig w' v ds ∧ ds.length = 4 ∧ dv ds = sz n := by
  obtain ⟨i0, hi, hz0, hz1, hz2⟩ := info_parts Tryz.info3
  have HU : Hid (sz n = n) := by unfold Hid sz; rw [if_neg hlt]
  have hn : 0 ≤ n := by omega
  have hs : n ≤ 9223372036854775808 := by omega
  go_enter Tryz.func68, Tryz.ntmps68
  go_wp2
  go_loopw [4, 5] (fun u i wr => ∃ k : Nat, ∃ ds : List Int, ∃ U' : Int, ∃ v : Value, k ≤ 4 ∧ i = .int .i64 k ∧ u = .int .u64 U' ∧ 0 ≤ U' ∧ U' ≤ 9223372036854775808 ∧ ds.length = k ∧ IsDig ds ∧ dv ds + U' * 65536 ^ k = n ∧
      wr.ownsRow (w.heap.size + 2) 3 1 v k (ds.map (Value.int .i64)) ∧ Made w.heap.size false v wr ∧ Below w.heap.size w wr)
    (fun _ i _ => 4 - (intOf i).toNat)
  case atStart =>
    refine ⟨0, [], n, .slice none 0 0, by omega, rfl, rfl, hn, hs, rfl, ?_, by simp [dv], World.ownsRow_nil _ _ _ _, ?_, ?_⟩
    · intro d hd; simp at hd
    · unfold Made; simp
    · exact ((Below.refl _ _).alloc (Nat.le_refl _) _).alloc (by simp) _
  case round =>
    obtain ⟨k, ds, U', v, hk, rfl, rfl, u1, u2, hlen, hdig, hsum, hown, hmade, hbel⟩ := hrel
    have HL : Hid (ds.length = k) := hlen
    have HD : Hid (IsDig ds) := hdig
    have HS : Hid (dv ds + U' * 65536 ^ k = n) := hsum
    clear hlen hdig hsum
    have hB := hmade.2.1
    have HM : Hid (Made w.heap.size false v wr) := hmade
    have HV := hmade.1
    clear hmade
    by_cases hlt4 : k < 4
    · go_wp2_with (first
        | (at_builtin; refine wpList_append_own _ rfl _ _ 110 rfl (w.heap.size + 2) 3 i0 (.int .i64 0) 1 8 Tryz.underlying110 hi hz0 hz1 hz2 rfl (by decide) _ _ _ rfl (hown.alloc _) ⟨wr.heap.size, 0, none⟩ 1 1 [.int .i64 (U' % 65536)] rfl rfl ?c1 ?c2 ?c3 ?c4 ?c5 ?_)
        | fail)
      case c1 => exact cell_one_new _ _ _
      case c2 => intro u hu; simp at hu; subst hu; rfl
      case c3 => unfold maxLen; omega
      case c4 => omega
      case c5 => simp; omega
      intro v' w1 hown' hgrow _
      obtain ⟨ad', cap', hv'⟩ := ownsRow_slice hown'
      subst hv'
      have R := app_below hB hown hgrow
      have HM1 := HM.out.below R
      have hfz := HM1.2.2.2.1
      have hcv := HM1.1
      have HM2 : Hid (Made w.heap.size false (.slice ad' (k + 1) cap') (w1.setCell ⟨w.heap.size + 1, 1, none⟩ (.slice ad' (k + 1) cap'))) := HM1.set _
      have hb2 : Below w.heap.size w (w1.setCell ⟨w.heap.size + 1, 1, none⟩ (.slice ad' (k + 1) cap')) := (hbel.trans (R.mono (by omega))).setCell (p := ⟨w.heap.size + 1, 1, none⟩) (by show w.heap.size ≤ w.heap.size + 1; omega) _
      have ho2 := ownsRow_set hown' (a := ⟨w.heap.size + 1, 1, none⟩) (by show w.heap.size + 1 < w.heap.size + 2; omega) (.slice ad' (k + 1) cap')
      clear hown' hgrow hown R HM1 hbel HV
      go_wp2
      go_roundw
      case rel => exact ⟨k + 1, ds ++ [U' % 65536], U' / 65536, _, by omega, by go_num, rfl, by omega, by omega, by have := HL.out; simp; omega, isDig_snoc HD.out (by omega) (by omega), apart_step HL.out HS.out u1, by simpa using ho2, HM2.out, hb2⟩
      case measure => simp [intOf]; omega
    · have hfin := of64_fin (n := n) (by omega) HL HS HD hs u1 HU
      obtain ⟨c1, c2, c3, c4, c5, c6, c7, c8⟩ := HM.out
      have HF : Hid (ds.length = 4 ∧ dv ds = sz n) := hfin
      clear hfin HV
      obtain ⟨ad, cap, hv⟩ := ownsRow_slice hown
      subst hv
      go_wp2
      refine bodyPost_ret (v := .agg #[.bool false, .slice ad k cap]) (by simp [results, Tryz.results68, go_sem, c5, c6]) rfl ⟨_, ds, rfl, ?_, ⟨?_, HD.out⟩, HF.out⟩
      · exact (hbel.setCell (p := ⟨w.heap.size, 0, none⟩) (Nat.le_refl _) _).setCell (p := ⟨w.heap.size, 1, none⟩) (Nat.le_refl _) _
      · rw [HL.out]
        exact ownsRow_low (ownsRow_set (ownsRow_set hown (a := ⟨w.heap.size, 0, none⟩) (by show w.heap.size < w.heap.size + 2; omega) _) (a := ⟨w.heap.size, 1, none⟩) (by show w.heap.size < w.heap.size + 2; omega) _)
theorem of64_any (n : Int) (w : World) (h1 : -9223372036854775808 ≤ n) (h2 : n ≤ 9223372036854775807) :
    Calls Tryz.prog 68 #[.int .i64 n] w fun e w' => ∃ v ds, e = .returned (.agg #[.bool (decide (n < 0)), v]) ∧ Below w.heap.size w w' ∧ Dig w' v ds ∧ ds.length = 4 ∧ dv ds = sz n := by
  by_cases h : n < 0
  · rw [decide_eq_true h]; exact of64_neg n w h1 h2 h
  · rw [decide_eq_false h]; exact of64_pos n w h1 h2 h
theorem isDig_drop {ds : List Int} (h : IsDig ds) (k : Nat) : IsDig (ds.drop k) := fun d hd => h d (List.mem_of_mem_drop hd)
theorem dv_drop {ds : List Int} {m : Nat} (h : m < ds.length) : dv (ds.drop m) = ds.getD m 0 + 65536 * dv (ds.drop (m + 1)) := by
  have e : ds.getD m 0 = ds[m] := by simp [List.getD, h]
  rw [List.drop_eq_getElem_cons h, e]
  simp [dv]
theorem dv_big {ds : List Int} (h : IsDig ds) (k : Nat) (hb : 281474976710655 < dv (ds.drop (k + 1))) : 18446744073709551615 < dv ds := by
  induction k with
  | zero =>
    cases ds with
    | nil => simp [dv] at hb
    | cons a r =>
      have := h a (by simp)
      simp only [List.drop_succ_cons, List.drop_zero] at hb
      simp only [dv]; omega
  | succ k ih =>
    apply ih
    by_cases hl : k + 1 < ds.length
    · rw [dv_drop hl]
      have := isDig_getD h (k + 1)
      omega
    · rw [List.drop_eq_nil_of_le (by omega)] at hb
      simp [dv] at hb
theorem neg_back {U : Int} (h1 : 0 ≤ U) (h2 : U ≤ 9223372036854775808) : wrap64 (IntKind.u64.wrap (-U)) = -U := by rw [IntKind.wrap_u64]; unfold wrap64; omega
def sg (neg : Bool) (n : Int) : Int := if neg then -n else n
set_option maxHeartbeats 1600000 in
theorem to64_any (neg : Bool) (v : Value) (ds : List Int) (w : World) (hd : Dig w v ds) :
    Calls Tryz.prog 112 #[.agg #[.bool neg, v]] w fun e w' => e = .returned (.tuple #[.int .i64 (fitN (sg neg (dv ds))), .int .i64 (fitE (sg neg (dv ds)))]) ∧ Below w.heap.size w w' := by
  have hnn := dv_nn hd.2
  have hdig := hd.2
  rcases hd.cases with ⟨rfl, rfl⟩ | ⟨g, cap, rfl, hg, hc1, hc2, hc⟩
  · have e : sg neg (dv []) = 0 := by cases neg <;> simp [sg, dv]
    rw [e, fit_zero.1, fit_zero.2]
    clear hd hdig hnn e
    cases neg
    all_goals
      go_enter Tryz.func112, Tryz.ntmps112
      go_wp2
      refine wp_loop_rounds 1 ?_
      rw [rounds_succ]
      go_wp2
      go_ret2
      exact ⟨rfl, (Below.refl _ _).alloc (Nat.le_refl _) _⟩
  · unfold maxLen at hc2
    have HC : Hid (∀ j, j < ds.length → w.cell? ⟨g, j, none⟩ = some (.int .i64 (ds.getD j 0))) := hc
    have HD : Hid (IsDig ds) := hdig
    clear hc hdig hd
    go_enter Tryz.func112, Tryz.ntmps112
    go_wp2
    go_loop [4, 5] (fun u i => ∃ k : Nat, ∃ U : Int, k ≤ ds.length ∧ i = .int .i64 ((k : Int) - 1) ∧ u = .int .u64 U ∧ 0 ≤ U ∧ U ≤ 18446744073709551615 ∧ U = dv (ds.drop k)) (fun _ i => (intOf i + 1).toNat)
    case atStart => exact ⟨ds.length, 0, Nat.le_refl _, rfl, rfl, by omega, by omega, by rw [List.drop_length]; rfl⟩
    case round =>
      obtain ⟨k, U, hk, rfl, rfl, hu1, hu2, hU⟩ := hrel
      have HU : Hid (U = dv (ds.drop k)) := hU
      clear hU
      cases k with
      | zero =>
        have e0 : ((0 : Nat) : Int) - 1 = -1 := by omega
        rw [e0]
        clear e0
        have HX : Hid (dv ds = U) := by have := HU.out; rw [List.drop_zero] at this; exact this.symm
        by_cases hw : 9223372036854775808 < U
        · have HO : Hid (fitN (sg neg (dv ds)) = 0 ∧ fitE (sg neg (dv ds)) = 120) := by
            unfold Hid; rw [HX.out]; apply fit_out; unfold sg; split <;> omega
          go_wp2
          go_ret2
          exact ⟨ret_ii HO.out.1.symm HO.out.2.symm, (Below.refl _ _).alloc (Nat.le_refl _) _⟩
        · cases neg with
          | true =>
            have HO : Hid (fitN (sg true (dv ds)) = -U ∧ fitE (sg true (dv ds)) = 0) := by
              unfold Hid; rw [HX.out, show sg true U = -U from rfl]; apply fit_in <;> omega
            by_cases he : U = 9223372036854775808
            · have he2 : (U == 9223372036854775808) = true := beq_iff_eq.2 he
              clear he
              go_wp2
              go_ret2
              exact ⟨ret_ii ((neg_back hu1 (by omega)).trans HO.out.1.symm) HO.out.2.symm, (Below.refl _ _).alloc (Nat.le_refl _) _⟩
            · have he2 : (U == 9223372036854775808) = false := beq_eq_false_iff_ne.2 he
              clear he
              go_wp2
              go_ret2
              exact ⟨ret_ii ((neg_back hu1 (by omega)).trans HO.out.1.symm) HO.out.2.symm, (Below.refl _ _).alloc (Nat.le_refl _) _⟩
          | false =>
            by_cases he : U = 9223372036854775808
            · have he2 : (U == 9223372036854775808) = true := beq_iff_eq.2 he
              have HO : Hid (fitN (sg false (dv ds)) = 0 ∧ fitE (sg false (dv ds)) = 120) := by
                unfold Hid; rw [HX.out, show sg false U = U from rfl]; apply fit_out; omega
              clear he
              go_wp2
              go_ret2
              exact ⟨ret_ii HO.out.1.symm HO.out.2.symm, (Below.refl _ _).alloc (Nat.le_refl _) _⟩
            · have he2 : (U == 9223372036854775808) = false := beq_eq_false_iff_ne.2 he
              have he3 : U ≤ 9223372036854775807 := by omega
              have HO : Hid (fitN (sg false (dv ds)) = U ∧ fitE (sg false (dv ds)) = 0) := by
                unfold Hid; rw [HX.out, show sg false U = U from rfl]; apply fit_in <;> omega
              clear he hw
              go_wp2
              go_ret2
              exact ⟨ret_ii HO.out.1.symm HO.out.2.symm, (Below.refl _ _).alloc (Nat.le_refl _) _⟩
      | succ m =>
        have e0 : ((m + 1 : Nat) : Int) - 1 = (m : Int) := by omega
        rw [e0]
        clear e0
        by_cases hbig : 281474976710655 < U
        · have HO : Hid (fitN (sg neg (dv ds)) = 0 ∧ fitE (sg neg (dv ds)) = 120) := by
            have := dv_big HD.out m (by rw [← HU.out]; exact hbig)
            unfold Hid; apply fit_out; unfold sg; split <;> omega
          go_wp2
          go_ret2
          exact ⟨ret_ii HO.out.1.symm HO.out.2.symm, (Below.refl _ _).alloc (Nat.le_refl _) _⟩
        · have hcx : w.cell? ⟨g, m, none⟩ = some (.int .i64 (ds.getD m 0)) := HC.out m (by omega)
          have hdx := isDig_getD HD.out m
          have HV : Hid (dv (ds.drop m) = ds.getD m 0 + 65536 * dv (ds.drop (m + 1))) := dv_drop (by omega)
          generalize ds.getD m 0 = z at hcx hdx HV
          obtain ⟨z1, z2⟩ := hdx
          go_wp2
          go_round
          case rel => exact ⟨m, U * 65536 + z, by omega, by go_num, rfl, by omega, by omega, by rw [HV.out, ← HU.out]; omega⟩
          case measure => simp [intOf]
def WideSays (w : World) (N : Int) (L : Nat) (e : Ending) (w' : World) : Prop :=
  ∃ neg v os, e = .returned (.agg #[.bool neg, v]) ∧ Below w.heap.size w w' ∧ Dig w' v os ∧ os.length ≤ L ∧ sg neg (dv os) = N
theorem sg_sz (a : Int) : sg (decide (a < 0)) (sz a) = a := by
  by_cases h : a < 0 <;> simp [sg, sz, h]
/-- A slice that a call has made: its value. -/
theorem Dig.slice {w : World} {v : Value} {ds : List Int} (h : Dig w v ds) : ∃ ad cap, v = .slice ad ds.length cap := ownsRow_slice h.1
theorem pow_pos' (k : Nat) : (0 : Int) < 65536 ^ k := by
  induction k with
  | zero => simp
  | succ k ih => rw [Int.pow_succ]; omega
theorem dv_take_succ (ds : List Int) (k : Nat) : dv (ds.take (k + 1)) = dv (ds.take k) + 65536 ^ k * ds.getD k 0 := by
  by_cases h : k < ds.length
  · have e : ds.getD k 0 = ds[k] := by simp [List.getD, h]
    have el : (ds.take k).length = k := by simp; omega
    rw [List.take_succ_eq_append_getElem h, dv_snoc, e, el]
  · rw [List.take_of_length_le (by omega), List.take_of_length_le (by omega), getD_out (by omega)]; simp
theorem dv_lt_pow {ds : List Int} (h : IsDig ds) : dv ds < 65536 ^ ds.length := by
  induction ds with
  | nil => simp [dv]
  | cons a r ih =>
    have h1 := h a (by simp)
    have h2 := ih fun d hd => h d (by simp [hd])
    simp only [dv, List.length_cons, Int.pow_succ]
    omega
theorem make9 (w : World) : (Instr.makeSlice 110 (.int .i64 9) (.int .i64 9)).run Tryz.prog w = .ok (.slice (some ⟨w.heap.size, 0, none⟩) 9 9) (w.alloc (.cells #[.int .i64 0, .int .i64 0, .int .i64 0, .int .i64 0, .int .i64 0, .int .i64 0, .int .i64 0, .int .i64 0, .int .i64 0] 3)) := by kernel_rfl
theorem dv_set {os : List Int} (j : Nat) (d : Int) (h : j < os.length) : dv (os.set j d) = dv os + (d - os.getD j 0) * 65536 ^ j := by
  induction os generalizing j with
  | nil => simp at h
  | cons a r ih =>
    cases j with
    | zero => simp only [List.set_cons_zero, dv, List.getD_cons_zero, Int.pow_zero]; omega
    | succ j =>
      simp only [List.set_cons_succ, dv, List.getD_cons_succ, Int.pow_succ]
      rw [ih j (by simp at h; omega), Int.mul_add, ← Int.mul_assoc, Int.mul_comm 65536 (d - _), Int.mul_assoc, Int.mul_comm 65536 (65536 ^ j)]
      omega
theorem isDig_set {os : List Int} {j : Nat} {d : Int} (h : IsDig os) (h1 : 0 ≤ d) (h2 : d ≤ 65535) : IsDig (os.set j d) := by
  intro x hx
  rcases List.mem_or_eq_of_mem_set hx with hx | rfl
  · exact h x hx
  · exact ⟨h1, h2⟩
theorem dv_split (es : List Int) (k : Nat) : dv es = dv (es.take k) + 65536 ^ k * dv (es.drop k) := by
  induction k generalizing es with
  | zero => simp [dv]
  | succ k ih =>
    cases es with
    | nil => simp [dv]
    | cons a r =>
      simp only [List.take_succ_cons, List.drop_succ_cons, dv, Int.pow_succ]
      rw [ih r, Int.mul_add, ← Int.mul_assoc, Int.mul_comm 65536 (65536 ^ k)]
      omega
theorem dv_take_le {es : List Int} (h : IsDig es) (k : Nat) : dv (es.take k) ≤ dv es := by
  have h1 := dv_split es k
  have h2 := dv_nn (isDig_drop h k)
  have h3 := Int.mul_nonneg (Int.le_of_lt (pow_pos' k)) h2
  omega
theorem isDig_take {ds : List Int} (h : IsDig ds) (k : Nat) : IsDig (ds.take k) := fun d hd => h d (List.mem_of_mem_take hd)
/-- One carry of a product's digit. -/
theorem carry_step {os : List Int} {s T : Int} {j : Nat} (h : dv os + s * 65536 ^ j = T) (hj : j < os.length) (o : Int) (ho : os.getD j 0 = o) :
    dv (os.set j ((s + o) % 65536)) + (s + o) / 65536 * 65536 ^ (j + 1) = T := by
  rw [dv_set j _ hj, ho, Int.pow_succ, ← h]
  generalize (65536 : Int) ^ j = P
  obtain ⟨q, hq⟩ : ∃ q, s + o = q := ⟨_, rfl⟩
  rw [hq]
  have e : s * P = (q - o) * P := by rw [← hq]; congr 1; omega
  have e2 : (q - o) * P = (q % 65536 - o) * P + q / 65536 * (P * 65536) := by
    have h0 : q - o = (q % 65536 - o) + q / 65536 * 65536 := by omega
    rw [h0, Int.add_mul, Int.mul_assoc, Int.mul_comm 65536 P]
  omega
theorem pow_ge (j : Nat) : (1 : Int) ≤ 65536 ^ j := by have := pow_pos' j; omega
theorem place_lt {D s T : Int} {j : Nat} (h : D + s * 65536 ^ j = T) (hD : 0 ≤ D) (hs : 1 ≤ s) (hT : T < 65536 ^ 9) : j < 9 := by
  by_cases hj : j < 9
  · exact hj
  · have e : j = 9 + (j - 9) := by omega
    have e2 : (65536 : Int) ^ j = 65536 ^ 9 * 65536 ^ (j - 9) := by rw [← Int.pow_add, ← e]
    have h1 := pow_ge (j - 9)
    have h2 : (65536 : Int) ^ 9 * 1 ≤ 65536 ^ 9 * 65536 ^ (j - 9) := Int.mul_le_mul_of_nonneg_left h1 (Int.le_of_lt (pow_pos' 9))
    have h3 : 1 * (65536 : Int) ^ j ≤ s * 65536 ^ j := Int.mul_le_mul_of_nonneg_right hs (Int.le_of_lt (pow_pos' j))
    omega
/-- What is summed so far: all of the first i digits, and the i-th times the first k. -/
def soFar (ds es : List Int) (i k : Nat) : Int := dv (ds.take i) * dv es + ds.getD i 0 * 65536 ^ i * dv (es.take k)
theorem soFar_zero (ds es : List Int) (i : Nat) : soFar ds es i 0 = dv (ds.take i) * dv es := by simp [soFar, dv]
theorem soFar_next {ds es : List Int} {i k : Nat} : soFar ds es i (k + 1) = soFar ds es i k + ds.getD i 0 * es.getD k 0 * 65536 ^ (i + k) := by
  unfold soFar
  rw [dv_take_succ, Int.pow_add, Int.mul_add]
  generalize ds.getD i 0 = x
  generalize es.getD k 0 = y
  generalize (65536 : Int) ^ i = P
  generalize (65536 : Int) ^ k = Q
  have e : x * P * (Q * y) = x * y * (P * Q) := by
    rw [Int.mul_comm Q y, ← Int.mul_assoc, Int.mul_assoc x P y, Int.mul_comm P y, ← Int.mul_assoc, Int.mul_assoc]
  omega
theorem soFar_end {ds es : List Int} {i : Nat} (h : es.length = 4) : soFar ds es i 4 = soFar ds es (i + 1) 0 := by
  rw [soFar_zero]
  unfold soFar
  rw [show es.take 4 = es from List.take_of_length_le (by omega), dv_take_succ ds i, Int.add_mul, Int.mul_comm (65536 ^ i)]
theorem soFar_lt {ds es : List Int} (h1 : IsDig ds) (h2 : IsDig es) (l1 : ds.length = 4) (l2 : es.length = 4) (i k : Nat) : soFar ds es i k < 65536 ^ 9 := by
  have a1 := dv_take_le h2 k
  have a2 := dv_take_le h1 (i + 1)
  have a3 := dv_nn h2
  have a4 := dv_lt_pow h1
  have a5 := dv_lt_pow h2
  have a6 := dv_nn (isDig_take h1 i)
  have a7 := dv_nn (isDig_take h1 (i + 1))
  have a8 := dv_nn h1
  have hx := isDig_getD h1 i
  have hP := Int.mul_nonneg hx.1 (Int.le_of_lt (pow_pos' i))
  have b1 : soFar ds es i k ≤ dv (ds.take (i + 1)) * dv es := by
    unfold soFar
    rw [dv_take_succ, Int.add_mul, Int.mul_comm (65536 ^ i)]
    have := Int.mul_le_mul_of_nonneg_left a1 hP
    omega
  rw [l1] at a4
  rw [l2] at a5
  have e4 : (65536 : Int) ^ 4 = 18446744073709551616 := by decide
  have e9 : (65536 : Int) ^ 9 = 22300745198530623141535718272648361505980416 := by decide
  rw [e4] at a4 a5
  rw [e9]
  have b2 := (mul_le' (c := 18446744073709551615) (d := 18446744073709551615) a7 (by omega) a3 (by omega)).2
  omega
/-- The structs of WideMul and the row of nine digits that is being filled: blocks S and G. -/
structure Nine (B G S : Nat) (va vb : Value) (neg : Bool) (os : List Int) (wr : World) : Prop where
  size : B + 5 ≤ wr.heap.size
  a1 : wr.cell? ⟨B, 1, none⟩ = some va
  b1 : wr.cell? ⟨B + 1, 1, none⟩ = some vb
  r0 : wr.cell? ⟨B + 1 + 1, 0, none⟩ = some (.bool false)
  r1 : wr.cell? ⟨B + 1 + 1, 1, none⟩ = some (.slice none 0 0)
  o0 : wr.cell? ⟨S, 0, none⟩ = some (.bool neg)
  o1 : wr.cell? ⟨S, 1, none⟩ = some (.slice (some ⟨G, 0, none⟩) 9 9)
  fr0 : wr.frozen? ⟨B + 1 + 1, 0, none⟩ = false
  fr1 : wr.frozen? ⟨B + 1 + 1, 1, none⟩ = false
  row : wr.ownsRow 0 3 1 (.slice (some ⟨G, 0, none⟩) 9 9) 9 (os.map (Value.int .i64))
theorem Nine.drewN {B G S : Nat} {va vb : Value} {neg : Bool} {os : List Int} {wr : World} (h : Nine B G S va vb neg os wr) (q : Nat) : Nine B G S va vb neg os (wr.drewN q) :=
  ⟨h.size, h.a1, h.b1, h.r0, h.r1, h.o0, h.o1, h.fr0, h.fr1, h.row⟩
theorem Nine.set {B G S : Nat} {va vb : Value} {neg : Bool} {os : List Int} {wr : World} (h : Nine B G S va vb neg os wr) (hG : B + 1 + 1 < G) (hS : G ≠ S) (j : Nat) (d : Int) : Nine B G S va vb neg (os.set j d) (wr.setCell ⟨G, j, none⟩ (.int .i64 d)) where
  size := by simpa using h.size
  a1 := (World.cell?_setCell_other _ _ _ _ (addr_ne (by omega))).trans h.a1
  b1 := (World.cell?_setCell_other _ _ _ _ (addr_ne (by omega))).trans h.b1
  r0 := (World.cell?_setCell_other _ _ _ _ (addr_ne (by omega))).trans h.r0
  r1 := (World.cell?_setCell_other _ _ _ _ (addr_ne (by omega))).trans h.r1
  o0 := (World.cell?_setCell_other _ _ _ _ (addr_ne hS)).trans h.o0
  o1 := (World.cell?_setCell_other _ _ _ _ (addr_ne hS)).trans h.o1
  fr0 := (World.frozen?_setCell _ _ _ _).trans h.fr0
  fr1 := (World.frozen?_setCell _ _ _ _).trans h.fr1
  row := by have := (h.row.stored j (.int .i64 d)).1; rwa [← List.map_set] at this
theorem Nine.at {B G S : Nat} {va vb : Value} {neg : Bool} {os : List Int} {wr : World} (h : Nine B G S va vb neg os wr) (hl : os.length = 9) (j : Nat) (hj : j < 9) : wr.cell? ⟨G, j, none⟩ = some (.int .i64 (os.getD j 0)) ∧ wr.frozen? ⟨G, j, none⟩ = false := by
  refine ⟨?_, h.row.frozenAt j⟩
  have := h.row.cells (g := G) rfl j (.int .i64 (os[j]'(by omega))) (by simp [show j < os.length by omega])
  rw [add_plain] at this
  simpa [List.getD, show j < os.length by omega] using this
theorem Nine.fin {B G S : Nat} {va vb : Value} {neg : Bool} {os : List Int} {wr : World} {w : World} {N : Int} (h : Nine B G S va vb neg os wr) (hB : B = w.heap.size) (hG : B + 1 + 1 < G) (hl : os.length = 9) (hd : IsDig os) (hb : Below w.heap.size w wr) (hN : sg neg (dv os) = N) :
    WideSays w N 9 (.returned (.agg #[.bool neg, .slice (some ⟨G, 0, none⟩) 9 9])) ((wr.setCell ⟨B + 1 + 1, 0, none⟩ (.bool neg)).setCell ⟨B + 1 + 1, 1, none⟩ (.slice (some ⟨G, 0, none⟩) 9 9)) := by
  subst hB
  refine ⟨neg, _, os, rfl, ?_, ⟨?_, hd⟩, by omega, hN⟩
  · exact (hb.setCell (p := ⟨w.heap.size + 1 + 1, 0, none⟩) (by show w.heap.size ≤ w.heap.size + 1 + 1; omega) _).setCell (p := ⟨w.heap.size + 1 + 1, 1, none⟩) (by show w.heap.size ≤ w.heap.size + 1 + 1; omega) _
  · rw [hl]
    exact ownsRow_setCell_other (ownsRow_setCell_other h.row (a := ⟨w.heap.size + 1 + 1, 0, none⟩) (by simp [Value.ownBlock]; omega) _) (a := ⟨w.heap.size + 1 + 1, 1, none⟩) (by simp [Value.ownBlock]; omega) _
theorem zeros9 : IsDig [0, 0, 0, 0, 0, 0, 0, 0, 0] ∧ dv [0, 0, 0, 0, 0, 0, 0, 0, 0] = 0 := by
  refine ⟨?_, rfl⟩
  intro d hd
  simp at hd
  omega
theorem heap_new (w : World) (o : Obj) (n : Nat) (h : n = w.heap.size) : (w.alloc o).heap[n]? = some o := by subst h; exact Array.getElem?_push_size
theorem nine_start1 (w : World) (na : Bool) (va vb : Value) (neg : Bool) (nb : Bool) : Nine w.heap.size (w.heap.size + 1 + 1 + 1) (w.heap.size + 1 + 1 + 1 + 1) va vb neg [0, 0, 0, 0, 0, 0, 0, 0, 0]
    ((((((w.alloc (.cells #[.bool na, va] 112)).alloc (.cells #[.bool nb, vb] 112)).alloc (.cells #[.bool false, .slice none 0 0] 112)).alloc (.cells #[.int .i64 0, .int .i64 0, .int .i64 0, .int .i64 0, .int .i64 0, .int .i64 0, .int .i64 0, .int .i64 0, .int .i64 0] 3)).alloc (.cells #[.bool neg, .slice (some ⟨w.heap.size + 1 + 1 + 1, 0, none⟩) 9 9] 112)).drew) where
  size := by simp
  a1 := by simp [go_sem]
  b1 := by simp [go_sem]
  r0 := by simp [go_sem]
  r1 := by simp [go_sem]
  o0 := by simp [go_sem]
  o1 := by simp [go_sem]
  fr0 := by simp [go_sem]
  fr1 := by simp [go_sem]
  row := by
    refine ⟨by simp, Or.inr ⟨_, 9, #[.int .i64 0, .int .i64 0, .int .i64 0, .int .i64 0, .int .i64 0, .int .i64 0, .int .i64 0, .int .i64 0, .int .i64 0], rfl, Nat.zero_le _, (Below.heap_alloc _ _ _ (by simp)).trans (heap_new _ _ _ (by simp)), by omega, by unfold maxLen; omega, rfl, rfl⟩⟩
theorem nine_start2 (w : World) (na : Bool) (va vb : Value) (neg : Bool) (nb : Bool) : Nine w.heap.size (w.heap.size + 1 + 1 + 1 + 1) (w.heap.size + 1 + 1 + 1) va vb neg [0, 0, 0, 0, 0, 0, 0, 0, 0]
    ((((((w.alloc (.cells #[.bool na, va] 112)).alloc (.cells #[.bool nb, vb] 112)).alloc (.cells #[.bool false, .slice none 0 0] 112)).alloc (.cells #[.bool neg, .slice (some ⟨w.heap.size + 1 + 1 + 1 + 1, 0, none⟩) 9 9] 112)).alloc (.cells #[.int .i64 0, .int .i64 0, .int .i64 0, .int .i64 0, .int .i64 0, .int .i64 0, .int .i64 0, .int .i64 0, .int .i64 0] 3)).drew) where
  size := by simp
  a1 := by simp [go_sem]
  b1 := by simp [go_sem]
  r0 := by simp [go_sem]
  r1 := by simp [go_sem]
  o0 := by simp [go_sem]
  o1 := by simp [go_sem]
  fr0 := by simp [go_sem]
  fr1 := by simp [go_sem]
  row := by
    refine ⟨by simp, Or.inr ⟨_, 9, #[.int .i64 0, .int .i64 0, .int .i64 0, .int .i64 0, .int .i64 0, .int .i64 0, .int .i64 0, .int .i64 0, .int .i64 0], rfl, Nat.zero_le _, heap_new _ _ _ (by simp), by omega, by unfold maxLen; omega, rfl, rfl⟩⟩
set_option maxHeartbeats 6400000 in
theorem wmul_any (na nb : Bool) (va vb : Value) (ds es : List Int) (w : World) (ha : Dig w va ds) (hb : Dig w vb es) (la : ds.length = 4) (lb : es.length = 4) :
    Calls Tryz.prog 67 #[.agg #[.bool na, va], .agg #[.bool nb, vb]] w fun e w' => WideSays w (sg (!na == nb) (dv ds * dv es)) 9 e w' := by
  have HA : Hid (Dig w va ds) := ha
  have HB : Hid (Dig w vb es) := hb
  rcases ha.cases with ⟨_, h⟩ | ⟨ga, ca, rfl, hga, _, _, hca⟩
  · rw [h] at la; simp at la
  rcases hb.cases with ⟨_, h⟩ | ⟨gb, cb, rfl, hgb, _, _, hcb⟩
  · rw [h] at lb; simp at lb
  rw [la, lb]
  rw [la] at hca
  rw [lb] at hcb
  have HCA := hidden hca
  have HCB := hidden hcb
  have LA := hidden la
  have LB := hidden lb
  clear ha hb la lb hca hcb
  have hmk := make9
  obtain ⟨neg, hneg⟩ : ∃ b, (!na == nb) = b := ⟨_, rfl⟩
  rw [hneg]
  go_enter Tryz.func67, Tryz.ntmps67
  go_wp2
  go_region
  all_goals try rw [hneg]
  all_goals clear hneg
  · clear hmk
    go_wp2
    go_loopw [6] (fun i wr => ∃ a : Nat, ∃ os : List Int, a ≤ 4 ∧ i = .int .i64 a ∧ os.length = 9 ∧ IsDig os ∧ dv os = soFar ds es a 0 ∧ Nine w.heap.size (w.heap.size + 1 + 1 + 1) (w.heap.size + 1 + 1 + 1 + 1) (.slice (some ⟨ga, 0, none⟩) 4 ca) (.slice (some ⟨gb, 0, none⟩) 4 cb) neg os wr ∧ Below w.heap.size w wr) (fun i _ => 4 - (intOf i).toNat)
    case atStart =>
      exact ⟨0, [0, 0, 0, 0, 0, 0, 0, 0, 0], by omega, rfl, rfl, zeros9.1, by rw [soFar_zero, zeros9.2]; simp [dv], nine_start1 w _ _ _ neg _, ((((((Below.refl _ _).alloc (Nat.le_refl _) _).alloc (by simp) _).alloc (by simp; omega) _).alloc (by simp; omega) _).alloc (by simp; omega) _).drew⟩
    case round =>
      obtain ⟨a, os, ha4, rfl, hl, hdig, hsum, hnine, hbel⟩ := hrel
      have HL := hidden hl
      have HD := hidden hdig
      have HS := hidden hsum
      have HN := hidden hnine
      obtain ⟨f1, f2, f3, f4, f5, f6, f7, f8, f9, f10⟩ := hnine
      clear hl hdig hsum f10
      by_cases hlt : a < 4
      · go_wp2
        clear f1 f2 f3 f4 f5 f6 f7 f8 f9
        go_loopw [7] (fun i wr => ∃ b : Nat, ∃ os : List Int, b ≤ 4 ∧ i = .int .i64 b ∧ os.length = 9 ∧ IsDig os ∧ dv os = soFar ds es a b ∧ Nine w.heap.size (w.heap.size + 1 + 1 + 1) (w.heap.size + 1 + 1 + 1 + 1) (.slice (some ⟨ga, 0, none⟩) 4 ca) (.slice (some ⟨gb, 0, none⟩) 4 cb) neg os wr ∧ Below w.heap.size w wr) (fun i _ => 4 - (intOf i).toNat)
        case atStart => exact ⟨0, os, by omega, rfl, HL.out, HD.out, HS.out, HN.out, hbel⟩
        case round =>
          clear HL HD HS HN hbel os
          obtain ⟨b, os, hb4, rfl, hl, hdig, hsum, hnine, hbel⟩ := hrel
          have HL := hidden hl
          have HD := hidden hdig
          have HS := hidden hsum
          have HN := hidden hnine
          obtain ⟨f1, f2, f3, f4, f5, f6, f7, f8, f9, f10⟩ := hnine
          clear hl hdig hsum f10
          by_cases hlt2 : b < 4
          · have hx := (hbel.cell (p := ⟨ga, a, none⟩) hga).trans (HCA.out a hlt)
            have hy := (hbel.cell (p := ⟨gb, b, none⟩) hgb).trans (HCB.out b hlt2)
            have xb := isDig_getD HA.out.2 a
            have yb := isDig_getD HB.out.2 b
            have HT := hidden (soFar_next (ds := ds) (es := es) (i := a) (k := b))
            have HTL := hidden (soFar_lt HA.out.2 HB.out.2 LA.out LB.out a (b + 1))
            generalize ds.getD a 0 = x at hx xb HT
            generalize es.getD b 0 = y at hy yb HT
            have hxy := mul_le' (c := 65535) (d := 65535) xb.1 xb.2 yb.1 yb.2
            obtain ⟨p1, p2⟩ := hxy
            obtain ⟨x1, x2⟩ := xb
            obtain ⟨y1, y2⟩ := yb
            go_wp2
            go_quiet (fail)
            go_wp2
            clear f1 f2 f3 f4 f5 f6 f7 f8 f9 hx hy
            generalize hP : x * y = P at *
            have HP := hidden hP
            clear hP
            go_loopw [8, 9] (fun sv av wr => ∃ s : Int, ∃ t : Nat, ∃ os : List Int, sv = .int .i64 s ∧ av = .int .i64 t ∧ 0 ≤ s ∧ s ≤ 4294836225 ∧ t ≤ 100 ∧ os.length = 9 ∧ IsDig os ∧ dv os + s * 65536 ^ t = soFar ds es a (b + 1) ∧ Nine w.heap.size (w.heap.size + 1 + 1 + 1) (w.heap.size + 1 + 1 + 1 + 1) (.slice (some ⟨ga, 0, none⟩) 4 ca) (.slice (some ⟨gb, 0, none⟩) 4 cb) neg os wr ∧ Below w.heap.size w wr) (fun _ av _ => 100 - (intOf av).toNat)
            case atStart => exact ⟨P, a + b, os, rfl, by go_num, by omega, by omega, by omega, HL.out, HD.out, by rw [HT.out, HS.out], HN.out.drewN _, below_drewN hbel _⟩
            case round =>
              clear HL HD HS HN hbel os
              obtain ⟨s, t, os, rfl, rfl, s1, s2, ht, hl, hdig, hsum, hnine, hbel⟩ := hrel
              have HL := hidden hl
              have HD := hidden hdig
              have HS := hidden hsum
              have HN := hidden hnine
              obtain ⟨f1, f2, f3, f4, f5, f6, f7, f8, f9, f10⟩ := hnine
              by_cases hs0 : 0 < s
              · have ht9 : t < 9 := place_lt hsum (dv_nn hdig) (by omega) HTL.out
                have hat := HN.out.at HL.out t ht9
                have ob := isDig_getD HD.out t
                have HST := hidden (carry_step hsum (by rw [hl]; exact ht9) (os.getD t 0) rfl)
                generalize hO : os.getD t 0 = o at hat ob HST
                have HSE := hidden (HN.out.set (by omega) (by omega) t ((s + o) % 65536))
                obtain ⟨a1, a2⟩ := hat
                obtain ⟨o1, o2⟩ := ob
                clear hl hdig hsum f10 hO
                have hb2 : Below w.heap.size w (wr.setCell ⟨w.heap.size + 1 + 1 + 1, t, none⟩ (.int .i64 ((s + o) % 65536))) := hbel.setCell (p := ⟨w.heap.size + 1 + 1 + 1, t, none⟩) (by show w.heap.size ≤ w.heap.size + 1 + 1 + 1; omega) _
                go_wp2
                go_roundw
                case rel => exact ⟨(s + o) / 65536, t + 1, os.set t ((s + o) % 65536), rfl, by go_num, by omega, by omega, by omega, by rw [List.length_set]; exact HL.out, isDig_set HD.out (by omega) (by omega), HST.out, HSE.out, hb2⟩
                case measure => simp [intOf]; omega
              · clear hl hdig hsum f10
                go_wp2
                go_roundw
                case rel => exact ⟨b + 1, os, by omega, by go_num, HL.out, HD.out, by have := HS.out; rw [show s = 0 by omega] at this; simpa using this, HN.out, hbel⟩
                case measure => simp [intOf]; omega
          · go_wp2
            go_roundw
            case rel => exact ⟨a + 1, os, by omega, by go_num, HL.out, HD.out, by have := HS.out; rw [show b = 4 by omega, soFar_end LB.out] at this; exact this, HN.out, hbel⟩
            case measure => simp [intOf]; omega
      · have HFI := hidden (HN.out.fin (w := w) (N := sg neg (dv ds * dv es)) rfl (by omega) HL.out HD.out hbel (by rw [HS.out, show a = 4 by omega, soFar_zero, List.take_of_length_le (by have := LA.out; omega)]))
        go_wp2
        exact bodyPost_ret (v := .agg #[.bool neg, .slice (some ⟨w.heap.size + 1 + 1 + 1, 0, none⟩) 9 9]) (by simp [results, Tryz.results67, go_sem, f4, f5]) rfl HFI.out
  · clear hmk
    go_wp2
    go_loopw [6] (fun i wr => ∃ a : Nat, ∃ os : List Int, a ≤ 4 ∧ i = .int .i64 a ∧ os.length = 9 ∧ IsDig os ∧ dv os = soFar ds es a 0 ∧ Nine w.heap.size (w.heap.size + 1 + 1 + 1 + 1) (w.heap.size + 1 + 1 + 1) (.slice (some ⟨ga, 0, none⟩) 4 ca) (.slice (some ⟨gb, 0, none⟩) 4 cb) neg os wr ∧ Below w.heap.size w wr) (fun i _ => 4 - (intOf i).toNat)
    case atStart =>
      exact ⟨0, [0, 0, 0, 0, 0, 0, 0, 0, 0], by omega, rfl, rfl, zeros9.1, by rw [soFar_zero, zeros9.2]; simp [dv], nine_start2 w _ _ _ neg _, ((((((Below.refl _ _).alloc (Nat.le_refl _) _).alloc (by simp) _).alloc (by simp; omega) _).alloc (by simp; omega) _).alloc (by simp; omega) _).drew⟩
    case round =>
      obtain ⟨a, os, ha4, rfl, hl, hdig, hsum, hnine, hbel⟩ := hrel
      have HL := hidden hl
      have HD := hidden hdig
      have HS := hidden hsum
      have HN := hidden hnine
      obtain ⟨f1, f2, f3, f4, f5, f6, f7, f8, f9, f10⟩ := hnine
      clear hl hdig hsum f10
      by_cases hlt : a < 4
      · go_wp2
        clear f1 f2 f3 f4 f5 f6 f7 f8 f9
        go_loopw [7] (fun i wr => ∃ b : Nat, ∃ os : List Int, b ≤ 4 ∧ i = .int .i64 b ∧ os.length = 9 ∧ IsDig os ∧ dv os = soFar ds es a b ∧ Nine w.heap.size (w.heap.size + 1 + 1 + 1 + 1) (w.heap.size + 1 + 1 + 1) (.slice (some ⟨ga, 0, none⟩) 4 ca) (.slice (some ⟨gb, 0, none⟩) 4 cb) neg os wr ∧ Below w.heap.size w wr) (fun i _ => 4 - (intOf i).toNat)
        case atStart => exact ⟨0, os, by omega, rfl, HL.out, HD.out, HS.out, HN.out, hbel⟩
        case round =>
          clear HL HD HS HN hbel os
          obtain ⟨b, os, hb4, rfl, hl, hdig, hsum, hnine, hbel⟩ := hrel
          have HL := hidden hl
          have HD := hidden hdig
          have HS := hidden hsum
          have HN := hidden hnine
          obtain ⟨f1, f2, f3, f4, f5, f6, f7, f8, f9, f10⟩ := hnine
          clear hl hdig hsum f10
          by_cases hlt2 : b < 4
          · have hx := (hbel.cell (p := ⟨ga, a, none⟩) hga).trans (HCA.out a hlt)
            have hy := (hbel.cell (p := ⟨gb, b, none⟩) hgb).trans (HCB.out b hlt2)
            have xb := isDig_getD HA.out.2 a
            have yb := isDig_getD HB.out.2 b
            have HT := hidden (soFar_next (ds := ds) (es := es) (i := a) (k := b))
            have HTL := hidden (soFar_lt HA.out.2 HB.out.2 LA.out LB.out a (b + 1))
            generalize ds.getD a 0 = x at hx xb HT
            generalize es.getD b 0 = y at hy yb HT
            have hxy := mul_le' (c := 65535) (d := 65535) xb.1 xb.2 yb.1 yb.2
            obtain ⟨p1, p2⟩ := hxy
            obtain ⟨x1, x2⟩ := xb
            obtain ⟨y1, y2⟩ := yb
            go_wp2
            go_quiet (fail)
            go_wp2
            clear f1 f2 f3 f4 f5 f6 f7 f8 f9 hx hy
            generalize hP : x * y = P at *
            have HP := hidden hP
            clear hP
            go_loopw [8, 9] (fun sv av wr => ∃ s : Int, ∃ t : Nat, ∃ os : List Int, sv = .int .i64 s ∧ av = .int .i64 t ∧ 0 ≤ s ∧ s ≤ 4294836225 ∧ t ≤ 100 ∧ os.length = 9 ∧ IsDig os ∧ dv os + s * 65536 ^ t = soFar ds es a (b + 1) ∧ Nine w.heap.size (w.heap.size + 1 + 1 + 1 + 1) (w.heap.size + 1 + 1 + 1) (.slice (some ⟨ga, 0, none⟩) 4 ca) (.slice (some ⟨gb, 0, none⟩) 4 cb) neg os wr ∧ Below w.heap.size w wr) (fun _ av _ => 100 - (intOf av).toNat)
            case atStart => exact ⟨P, a + b, os, rfl, by go_num, by omega, by omega, by omega, HL.out, HD.out, by rw [HT.out, HS.out], HN.out.drewN _, below_drewN hbel _⟩
            case round =>
              clear HL HD HS HN hbel os
              obtain ⟨s, t, os, rfl, rfl, s1, s2, ht, hl, hdig, hsum, hnine, hbel⟩ := hrel
              have HL := hidden hl
              have HD := hidden hdig
              have HS := hidden hsum
              have HN := hidden hnine
              obtain ⟨f1, f2, f3, f4, f5, f6, f7, f8, f9, f10⟩ := hnine
              by_cases hs0 : 0 < s
              · have ht9 : t < 9 := place_lt hsum (dv_nn hdig) (by omega) HTL.out
                have hat := HN.out.at HL.out t ht9
                have ob := isDig_getD HD.out t
                have HST := hidden (carry_step hsum (by rw [hl]; exact ht9) (os.getD t 0) rfl)
                generalize hO : os.getD t 0 = o at hat ob HST
                have HSE := hidden (HN.out.set (by omega) (by omega) t ((s + o) % 65536))
                obtain ⟨a1, a2⟩ := hat
                obtain ⟨o1, o2⟩ := ob
                clear hl hdig hsum f10 hO
                have hb2 : Below w.heap.size w (wr.setCell ⟨w.heap.size + 1 + 1 + 1 + 1, t, none⟩ (.int .i64 ((s + o) % 65536))) := hbel.setCell (p := ⟨w.heap.size + 1 + 1 + 1 + 1, t, none⟩) (by show w.heap.size ≤ w.heap.size + 1 + 1 + 1 + 1; omega) _
                go_wp2
                go_roundw
                case rel => exact ⟨(s + o) / 65536, t + 1, os.set t ((s + o) % 65536), rfl, by go_num, by omega, by omega, by omega, by rw [List.length_set]; exact HL.out, isDig_set HD.out (by omega) (by omega), HST.out, HSE.out, hb2⟩
                case measure => simp [intOf]; omega
              · clear hl hdig hsum f10
                go_wp2
                go_roundw
                case rel => exact ⟨b + 1, os, by omega, by go_num, HL.out, HD.out, by have := HS.out; rw [show s = 0 by omega] at this; simpa using this, HN.out, hbel⟩
                case measure => simp [intOf]; omega
          · go_wp2
            go_roundw
            case rel => exact ⟨a + 1, os, by omega, by go_num, HL.out, HD.out, by have := HS.out; rw [show b = 4 by omega, soFar_end LB.out] at this; exact this, HN.out, hbel⟩
            case measure => simp [intOf]; omega
      · have HFI := hidden (HN.out.fin (w := w) (N := sg neg (dv ds * dv es)) rfl (by omega) HL.out HD.out hbel (by rw [HS.out, show a = 4 by omega, soFar_zero, List.take_of_length_le (by have := LA.out; omega)]))
        go_wp2
        exact bodyPost_ret (v := .agg #[.bool neg, .slice (some ⟨w.heap.size + 1 + 1 + 1 + 1, 0, none⟩) 9 9]) (by simp [results, Tryz.results67, go_sem, f4, f5]) rfl HFI.out
end Go.Proofs.YthfilnflgahcjaaGreatDoor.Wd
