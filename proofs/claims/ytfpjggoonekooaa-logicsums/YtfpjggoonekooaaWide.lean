/- Contracts of the document's numbers of any size: digit, size, Of64, To64. -/
import Derived.Test.YtfpjggoonekooaaParts
namespace Go.Proofs.Ytfpjggoonekooaa
open Go.RowKit Go.WideShapes
set_option linter.unusedVariables false

theorem Try.info3 : (Try.prog.info? 3).map (fun i => (i.zero, i.size, i.bytes)) = some (some (.int .i64 0), 1, 8) := by kernel_rfl

/-- Digits to the base 65536, the lowest first, and the number that they are. -/
def IsDig (ds : List Int) : Prop := ∀ d ∈ ds, 0 ≤ d ∧ d ≤ 65535
def dv : List Int → Int
  | [] => 0
  | d :: r => d + 65536 * dv r

/-- A slice that some call has made holds these digits. -/
def Dig (w : World) (v : Value) (ds : List Int) : Prop := w.ownsRow 0 3 1 v ds.length (ds.map (Value.int .i64)) ∧ IsDig ds

theorem ownsRow_low {base e size n : Nat} {w : World} {v : Value} {xs : List Value} (h : w.ownsRow base e size v n xs) : w.ownsRow 0 e size v n xs := by
  obtain ⟨h1, h2 | ⟨g, cap, cur, rfl, h3, h4⟩⟩ := h
  · exact ⟨h1, Or.inl h2⟩
  · exact ⟨h1, Or.inr ⟨g, cap, cur, rfl, Nat.zero_le _, h4⟩⟩
theorem Dig.later {w w' : World} {v : Value} {ds : List Int} (h : Dig w v ds) (hb : Below w.heap.size w w') : Dig w' v ds := ⟨ownsRow_below h.1 hb, h.2⟩

/-- Such a slice: nothing, or a place and its cells. -/
theorem Dig.cases {w : World} {v : Value} {ds : List Int} (h : Dig w v ds) : (v = .slice none 0 0 ∧ ds = []) ∨
    ∃ g cap, v = .slice (some ⟨g, 0, none⟩) ds.length cap ∧ g < w.heap.size ∧ ds.length ≤ cap ∧ cap ≤ maxLen ∧ ∀ j, j < ds.length → w.cell? ⟨g, j, none⟩ = some (.int .i64 (ds.getD j 0)) := by
  obtain ⟨ho, _⟩ := h
  have ho' := ho
  obtain ⟨h1, ⟨rfl, h2⟩ | ⟨g, cap, cur, rfl, h3, h4, h5, h6, h7⟩⟩ := ho
  · exact Or.inl ⟨rfl, List.length_eq_zero_iff.1 h2⟩
  · refine Or.inr ⟨g, cap, rfl, (ho'.lt g rfl).2, h5, h6, ?_⟩
    intro j hj
    have := ho'.cells (g := g) rfl j (.int .i64 ds[j]) (by simp [hj])
    rw [add_plain] at this
    simpa [List.getD, hj] using this

theorem getD_out {ds : List Int} {i : Nat} (h : ds.length ≤ i) : ds.getD i 0 = 0 := by rw [List.getD_eq_getElem?_getD, List.getElem?_eq_none h]; rfl
theorem isDig_getD {ds : List Int} (h : IsDig ds) (i : Nat) : 0 ≤ ds.getD i 0 ∧ ds.getD i 0 ≤ 65535 := by
  by_cases hi : i < ds.length
  · have e : ds.getD i 0 = ds[i] := by simp [List.getD, hi]
    rw [e]; exact h _ (List.getElem_mem hi)
  · have e : ds.getD i 0 = 0 := getD_out (by omega)
    rw [e]; omega

theorem digit_any (v : Value) (ds : List Int) (i : Nat) (w : World) (hd : Dig w v ds) (hi : i ≤ 9223372036854775807) :
    Calls Try.prog 44 #[v, .int .i64 i] w fun e w' => e = .returned (.int .i64 (ds.getD i 0)) ∧ w' = w := by
  rcases hd.cases with ⟨rfl, rfl⟩ | ⟨g, cap, rfl, hg, hc1, hc2, hc⟩
  · go_enter Try.func44, Try.ntmps44
    go_wp2
    go_ret
    exact ⟨rfl, rfl⟩
  · unfold maxLen at hc2
    by_cases hlt : i < ds.length
    · have hcx := hc i hlt
      generalize ds.getD i 0 = z at hcx
      clear hc hd
      go_enter Try.func44, Try.ntmps44
      go_wp2
      go_ret
      exact ⟨rfl, rfl⟩
    · have e : ds.getD i 0 = 0 := getD_out (by omega)
      rw [e]
      clear hc hd e
      go_enter Try.func44, Try.ntmps44
      go_wp2
      go_ret
      exact ⟨rfl, rfl⟩

theorem dv_snoc (ds : List Int) (d : Int) : dv (ds ++ [d]) = dv ds + 65536 ^ ds.length * d := by
  induction ds with
  | nil => simp [dv]
  | cons a r ih =>
    simp only [List.cons_append, dv, ih, List.length_cons, Int.pow_succ, Int.mul_add]
    rw [← Int.mul_assoc, Int.mul_comm 65536 (65536 ^ r.length)]
    omega
theorem dv_nn {ds : List Int} (h : IsDig ds) : 0 ≤ dv ds := by
  induction ds with
  | nil => simp [dv]
  | cons a r ih =>
    have h1 := h a (by simp)
    have h2 := ih fun d hd => h d (by simp [hd])
    simp only [dv]; omega
theorem isDig_snoc {ds : List Int} {d : Int} (h : IsDig ds) (h1 : 0 ≤ d) (h2 : d ≤ 65535) : IsDig (ds ++ [d]) := by
  intro x hx
  simp at hx
  rcases hx with hx | rfl
  · exact h x hx
  · exact ⟨h1, h2⟩

/-- One digit more of a number that is taken apart. -/
theorem apart_step {ds : List Int} {U N : Int} {k : Nat} (hl : ds.length = k) (h : dv ds + U * 65536 ^ k = N) (hU : 0 ≤ U) : dv (ds ++ [U % 65536]) + U / 65536 * 65536 ^ (k + 1) = N := by
  rw [dv_snoc, hl, Int.pow_succ, ← h]
  have e : U = U / 65536 * 65536 + U % 65536 := by omega
  have e2 : U * 65536 ^ k = U / 65536 * (65536 ^ k * 65536) + 65536 ^ k * (U % 65536) := by
    conv => lhs; rw [e]
    rw [Int.add_mul, Int.mul_assoc, Int.mul_comm 65536 (65536 ^ k), Int.mul_comm (U % 65536)]
  omega

/-- A row of ints that the call makes above block b, one more in it: what lies below b stays. -/
theorem app_below {b : Nat} {wr w1 : World} {v : Value} {n : Nat} {xs : List Value} {o : Obj} (hB : b ≤ wr.heap.size) (hown : wr.ownsRow b 3 1 v n xs) (hgrow : (wr.alloc o).grownBy w1 v.ownBlock) : Below b wr w1 :=
  ((Below.refl b wr).alloc hB o).grown hgrow (by simp; omega) (fun j hj => (hown.lt j hj).1)

/-- The struct that is being made, and the one that is handed back: blocks B + 1 and B. -/
def Made (B : Nat) (neg : Bool) (v : Value) (wr : World) : Prop :=
  wr.cell? ⟨B + 1, 1, none⟩ = some v ∧ B + 2 ≤ wr.heap.size ∧ wr.cell? ⟨B + 1, 0, none⟩ = some (.bool neg) ∧ wr.frozen? ⟨B + 1, 1, none⟩ = false ∧ wr.cell? ⟨B, 0, none⟩ = some (.bool false) ∧ wr.cell? ⟨B, 1, none⟩ = some (.slice none 0 0) ∧
  wr.frozen? ⟨B, 0, none⟩ = false ∧ wr.frozen? ⟨B, 1, none⟩ = false

theorem Made.below {B : Nat} {neg : Bool} {v : Value} {wr w1 : World} (h : Made B neg v wr) (hb : Below (B + 2) wr w1) : Made B neg v w1 := by
  obtain ⟨a1, a2, a3, a4, a5, a6, a7, a8⟩ := h
  refine ⟨(hb.cell (p := ⟨B + 1, 1, none⟩) (by show B + 1 < B + 2; omega)).trans a1, Nat.le_trans a2 hb.size, (hb.cell (p := ⟨B + 1, 0, none⟩) (by show B + 1 < B + 2; omega)).trans a3,
    (hb.frozen (p := ⟨B + 1, 1, none⟩) (by show B + 1 < B + 2; omega)).trans a4, (hb.cell (p := ⟨B, 0, none⟩) (by show B < B + 2; omega)).trans a5, (hb.cell (p := ⟨B, 1, none⟩) (by show B < B + 2; omega)).trans a6,
    (hb.frozen (p := ⟨B, 0, none⟩) (by show B < B + 2; omega)).trans a7, (hb.frozen (p := ⟨B, 1, none⟩) (by show B < B + 2; omega)).trans a8⟩
theorem Made.set {B : Nat} {neg : Bool} {v : Value} {wr : World} (h : Made B neg v wr) (v' : Value) : Made B neg v' (wr.setCell ⟨B + 1, 1, none⟩ v') := by
  obtain ⟨a1, a2, a3, a4, a5, a6, a7, a8⟩ := h
  have o1 : (⟨B + 1, 1, none⟩ : Addr) ≠ ⟨B, 0, none⟩ := by simp
  have o2 : (⟨B + 1, 1, none⟩ : Addr) ≠ ⟨B, 1, none⟩ := by simp
  refine ⟨World.cell?_setCell_same _ _ _ a1, by simpa using a2, (World.cell?_setCell_other _ _ _ _ (by simp)).trans a3, (World.frozen?_setCell _ _ _ _).trans a4, (World.cell?_setCell_other _ _ _ _ o1).trans a5,
    (World.cell?_setCell_other _ _ _ _ o2).trans a6, (World.frozen?_setCell _ _ _ _).trans a7, (World.frozen?_setCell _ _ _ _).trans a8⟩

/-- A row of ints lies in later worlds as long as its block stays. -/
theorem ownsRow_set {b : Nat} {w : World} {v : Value} {n : Nat} {xs : List Value} (h : w.ownsRow b 3 1 v n xs) {a : Addr} (ha : a.block < b) (u : Value) : (w.setCell a u).ownsRow b 3 1 v n xs := ownsRow_setCell_below h ha u

theorem of64_fin {n U : Int} {ds : List Int} {U' : Int} {k : Nat} (hk : k = 4) (HL : Hid (ds.length = k)) (HS : Hid (dv ds + U' * 65536 ^ k = U)) (HD : Hid (IsDig ds)) (hU : U ≤ 9223372036854775808) (h0 : 0 ≤ U') (HU : Hid (sz n = U)) : ds.length = 4 ∧ dv ds = sz n := by
  subst hk
  have h := HS.out
  have e : (65536 : Int) ^ 4 = 18446744073709551616 := by decide
  rw [e] at h
  have := dv_nn HD.out
  refine ⟨HL.out, ?_⟩
  rw [HU.out]
  omega

set_option maxHeartbeats 3200000 in
theorem of64_neg (n : Int) (w : World) (h1 : -9223372036854775808 ≤ n) (h2 : n ≤ 9223372036854775807) (hlt : n < 0) :
    Calls Try.prog 40 #[.int .i64 n] w fun e w' => ∃ v ds, e = .returned (.agg #[.bool true, v]) ∧ Below w.heap.size w w' ∧ Dig w' v ds ∧ ds.length = 4 ∧ dv ds = sz n := by
  obtain ⟨i0, hi, hz0, hz1, hz2⟩ := info_parts Try.info3
  obtain ⟨U, hU⟩ : ∃ U, -n = U := ⟨_, rfl⟩
  have HU : Hid (sz n = U) := by unfold Hid sz; rw [if_pos hlt]; exact hU
  have hn : 0 ≤ U := by omega
  have hs : U ≤ 9223372036854775808 := by omega
  have hu : IntKind.u64.wrap (-IntKind.u64.wrap n) = U := by rw [← hU, IntKind.wrap_u64, IntKind.wrap_u64]; omega
  clear hU
  go_enter Try.func40, Try.ntmps40
  go_wp2
  try rw [hu]
  clear hu
  go_loopw [4, 5] (fun u i wr => ∃ k : Nat, ∃ ds : List Int, ∃ U' : Int, ∃ v : Value, k ≤ 4 ∧ i = .int .i64 k ∧ u = .int .u64 U' ∧ 0 ≤ U' ∧ U' ≤ 9223372036854775808 ∧ ds.length = k ∧ IsDig ds ∧ dv ds + U' * 65536 ^ k = U ∧
      wr.ownsRow (w.heap.size + 2) 3 1 v k (ds.map (Value.int .i64)) ∧ Made w.heap.size true v wr ∧ Below w.heap.size w wr)
    (fun _ i _ => 4 - (intOf i).toNat)
  case atStart =>
    refine ⟨0, [], U, .slice none 0 0, by omega, rfl, rfl, hn, hs, rfl, ?_, by simp [dv], World.ownsRow_nil _ _ _ _, ?_, ?_⟩
    · intro d hd; simp at hd
    · unfold Made; simp
    · exact ((Below.refl _ _).alloc (Nat.le_refl _) _).alloc (by simp) _
  case round =>
    obtain ⟨k, ds, U', v, hk, rfl, rfl, u1, u2, hlen, hdig, hsum, hown, hmade, hbel⟩ := hrel
    have HL : Hid (ds.length = k) := hlen
    have HD : Hid (IsDig ds) := hdig
    have HS : Hid (dv ds + U' * 65536 ^ k = U) := hsum
    clear hlen hdig hsum
    have hB := hmade.2.1
    have HM : Hid (Made w.heap.size true v wr) := hmade
    have HV := hmade.1
    clear hmade
    by_cases hlt4 : k < 4
    · go_wp2_with (first
        | (at_builtin; refine wpList_append_own _ rfl _ _ 56 rfl (w.heap.size + 2) 3 i0 (.int .i64 0) 1 8 Try.underlying56 hi hz0 hz1 hz2 rfl (by decide) _ _ _ rfl (hown.alloc _) ⟨wr.heap.size, 0, none⟩ 1 1 [.int .i64 (U' % 65536)] rfl rfl ?c1 ?c2 ?c3 ?c4 ?c5 ?_)
        | fail)
      case c1 => exact cell_one_new _ _ _
      case c2 => intro u hu; simp at hu; subst hu; rfl
      case c3 => unfold maxLen; omega
      case c4 => omega
      case c5 => simp; omega
      intro v' w1 hown' hgrow _
      obtain ⟨ad', cap', hv'⟩ := ownsRow_slice hown'
      subst hv'
      have R := app_below hB hown hgrow
      have HM1 := HM.out.below R
      have hfz := HM1.2.2.2.1
      have hcv := HM1.1
      have HM2 : Hid (Made w.heap.size true (.slice ad' (k + 1) cap') (w1.setCell ⟨w.heap.size + 1, 1, none⟩ (.slice ad' (k + 1) cap'))) := HM1.set _
      have hb2 : Below w.heap.size w (w1.setCell ⟨w.heap.size + 1, 1, none⟩ (.slice ad' (k + 1) cap')) := (hbel.trans (R.mono (by omega))).setCell (p := ⟨w.heap.size + 1, 1, none⟩) (by show w.heap.size ≤ w.heap.size + 1; omega) _
      have ho2 := ownsRow_set hown' (a := ⟨w.heap.size + 1, 1, none⟩) (by show w.heap.size + 1 < w.heap.size + 2; omega) (.slice ad' (k + 1) cap')
      clear hown' hgrow hown R HM1 hbel HV
      go_wp2
      go_roundw
      case rel => exact ⟨k + 1, ds ++ [U' % 65536], U' / 65536, _, by omega, by go_num, rfl, by omega, by omega, by have := HL.out; simp; omega, isDig_snoc HD.out (by omega) (by omega), apart_step HL.out HS.out u1, by simpa using ho2, HM2.out, hb2⟩
      case measure => simp [intOf]; omega
    · have hfin := of64_fin (n := n) (by omega) HL HS HD hs u1 HU
      obtain ⟨c1, c2, c3, c4, c5, c6, c7, c8⟩ := HM.out
      have HF : Hid (ds.length = 4 ∧ dv ds = sz n) := hfin
      clear hfin HV
      obtain ⟨ad, cap, hv⟩ := ownsRow_slice hown
      subst hv
      go_wp2
      refine bodyPost_ret (v := .agg #[.bool true, .slice ad k cap]) (by simp [results, Try.results40, go_sem, c5, c6]) rfl ⟨_, ds, rfl, ?_, ⟨?_, HD.out⟩, HF.out⟩
      · exact (hbel.setCell (p := ⟨w.heap.size, 0, none⟩) (Nat.le_refl _) _).setCell (p := ⟨w.heap.size, 1, none⟩) (Nat.le_refl _) _
      · rw [HL.out]
        exact ownsRow_low (ownsRow_set (ownsRow_set hown (a := ⟨w.heap.size, 0, none⟩) (by show w.heap.size < w.heap.size + 2; omega) _) (a := ⟨w.heap.size, 1, none⟩) (by show w.heap.size < w.heap.size + 2; omega) _)

set_option maxHeartbeats 3200000 in
theorem of64_pos (n : Int) (w : World) (h1 : -9223372036854775808 ≤ n) (h2 : n ≤ 9223372036854775807) (hlt : ¬ n < 0) :
    Calls Try.prog 40 #[.int .i64 n] w fun e w' => ∃ v ds, e = .returned (.agg #[.bool false, v]) ∧ Below w.heap.size w w' ∧ Dig w' v ds ∧ ds.length = 4 ∧ dv ds = sz n := by
  obtain ⟨i0, hi, hz0, hz1, hz2⟩ := info_parts Try.info3
  have HU : Hid (sz n = n) := by unfold Hid sz; rw [if_neg hlt]
  have hn : 0 ≤ n := by omega
  have hs : n ≤ 9223372036854775808 := by omega
  go_enter Try.func40, Try.ntmps40
  go_wp2
  go_loopw [4, 5] (fun u i wr => ∃ k : Nat, ∃ ds : List Int, ∃ U' : Int, ∃ v : Value, k ≤ 4 ∧ i = .int .i64 k ∧ u = .int .u64 U' ∧ 0 ≤ U' ∧ U' ≤ 9223372036854775808 ∧ ds.length = k ∧ IsDig ds ∧ dv ds + U' * 65536 ^ k = n ∧
      wr.ownsRow (w.heap.size + 2) 3 1 v k (ds.map (Value.int .i64)) ∧ Made w.heap.size false v wr ∧ Below w.heap.size w wr)
    (fun _ i _ => 4 - (intOf i).toNat)
  case atStart =>
    refine ⟨0, [], n, .slice none 0 0, by omega, rfl, rfl, hn, hs, rfl, ?_, by simp [dv], World.ownsRow_nil _ _ _ _, ?_, ?_⟩
    · intro d hd; simp at hd
    · unfold Made; simp
    · exact ((Below.refl _ _).alloc (Nat.le_refl _) _).alloc (by simp) _
  case round =>
    obtain ⟨k, ds, U', v, hk, rfl, rfl, u1, u2, hlen, hdig, hsum, hown, hmade, hbel⟩ := hrel
    have HL : Hid (ds.length = k) := hlen
    have HD : Hid (IsDig ds) := hdig
    have HS : Hid (dv ds + U' * 65536 ^ k = n) := hsum
    clear hlen hdig hsum
    have hB := hmade.2.1
    have HM : Hid (Made w.heap.size false v wr) := hmade
    have HV := hmade.1
    clear hmade
    by_cases hlt4 : k < 4
    · go_wp2_with (first
        | (at_builtin; refine wpList_append_own _ rfl _ _ 56 rfl (w.heap.size + 2) 3 i0 (.int .i64 0) 1 8 Try.underlying56 hi hz0 hz1 hz2 rfl (by decide) _ _ _ rfl (hown.alloc _) ⟨wr.heap.size, 0, none⟩ 1 1 [.int .i64 (U' % 65536)] rfl rfl ?c1 ?c2 ?c3 ?c4 ?c5 ?_)
        | fail)
      case c1 => exact cell_one_new _ _ _
      case c2 => intro u hu; simp at hu; subst hu; rfl
      case c3 => unfold maxLen; omega
      case c4 => omega
      case c5 => simp; omega
      intro v' w1 hown' hgrow _
      obtain ⟨ad', cap', hv'⟩ := ownsRow_slice hown'
      subst hv'
      have R := app_below hB hown hgrow
      have HM1 := HM.out.below R
      have hfz := HM1.2.2.2.1
      have hcv := HM1.1
      have HM2 : Hid (Made w.heap.size false (.slice ad' (k + 1) cap') (w1.setCell ⟨w.heap.size + 1, 1, none⟩ (.slice ad' (k + 1) cap'))) := HM1.set _
      have hb2 : Below w.heap.size w (w1.setCell ⟨w.heap.size + 1, 1, none⟩ (.slice ad' (k + 1) cap')) := (hbel.trans (R.mono (by omega))).setCell (p := ⟨w.heap.size + 1, 1, none⟩) (by show w.heap.size ≤ w.heap.size + 1; omega) _
      have ho2 := ownsRow_set hown' (a := ⟨w.heap.size + 1, 1, none⟩) (by show w.heap.size + 1 < w.heap.size + 2; omega) (.slice ad' (k + 1) cap')
      clear hown' hgrow hown R HM1 hbel HV
      go_wp2
      go_roundw
      case rel => exact ⟨k + 1, ds ++ [U' % 65536], U' / 65536, _, by omega, by go_num, rfl, by omega, by omega, by have := HL.out; simp; omega, isDig_snoc HD.out (by omega) (by omega), apart_step HL.out HS.out u1, by simpa using ho2, HM2.out, hb2⟩
      case measure => simp [intOf]; omega
    · have hfin := of64_fin (n := n) (by omega) HL HS HD hs u1 HU
      obtain ⟨c1, c2, c3, c4, c5, c6, c7, c8⟩ := HM.out
      have HF : Hid (ds.length = 4 ∧ dv ds = sz n) := hfin
      clear hfin HV
      obtain ⟨ad, cap, hv⟩ := ownsRow_slice hown
      subst hv
      go_wp2
      refine bodyPost_ret (v := .agg #[.bool false, .slice ad k cap]) (by simp [results, Try.results40, go_sem, c5, c6]) rfl ⟨_, ds, rfl, ?_, ⟨?_, HD.out⟩, HF.out⟩
      · exact (hbel.setCell (p := ⟨w.heap.size, 0, none⟩) (Nat.le_refl _) _).setCell (p := ⟨w.heap.size, 1, none⟩) (Nat.le_refl _) _
      · rw [HL.out]
        exact ownsRow_low (ownsRow_set (ownsRow_set hown (a := ⟨w.heap.size, 0, none⟩) (by show w.heap.size < w.heap.size + 2; omega) _) (a := ⟨w.heap.size, 1, none⟩) (by show w.heap.size < w.heap.size + 2; omega) _)

theorem of64_any (n : Int) (w : World) (h1 : -9223372036854775808 ≤ n) (h2 : n ≤ 9223372036854775807) :
    Calls Try.prog 40 #[.int .i64 n] w fun e w' => ∃ v ds, e = .returned (.agg #[.bool (decide (n < 0)), v]) ∧ Below w.heap.size w w' ∧ Dig w' v ds ∧ ds.length = 4 ∧ dv ds = sz n := by
  by_cases h : n < 0
  · rw [decide_eq_true h]; exact of64_neg n w h1 h2 h
  · rw [decide_eq_false h]; exact of64_pos n w h1 h2 h
end Go.Proofs.Ytfpjggoonekooaa
