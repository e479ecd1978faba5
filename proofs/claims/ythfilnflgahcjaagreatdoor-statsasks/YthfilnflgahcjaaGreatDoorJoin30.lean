/- The reference's rows: a label's nodes. The reference's Seek. The reference's Ended. -/
import Derived.Test.YthfilnflgahcjaaGreatDoorRcut
import Derived.Test.YthfilnflgahcjaaGreatDoorJoin15
import Derived.Test.YthfilnflgahcjaaGreatDoorJoin1
namespace Go.Proofs.YthfilnflgahcjaaGreatDoor
open Go.RowKit Go.Shelf
set_option linter.unusedVariables false
set_option linter.unusedSimpArgs false
attribute [local go_sem] Oper.semAt_some
theorem str_no {x y : ByteArray} (h : ¬ x = y) : (x.toList == y.toList) = false := beq_eq_false_iff_ne.2 fun e => h (by
  rw [ByteArray.toList_eq, ByteArray.toList_eq] at e
  exact Go.WideShapes.bytes_inj e)
theorem str_yes {x y : ByteArray} (h : x = y) : (x.toList == y.toList) = true := by rw [h]; exact beq_self_eq_true _
/-- What is told of the first row of some. -/
def findF {R : Type} (p : R → Prop) [DecidablePred p] (f : R → Int) : List R → Int
  | [] => 0
  | r :: l => if p r then f r else findF p f l
theorem findF_at {R : Type} {p : R → Prop} [DecidablePred p] {f : R → Int} {l : List R} {j : Nat} {x : R} (h : l[j]? = some x) : findF p f (l.drop j) = if p x then f x else findF p f (l.drop (j + 1)) := by
  obtain ⟨hj, hx⟩ := List.getElem?_eq_some_iff.1 h
  rw [List.drop_eq_getElem_cons hj, hx]; rfl
def rlabI (s : StatP) (lab : ByteArray) : Int := findF (fun r => r.1 = lab) (fun r => cutI r.2) s.labels
set_option maxRecDepth 100000 in
set_option maxHeartbeats 4000000 in
theorem rlab_any (s : StatP) (vl vt ve vk : Value) (lab : ByteArray) (B : Nat) (w : World) (hB : B ≤ w.heap.size) (h : StatL B w vl vt ve vk s) (hlab : okS lab) : Calls Tryz.prog 54 #[statV s vl vt ve vk, .string lab] w fun e w' => e = .returned (.int .i64 (rlabI s lab)) ∧ Below w.heap.size w w' := by
  have HL := hidE h.hl
  have HO := hidE h.ol
  obtain ⟨la, lc, rfl, l1, l2, l3⟩ := h.hl
  obtain ⟨ta, tc, rfl, _⟩ := h.ht
  obtain ⟨ea, ec, rfl, _⟩ := h.he
  obtain ⟨ka, kc, rfl, _⟩ := h.hk
  have H3 := hidE l3
  unfold statV
  obtain ⟨m, hm⟩ : ∃ m, s.labels.length = m := ⟨_, rfl⟩
  have HM := hidE hm
  rw [hm] at l1 ⊢
  obtain ⟨res, hres⟩ : ∃ r, rlabI s lab = r := ⟨_, rfl⟩
  have HR := hidE hres
  rw [hres]
  generalize s.nodes = n at *
  generalize s.rels = r at *
  generalize s.types.length = q2 at *
  generalize s.ends.length = q3 at *
  generalize s.keys.length = q4 at *
  clear h l3 hm hres HL
  go_enter Tryz.func54, Tryz.ntmps54
  go_upto_region 1 with fail
  have HW0 := hidE (below_new w (.cells #[.int .i64 n, .int .i64 r, .slice la m lc, .slice ta q2 tc, .slice ea q3 ec, .slice ka q4 kc] 33))
  have e2 : (w.alloc (.cells #[.int .i64 n, .int .i64 r, .slice la m lc, .slice ta q2 tc, .slice ea q3 ec, .slice ka q4 kc] 33)).cell? ⟨w.heap.size, 2, none⟩ = some (.slice la m lc) := cell_new _ _ _ _ _ rfl
  generalize w.alloc (.cells #[.int .i64 n, .int .i64 r, .slice la m lc, .slice ta q2 tc, .slice ea q3 ec, .slice ka q4 kc] 33) = W1 at *
  go_wp2_with fail
  go_loopw [5] (fun i wr => ∃ (j : Nat), j ≤ m ∧ i = .int .i64 j ∧ findF (fun r : ByteArray × Int => r.1 = lab) (fun r => cutI r.2) (s.labels.drop j) = res ∧ wr = W1) (fun i _ => m - (intOf i).toNat)
  case atStart => exact ⟨0, Nat.zero_le _, rfl, HR.out, rfl⟩
  case round =>
    obtain ⟨j, hj, rfl, hrs, rfl⟩ := hrel
    have HRS := hidE hrs
    clear hrs
    by_cases hlt : j < m
    · have hlt' : (j : Int) < m := by omega
      obtain ⟨⟨x, q⟩, hx⟩ : ∃ q, s.labels[j]? = some q := ⟨_, List.getElem?_eq_getElem (by have := HM.out; omega)⟩
      obtain ⟨bl, off, rfl, hbl, hc⟩ := H3.out.resolve_left (by intro e; rw [e] at hx; simp at hx)
      have c0 := (HW0.out.cell (p := ⟨bl, off + j * 2 + 0, none⟩) (Nat.lt_of_lt_of_le hbl hB)).trans (hc j _ hx 0 _ rfl)
      have c1 := (HW0.out.cell (p := ⟨bl, off + j * 2 + 1, none⟩) (Nat.lt_of_lt_of_le hbl hB)).trans (hc j _ hx 1 _ rfl)
      rw [Nat.add_zero] at c0
      have HE := findF_at (p := fun r : ByteArray × Int => r.1 = lab) (f := fun r => cutI r.2) hx
      rw [HRS.out] at HE
      have HE := hidE HE
      have HC := hidE (fun W => rcut_any q W)
      have hxo := HO.out _ (List.mem_of_getElem? hx)
      simp only at hxo c0 c1
      clear hx hc
      by_cases he : x = lab
      · have HF : Hid (res = cutI q) := by show _ = _; rw [HE.out, if_pos he]
        have hb := str_yes he
        go_wp2_with (go_at_call 53; refine (HC.out _).mono ?_; rintro e _ ⟨rfl, rfl⟩)
        go_ret
        exact ⟨by rw [HF.out]; rfl, HW0.out⟩
      · have HF : Hid (res = findF (fun r : ByteArray × Int => r.1 = lab) (fun r => cutI r.2) (s.labels.drop (j + 1))) := by show _ = _; rw [HE.out, if_neg he]
        have hb := str_no he
        clear he
        go_wp2_with fail
        go_roundw
        case rel => exact ⟨j + 1, by omega, by go_num, HF.out.symm, trivial⟩
        case measure => simp [intOf]; omega
    · have HF : Hid (res = 0) := by
        show _ = _
        rw [← HRS.out, List.drop_of_length_le (by have := HM.out; omega)]
        rfl
      have hlt' : ¬ (j : Int) < m := by omega
      go_wp2_with fail
      go_ret
      exact ⟨by rw [HF.out]; rfl, HW0.out⟩
end Go.Proofs.YthfilnflgahcjaaGreatDoor

namespace Go.Proofs.YthfilnflgahcjaaGreatDoor
open Go.RowKit Go.Shelf
set_option linter.unusedVariables false
set_option linter.unusedSimpArgs false
attribute [local go_sem] Oper.semAt_some
def rseekI (s : StatP) (lab key : ByteArray) : Int := findF (fun r : KeyR => r.1 = lab ∧ r.2.1 = key) (fun r => shareI r.2.2.1 r.2.2.2) s.keys
set_option maxRecDepth 100000 in
set_option maxHeartbeats 4000000 in
theorem rseek_any (s : StatP) (vl vt ve vk : Value) (lab key : ByteArray) (B : Nat) (w : World) (hB : B ≤ w.heap.size) (h : StatL B w vl vt ve vk s) (hlab : okS lab) (hkey : okS key) : Calls Tryz.prog 25 #[statV s vl vt ve vk, .string lab, .string key] w fun e w' => e = .returned (.int .i64 (rseekI s lab key)) ∧ Below w.heap.size w w' := by
  obtain ⟨la, lc, rfl, _⟩ := h.hl
  obtain ⟨ta, tc, rfl, _⟩ := h.ht
  obtain ⟨ea, ec, rfl, _⟩ := h.he
  obtain ⟨ka, kc, rfl, l1, l2, l3⟩ := h.hk
  have H3 := hidE l3
  unfold statV
  obtain ⟨m, hm⟩ : ∃ m, s.keys.length = m := ⟨_, rfl⟩
  have HM := hidE hm
  rw [hm] at l1 ⊢
  obtain ⟨res, hres⟩ : ∃ r, rseekI s lab key = r := ⟨_, rfl⟩
  have HR := hidE hres
  rw [hres]
  generalize s.nodes = n at *
  generalize s.rels = r at *
  generalize s.types.length = q2 at *
  generalize s.ends.length = q3 at *
  generalize s.labels.length = q4 at *
  clear h l3 hm hres
  go_enter Tryz.func25, Tryz.ntmps25
  go_upto_region 1 with fail
  have HW0 := hidE (below_new w (.cells #[.int .i64 n, .int .i64 r, .slice la q4 lc, .slice ta q2 tc, .slice ea q3 ec, .slice ka m kc] 33))
  have e5 : (w.alloc (.cells #[.int .i64 n, .int .i64 r, .slice la q4 lc, .slice ta q2 tc, .slice ea q3 ec, .slice ka m kc] 33)).cell? ⟨w.heap.size, 5, none⟩ = some (.slice ka m kc) := cell_new _ _ _ _ _ rfl
  generalize w.alloc (.cells #[.int .i64 n, .int .i64 r, .slice la q4 lc, .slice ta q2 tc, .slice ea q3 ec, .slice ka m kc] 33) = W1 at *
  go_wp2_with fail
  go_loopw [7] (fun i wr => ∃ (j : Nat), j ≤ m ∧ i = .int .i64 j ∧ findF (fun r : KeyR => r.1 = lab ∧ r.2.1 = key) (fun r => shareI r.2.2.1 r.2.2.2) (s.keys.drop j) = res ∧ wr = W1) (fun i _ => m - (intOf i).toNat)
  case atStart => exact ⟨0, Nat.zero_le _, rfl, HR.out, rfl⟩
  case round =>
    obtain ⟨j, hj, rfl, hrs, rfl⟩ := hrel
    have HRS := hidE hrs
    clear hrs
    by_cases hlt : j < m
    · have hlt' : (j : Int) < m := by omega
      obtain ⟨⟨x, y, p, q⟩, hx⟩ : ∃ q, s.keys[j]? = some q := ⟨_, List.getElem?_eq_getElem (by have := HM.out; omega)⟩
      obtain ⟨bl, off, rfl, hbl, hc⟩ := H3.out.resolve_left (by intro e; rw [e] at hx; simp at hx)
      have c0 := (HW0.out.cell (p := ⟨bl, off + j * 4 + 0, none⟩) (Nat.lt_of_lt_of_le hbl hB)).trans (hc j _ hx 0 _ rfl)
      have c1 := (HW0.out.cell (p := ⟨bl, off + j * 4 + 1, none⟩) (Nat.lt_of_lt_of_le hbl hB)).trans (hc j _ hx 1 _ rfl)
      have c2 := (HW0.out.cell (p := ⟨bl, off + j * 4 + 2, none⟩) (Nat.lt_of_lt_of_le hbl hB)).trans (hc j _ hx 2 _ rfl)
      have c3 := (HW0.out.cell (p := ⟨bl, off + j * 4 + 3, none⟩) (Nat.lt_of_lt_of_le hbl hB)).trans (hc j _ hx 3 _ rfl)
      rw [Nat.add_zero] at c0
      have HE := findF_at (p := fun r : KeyR => r.1 = lab ∧ r.2.1 = key) (f := fun r => shareI r.2.2.1 r.2.2.2) hx
      rw [HRS.out] at HE
      replace HE := hidE HE
      simp only at c0 c1 c2 c3
      clear hx hc
      by_cases he : x = lab ∧ y = key
      · have HF : Hid (res = shareI p q) := by show _ = _; rw [HE.out, if_pos he]
        have hb1 := str_yes he.1
        have hb2 := str_yes he.2
        have HC : Hid (∀ W, Calls Tryz.prog 33 #[.int .i64 p, .int .i64 q] W fun e w' => e = .returned (.int .i64 (shareI p q)) ∧ Below W.heap.size W w') := fun W => (rshare_any p q W).mono fun e w' h => ⟨h.1, by rw [h.2]; exact Below.refl _ _⟩
        generalize shareI p q = sh at *
        clear he
        go_upto_region 5 with fail
        have f5 : ∀ u : Up wr, u.x.cell? ⟨w.heap.size, 5, none⟩ = some (.slice (some ⟨bl, off, none⟩) m kc) := fun u => u.cell e5
        have f2 : ∀ u : Up wr, u.x.cell? ⟨bl, off + j * 4 + 2, none⟩ = some (.int .i64 p) := fun u => u.cell c2
        have f3 : ∀ u : Up wr, u.x.cell? ⟨bl, off + j * 4 + 3, none⟩ = some (.int .i64 q) := fun u => u.cell c3
        have up_ne : Nonempty (Up wr) := ⟨⟨wr, Below.refl _ _⟩⟩
        refine wp_up (by kernel_rfl) (by kernel_rfl) ?_
        repeat (go_big_quiet_step (first | (go_at_call 33; exact Up.call (HC.out _))))
        refine wpQuiet_nil ?_
        rintro w' ⟨⟨W4, hb4⟩, rfl⟩
        have HB4 := hidE (Below.on HW0.out hb4)
        go_wp2_with fail
        go_ret
        exact ⟨by rw [HF.out]; rfl, HB4.out⟩
      · have HF : Hid (res = findF (fun r : KeyR => r.1 = lab ∧ r.2.1 = key) (fun r => shareI r.2.2.1 r.2.2.2) (s.keys.drop (j + 1))) := by show _ = _; rw [HE.out, if_neg he]
        by_cases h1 : x = lab
        · have hb1 := str_yes h1
          have hb2 := str_no (fun h2 => he ⟨h1, h2⟩)
          clear he h1
          go_wp2_with fail
          go_roundw
          case rel => exact ⟨j + 1, by omega, by go_num, HF.out.symm, trivial⟩
          case measure => simp [intOf]; omega
        · have hb1 := str_no h1
          clear he h1
          go_wp2_with fail
          go_roundw
          case rel => exact ⟨j + 1, by omega, by go_num, HF.out.symm, trivial⟩
          case measure => simp [intOf]; omega
    · have HF : Hid (res = 0) := by
        show _ = _
        rw [← HRS.out, List.drop_of_length_le (by have := HM.out; omega)]
        rfl
      have hlt' : ¬ (j : Int) < m := by omega
      go_wp2_with fail
      go_ret
      exact ⟨by rw [HF.out]; rfl, HW0.out⟩
end Go.Proofs.YthfilnflgahcjaaGreatDoor

namespace Go.Proofs.YthfilnflgahcjaaGreatDoor
open Go.RowKit Go.Shelf
set_option linter.unusedVariables false
set_option linter.unusedSimpArgs false
attribute [local go_sem] Oper.semAt_some
def rendI (s : StatP) (kind lab : ByteArray) (out : Bool) : Int := findF (fun r : EndR => r.1 = kind ∧ r.2.1 = lab ∧ r.2.2.1 = out) (fun r => cutI r.2.2.2) s.ends
set_option maxRecDepth 100000 in
set_option maxHeartbeats 4000000 in
theorem rend_any (s : StatP) (vl vt ve vk : Value) (kind lab : ByteArray) (out : Bool) (B : Nat) (w : World) (hB : B ≤ w.heap.size) (h : StatL B w vl vt ve vk s) (hkind : okS kind) (hlab : okS lab) : Calls Tryz.prog 23 #[statV s vl vt ve vk, .string kind, .string lab, .bool out] w fun e w' => e = .returned (.int .i64 (rendI s kind lab out)) ∧ Below w.heap.size w w' := by
  obtain ⟨la, lc, rfl, _⟩ := h.hl
  obtain ⟨ta, tc, rfl, _⟩ := h.ht
  obtain ⟨ea, ec, rfl, l1, l2, l3⟩ := h.he
  obtain ⟨ka, kc, rfl, _⟩ := h.hk
  have H3 := hidE l3
  unfold statV
  obtain ⟨m, hm⟩ : ∃ m, s.ends.length = m := ⟨_, rfl⟩
  have HM := hidE hm
  rw [hm] at l1 ⊢
  obtain ⟨res, hres⟩ : ∃ r, rendI s kind lab out = r := ⟨_, rfl⟩
  have HR := hidE hres
  rw [hres]
  generalize s.nodes = n at *
  generalize s.rels = r at *
  generalize s.types.length = q2 at *
  generalize s.keys.length = q3 at *
  generalize s.labels.length = q4 at *
  clear h l3 hm hres
  go_enter Tryz.func23, Tryz.ntmps23
  go_upto_region 1 with fail
  have HW0 := hidE (below_new w (.cells #[.int .i64 n, .int .i64 r, .slice la q4 lc, .slice ta q2 tc, .slice ea m ec, .slice ka q3 kc] 33))
  have e4 : (w.alloc (.cells #[.int .i64 n, .int .i64 r, .slice la q4 lc, .slice ta q2 tc, .slice ea m ec, .slice ka q3 kc] 33)).cell? ⟨w.heap.size, 4, none⟩ = some (.slice ea m ec) := cell_new _ _ _ _ _ rfl
  have HE4 := hidE e4
  have HSZ : Hid (w.heap.size < (w.alloc (.cells #[.int .i64 n, .int .i64 r, .slice la q4 lc, .slice ta q2 tc, .slice ea m ec, .slice ka q3 kc] 33)).heap.size) := by show _ < _; simp
  generalize w.alloc (.cells #[.int .i64 n, .int .i64 r, .slice la q4 lc, .slice ta q2 tc, .slice ea m ec, .slice ka q3 kc] 33) = W1 at *
  go_wp2_with fail
  clear e4
  go_loopw [9] (fun i wr => ∃ (j : Nat), j ≤ m ∧ i = .int .i64 j ∧ findF (fun r : EndR => r.1 = kind ∧ r.2.1 = lab ∧ r.2.2.1 = out) (fun r => cutI r.2.2.2) (s.ends.drop j) = res ∧ Below W1.heap.size W1 wr) (fun i _ => m - (intOf i).toNat)
  case atStart => exact ⟨0, Nat.zero_le _, rfl, HR.out, Below.refl _ _⟩
  case round =>
    obtain ⟨j, hj, rfl, hrs, hbr⟩ := hrel
    have HRS := hidE hrs
    have HBR := hidE hbr
    have HB1 := hidE (Below.on HW0.out hbr)
    have e4 := (hbr.cell (p := ⟨w.heap.size, 4, none⟩) HSZ.out).trans HE4.out
    clear hrs hbr
    by_cases hlt : j < m
    · have hlt' : (j : Int) < m := by omega
      obtain ⟨⟨x, y, o, q⟩, hx⟩ : ∃ q, s.ends[j]? = some q := ⟨_, List.getElem?_eq_getElem (by have := HM.out; omega)⟩
      obtain ⟨bl, off, rfl, hbl, hc⟩ := H3.out.resolve_left (by intro e; rw [e] at hx; simp at hx)
      have c0 := (HB1.out.cell (p := ⟨bl, off + j * 4 + 0, none⟩) (Nat.lt_of_lt_of_le hbl hB)).trans (hc j _ hx 0 _ rfl)
      have c1 := (HB1.out.cell (p := ⟨bl, off + j * 4 + 1, none⟩) (Nat.lt_of_lt_of_le hbl hB)).trans (hc j _ hx 1 _ rfl)
      have c2 := (HB1.out.cell (p := ⟨bl, off + j * 4 + 2, none⟩) (Nat.lt_of_lt_of_le hbl hB)).trans (hc j _ hx 2 _ rfl)
      have c3 := (HB1.out.cell (p := ⟨bl, off + j * 4 + 3, none⟩) (Nat.lt_of_lt_of_le hbl hB)).trans (hc j _ hx 3 _ rfl)
      rw [Nat.add_zero] at c0
      have HE := findF_at (p := fun r : EndR => r.1 = kind ∧ r.2.1 = lab ∧ r.2.2.1 = out) (f := fun r => cutI r.2.2.2) hx
      rw [HRS.out] at HE
      replace HE := hidE HE
      simp only at c0 c1 c2 c3
      have HC := hidE (fun W => rcut_any q W)
      clear hx hc
      go_upto_region 5 with fail
      have HB2 := hidE (Below.on HB1.out (below_new wr (.cells #[.string x, .string y, .bool o, .int .i64 q] 64)))
      have HB3 := hidE (Below.on HBR.out (below_new wr (.cells #[.string x, .string y, .bool o, .int .i64 q] 64)))
      have d0 : (wr.alloc (.cells #[.string x, .string y, .bool o, .int .i64 q] 64)).cell? ⟨wr.heap.size, 0, none⟩ = some (.string x) := cell_new _ _ _ _ _ rfl
      have d1 : (wr.alloc (.cells #[.string x, .string y, .bool o, .int .i64 q] 64)).cell? ⟨wr.heap.size, 1, none⟩ = some (.string y) := cell_new _ _ _ _ _ rfl
      have d2 : (wr.alloc (.cells #[.string x, .string y, .bool o, .int .i64 q] 64)).cell? ⟨wr.heap.size, 2, none⟩ = some (.bool o) := cell_new _ _ _ _ _ rfl
      have d3 : (wr.alloc (.cells #[.string x, .string y, .bool o, .int .i64 q] 64)).cell? ⟨wr.heap.size, 3, none⟩ = some (.int .i64 q) := cell_new _ _ _ _ _ rfl
      clear c0 c1 c2 c3 e4
      generalize wr.alloc (.cells #[.string x, .string y, .bool o, .int .i64 q] 64) = W2 at *
      by_cases h1 : x = kind
      · have hb1 := str_yes h1
        by_cases h2 : y = lab
        · have hb2 := str_yes h2
          by_cases h3 : o = out
          · have HF : Hid (res = cutI q) := by show _ = _; rw [HE.out, if_pos ⟨h1, h2, h3⟩]
            have hb3 : (o == out) = true := by rw [h3]; exact beq_self_eq_true _
            clear h1 h2 h3
            generalize cutI q = cq at *
            go_wp2_with (go_at_call 53; refine (HC.out _).mono ?_; rintro e _ ⟨rfl, rfl⟩)
            go_ret
            exact ⟨by rw [HF.out]; rfl, HB2.out⟩
          · have HF : Hid (res = findF (fun r : EndR => r.1 = kind ∧ r.2.1 = lab ∧ r.2.2.1 = out) (fun r => cutI r.2.2.2) (s.ends.drop (j + 1))) := by show _ = _; rw [HE.out, if_neg (fun e => h3 e.2.2)]
            have hb3 : (o == out) = false := beq_eq_false_iff_ne.2 h3
            clear h1 h2 h3
            go_wp2_with fail
            go_roundw
            case rel => exact ⟨j + 1, by omega, by go_num, HF.out.symm, HB3.out⟩
            case measure => simp [intOf]; omega
        · have HF : Hid (res = findF (fun r : EndR => r.1 = kind ∧ r.2.1 = lab ∧ r.2.2.1 = out) (fun r => cutI r.2.2.2) (s.ends.drop (j + 1))) := by show _ = _; rw [HE.out, if_neg (fun e => h2 e.2.1)]
          have hb2 := str_no h2
          clear h1 h2
          go_wp2_with fail
          go_roundw
          case rel => exact ⟨j + 1, by omega, by go_num, HF.out.symm, HB3.out⟩
          case measure => simp [intOf]; omega
      · have HF : Hid (res = findF (fun r : EndR => r.1 = kind ∧ r.2.1 = lab ∧ r.2.2.1 = out) (fun r => cutI r.2.2.2) (s.ends.drop (j + 1))) := by show _ = _; rw [HE.out, if_neg (fun e => h1 e.1)]
        have hb1 := str_no h1
        clear h1
        go_wp2_with fail
        go_roundw
        case rel => exact ⟨j + 1, by omega, by go_num, HF.out.symm, HB3.out⟩
        case measure => simp [intOf]; omega
    · have HF : Hid (res = 0) := by
        show _ = _
        rw [← HRS.out, List.drop_of_length_le (by have := HM.out; omega)]
        rfl
      have hlt' : ¬ (j : Int) < m := by omega
      go_wp2_with fail
      go_ret
      exact ⟨by rw [HF.out]; rfl, HB1.out⟩
end Go.Proofs.YthfilnflgahcjaaGreatDoor

