/- The reference's Typed. The reference's Fan. -/
import Derived.Test.YthfilnflgahcjaaGreatDoorRlab
import Derived.Test.YthfilnflgahcjaaGreatDoorJoin9
import Derived.Test.YthfilnflgahcjaaGreatDoorRtim
namespace Go.Proofs.YthfilnflgahcjaaGreatDoor
open Go.RowKit Go.Shelf Go.Maps
set_option linter.unusedVariables false
set_option linter.unusedSimpArgs false
attribute [local go_sem] Oper.semAt_some
theorem srow_take {α : Type} {k : Nat} {enc : α → List Value} {B : Nat} {w : World} {a : Option Addr} {n c : Nat} {xs : List α} (h : SRow k enc B w (.slice a n c) xs) {j : Nat} (hj : j ≤ n) : SRow k enc B w (.slice a j c) (xs.take j) := by
  obtain ⟨a', c', e, h2, h3, h4⟩ := h
  injection e with e1 e2 e3
  subst e1 e2 e3
  have hl : (xs.take j).length = j := by rw [List.length_take]; omega
  refine ⟨a, c, by rw [hl], by rw [hl]; omega, h3, ?_⟩
  rcases h4 with rfl | ⟨bl, off, e, hlt, hc⟩
  · exact .inl (by simp)
  · exact .inr ⟨bl, off, e, hlt, fun i x hx => hc i x (by rw [List.getElem?_take] at hx; split at hx; exact hx; cases hx)⟩
/-- The row of a type. -/
def rowT (x : ByteArray) : List (ByteArray × Int) → List Int
  | [] => []
  | r :: l => if r.1 = x then [r.2] else rowT x l
theorem rowT_at {l : List (ByteArray × Int)} {x y : ByteArray} {q : Int} {j : Nat} (h : l[j]? = some (y, q)) : rowT x (l.drop j) = if y = x then [q] else rowT x (l.drop (j + 1)) := by
  obtain ⟨hj, hx⟩ := List.getElem?_eq_some_iff.1 h
  rw [List.drop_eq_getElem_cons hj, hx]; rfl
/-- Each type's row, once. -/
def typedL (ts : List (ByteArray × Int)) (pre : List ByteArray) : List ByteArray → List Int
  | [] => []
  | x :: l => (if rhasB x pre = true then [] else rowT x ts) ++ typedL ts (pre ++ [x]) l
theorem typedL_at {ts : List (ByteArray × Int)} {l : List ByteArray} {x : ByteArray} {j : Nat} (h : l[j]? = some x) : typedL ts (l.take j) (l.drop j) = (if rhasB x (l.take j) = true then [] else rowT x ts) ++ typedL ts (l.take (j + 1)) (l.drop (j + 1)) := by
  obtain ⟨hj, hx⟩ := List.getElem?_eq_some_iff.1 h
  rw [List.drop_eq_getElem_cons hj, hx, List.take_add_one, h]
  rfl
def rtypedI (s : StatP) (ls : List ByteArray) : Int := if ls = [] then cutI s.rels else plusI (typedL s.types [] ls)
theorem rowT_len (x : ByteArray) : ∀ l, (rowT x l).length ≤ 1
  | [] => by simp [rowT]
  | r :: l => by unfold rowT; split; simp; exact rowT_len x l
set_option maxRecDepth 100000 in
set_option maxHeartbeats 4000000 in
theorem rtyped_any (s : StatP) (vl vt ve vk vs : Value) (ls : List ByteArray) (B : Nat) (w : World) (hB : B ≤ w.heap.size) (h : StatL B w vl vt ve vk s) (hs : SRow 1 strE B w vs ls) (hok : ∀ x ∈ ls, okS x) (hll : ls.length ≤ 100000) : Calls Tryz.prog 21 #[statV s vl vt ve vk, vs] w fun e w' => e = .returned (.int .i64 (rtypedI s ls)) ∧ Below w.heap.size w w' := by
  have HSR := hidE hs
  obtain ⟨la, lc, rfl, _⟩ := h.hl
  obtain ⟨ea, ec, rfl, _⟩ := h.he
  obtain ⟨ka, kc, rfl, _⟩ := h.hk
  obtain ⟨ta, tc, rfl, t1, t2, t3⟩ := h.ht
  have HT3 := hidE t3
  obtain ⟨sa, sc, rfl, l1, l2, l3⟩ := hs
  have H3 := hidE l3
  unfold statV at *
  have hnt := h.nt
  obtain ⟨m, hm⟩ : ∃ m, ls.length = m := ⟨_, rfl⟩
  have HM := hidE hm
  rw [hm] at l1 hll HSR ⊢
  obtain ⟨mt, hmt⟩ : ∃ m, s.types.length = m := ⟨_, rfl⟩
  have HMT := hidE hmt
  rw [hmt] at t1 hnt ⊢
  obtain ⟨res, hres⟩ : ∃ r, rtypedI s ls = r := ⟨_, rfl⟩
  have HRES := hidE hres
  rw [hres]
  have HC := hidE (fun W => rcut_any s.rels W)
  obtain ⟨T, hT⟩ : ∃ T, s.types = T := ⟨_, rfl⟩
  have HR : Hid ((if ls = [] then cutI s.rels else plusI (typedL T [] ls)) = res) := by show _ = _; rw [← hres, ← hT]; rfl
  rw [hT] at HT3 HMT
  generalize s.nodes = n at *
  generalize s.rels = r at *
  generalize s.keys.length = q3 at *
  generalize s.labels.length = q4 at *
  generalize s.ends.length = q5 at *
  clear h l3 t3 hm hmt hres hT HRES
  go_enter Tryz.func21, Tryz.ntmps21
  go_upto_region 1 with fail
  have HW0 := hidE (below_new w (.cells #[.int .i64 n, .int .i64 r, .slice la q4 lc, .slice ta mt tc, .slice ea q5 ec, .slice ka q3 kc] 33))
  have HX0 := hidE (sbox_new w (.int .i64 n) (.int .i64 r) (.slice la q4 lc) (.slice ta mt tc) (.slice ea q5 ec) (.slice ka q3 kc) 33)
  generalize w.alloc (.cells #[.int .i64 n, .int .i64 r, .slice la q4 lc, .slice ta mt tc, .slice ea q5 ec, .slice ka q3 kc] 33) = W1 at *
  by_cases h0 : m = 0
  · have HF : Hid (res = cutI r) := by
      show _ = _
      rw [← HR.out, if_pos]
      exact List.eq_nil_of_length_eq_zero (HM.out.trans h0)
    subst h0
    have e1 := HX0.out.c1
    go_wp2_with (go_at_call 53; refine (HC.out _).mono ?_; rintro e W1 ⟨rfl, rfl⟩)
    go_ret
    exact ⟨by rw [HF.out]; rfl, HW0.out⟩
  · have HF : Hid (res = plusI (typedL T [] ls)) := by
      show _ = _
      rw [← HR.out, if_neg]
      intro e
      have := HM.out
      rw [e] at this
      exact h0 this.symm
    clear HC HR
    have hm0 : ((m : Int) == 0) = false := beq_eq_false_iff_ne.2 (by omega)
    go_wp2_with fail
    try rw [hm0]
    clear hm0
    go_loopw [5, 6] (fun v i wr => ∃ (xs : List Int) (j : Nat), j ≤ m ∧ xs.length ≤ j ∧ i = .int .i64 j ∧ ORow 2 1 intE W1.heap.size wr v xs ∧ xs ++ typedL T (ls.take j) (ls.drop j) = typedL T [] ls ∧ Below W1.heap.size W1 wr) (fun _ i _ => m - (intOf i).toNat)
    case atStart => exact ⟨[], 0, Nat.zero_le _, Nat.zero_le _, rfl, orow_nil _ _ _ _ _, rfl, Below.refl _ _⟩
    case round =>
      obtain ⟨xs, j, hj, hxl, rfl, hor, hrs, hbr⟩ := hrel
      have HRS := hidE hrs
      have HBR := hidE hbr
      have HOR := hidE hor
      have HB1 := hidE (Below.on HW0.out hbr)
      have HX1 := hidE (HX0.out.keep hbr)
      clear hrs hbr hor
      by_cases hlt : j < m
      · have hlt' : (j : Int) < m := by omega
        obtain ⟨x, hx⟩ : ∃ q, ls[j]? = some q := ⟨_, List.getElem?_eq_getElem (by have := HM.out; omega)⟩
        obtain ⟨bl, off, rfl, hbl, hc⟩ := H3.out.resolve_left (by intro e; rw [e] at hx; simp at hx)
        have cx := (HB1.out.cell (p := ⟨bl, off + j * 1 + 0, none⟩) (Nat.lt_of_lt_of_le hbl hB)).trans (hc j x hx 0 _ rfl)
        rw [Nat.mul_one, Nat.add_zero] at cx
        have HE := typedL_at (ts := T) hx
        have HRS2 := HRS.out
        rw [HE] at HRS2
        have HRS2 := hidE HRS2
        clear HE
        have HHAS : Hid (∀ W, Below w.heap.size w W → Calls Tryz.prog 49 #[.slice (some ⟨bl, off, none⟩) j sc, .string x] W fun e w' => e = .returned (.bool (rhasB x (ls.take j))) ∧ Below W.heap.size W w') := fun W hb => (rhas_any (ls.take j) x _ B W (srow_take (HSR.out.keep (hb.mono hB)) hj)).mono fun e w' h => ⟨h.1, by rw [h.2]; exact Below.refl _ _⟩
        clear hx hc
        obtain ⟨hb, hhb⟩ : ∃ b, rhasB x (ls.take j) = b := ⟨_, rfl⟩
        rw [hhb] at HHAS HRS2
        clear hhb
        have fx : ∀ u : Up wr, u.x.cell? ⟨bl, off + j, none⟩ = some (.string x) := fun u => u.cell cx
        have up_ne : Nonempty (Up wr) := ⟨⟨wr, Below.refl _ _⟩⟩
        go_upto_region 7 with fail
        refine wp_up (by kernel_rfl) (by kernel_rfl) ?_
        repeat (go_big_quiet_step (first | (go_at_call 49; exact Up.call (HHAS.out _ (Below.on HB1.out (Up.b _))))))
        refine wpQuiet_nil ?_
        rintro w' ⟨⟨W4, hb4⟩, rfl⟩
        have HB4 := hidE (Below.on HBR.out hb4)
        have HB5 := hidE (Below.on HB1.out hb4)
        have HX4 := hidE (HX1.out.keep hb4)
        have HO4 := hidE (HOR.out.below hb4)
        have cx4 := (hb4.cell (p := ⟨bl, off + j, none⟩) (Nat.lt_of_lt_of_le hbl (Nat.le_trans hB HB1.out.size))).trans cx
        clear fx up_ne hb4 HHAS cx HX1 HBR HB1 HRS HOR
        cases hb
        · have HRS3 : Hid (xs ++ (rowT x T ++ typedL T (ls.take (j + 1)) (ls.drop (j + 1))) = typedL T [] ls) := HRS2.out
          clear HRS2
          go_wp2_with fail
          go_loopw [5, 7] (fun v i wr => ∃ (k : Nat), k ≤ mt ∧ v = u5 ∧ i = .int .i64 k ∧ rowT x (T.drop k) = rowT x T ∧ Below w'.heap.size w' wr) (fun _ i _ => mt - (intOf i).toNat)
          case atStart => exact ⟨0, Nat.zero_le _, rfl, rfl, rfl, Below.refl _ _⟩
          case round =>
            obtain ⟨k, hk, rfl, rfl, hrt, hbk⟩ := hrel
            have HRT := hidE hrt
            have HX5 := hidE (HX4.out.keep hbk)
            have HO5 := hidE (HO4.out.below hbk)
            have HB6 := hidE (Below.on HB4.out hbk)
            have HB7 := hidE (Below.on HB5.out hbk)
            have HBK := hidE hbk
            have cx5 := (hbk.cell (p := ⟨bl, off + j, none⟩) (Nat.lt_of_lt_of_le hbl (Nat.le_trans hB HB5.out.size))).trans cx4
            have e3 := HX5.out.c3
            clear hrt hbk
            by_cases hlk : k < mt
            · have hlk' : (k : Int) < mt := by omega
              obtain ⟨⟨y, q⟩, hy⟩ : ∃ q, T[k]? = some q := ⟨_, List.getElem?_eq_getElem (by have := HMT.out; omega)⟩
              obtain ⟨bt, ot, rfl, hbt, hct⟩ := HT3.out.resolve_left (by intro e; rw [e] at hy; simp at hy)
              have c0 := (HB7.out.cell (p := ⟨bt, ot + k * 2 + 0, none⟩) (Nat.lt_of_lt_of_le hbt hB)).trans (hct k _ hy 0 _ rfl)
              have c1 := (HB7.out.cell (p := ⟨bt, ot + k * 2 + 1, none⟩) (Nat.lt_of_lt_of_le hbt hB)).trans (hct k _ hy 1 _ rfl)
              rw [Nat.add_zero] at c0
              simp only at c0 c1
              have HRT2 := rowT_at (x := x) hy
              rw [HRT.out] at HRT2
              replace HRT2 := hidE HRT2
              clear hy hct
              have f3 : ∀ u : Up wr, u.x.cell? ⟨w.heap.size, 3, none⟩ = some (.slice (some ⟨bt, ot, none⟩) mt tc) := fun u => u.cell e3
              have fy : ∀ u : Up wr, u.x.cell? ⟨bt, ot + k * 2, none⟩ = some (.string y) := fun u => u.cell c0
              have fx : ∀ u : Up wr, u.x.cell? ⟨bl, off + j, none⟩ = some (.string x) := fun u => u.cell cx5
              have up_ne : Nonempty (Up wr) := ⟨⟨wr, Below.refl _ _⟩⟩
              go_upto_region 11 with fail
              refine wp_up (by kernel_rfl) (by kernel_rfl) ?_
              repeat (go_big_quiet_step (fail))
              refine wpQuiet_nil ?_
              rintro w2 ⟨⟨W8, hb8⟩, rfl⟩
              have HO8 := hidE (HO5.out.below hb8)
              have HB8 := hidE (Below.on HB6.out hb8)
              have HK8 := hidE (Below.on HBK.out hb8)
              have e8 := (hb8.cell (p := ⟨w.heap.size, 3, none⟩) HX5.out.lt).trans e3
              have c8 := (hb8.cell (p := ⟨bt, ot + k * 2 + 1, none⟩) (Nat.lt_of_lt_of_le hbt (Nat.le_trans hB HB7.out.size))).trans c1
              clear f3 fy fx up_ne hb8 c0 c1 e3 cx5
              by_cases he : y = x
              · have HRT3 : Hid (rowT x T = [q]) := by show _ = _; rw [HRT2.out, if_pos he]
                have hbe := str_yes he
                clear he
                rw [hbe]
                obtain ⟨v6, W6, p1, p2, p3, p4⟩ := append_one (ty := 44) (c := 1) (bl := w2.heap.size) (off := 0) (x := q) elem44 (fun x => rfl) one_int (HO8.out.below ((Below.refl _ _).alloc (Nat.le_refl _) (.cells #[.int .i64 q] 2))) (fun jj u hu => by
                  rw [Nat.zero_add]
                  exact cell_new _ _ _ _ _ (by simpa [intE] using hu)) (by omega) (Nat.le_trans HB8.out.size (by simp))
                have HP := hidE (And.intro p2 p3)
                clear p2 p3 p4
                go_wp2_with (first
                  | (at_builtin; refine Lib.wpList_append_run _ rfl _ _ _ _ rfl _ _ rfl rfl _ _ p1 ?_))
                go_roundw
                case rel =>
                  obtain ⟨p2, p3⟩ := HP.out
                  refine ⟨xs ++ [q], j + 1, by omega, by simp; omega, by go_num, p2, ?_, ?_⟩
                  · have := HRS3.out
                    rw [HRT3.out] at this
                    rw [List.append_assoc]
                    exact this
                  · exact (HB8.out.alloc HB8.out.size _).trans p3
                case measure => simp [intOf]; omega
              · have HRT3 : Hid (rowT x (T.drop (k + 1)) = rowT x T) := by show _ = _; rw [HRT2.out, if_neg he]
                have hbe := str_no he
                clear he
                rw [hbe]
                go_wp2_with fail
                go_roundw
                case rel => exact ⟨k + 1, by omega, rfl, by go_num, HRT3.out, HK8.out⟩
                case measure => simp [intOf]; omega
            · have hlk' : ¬ (k : Int) < mt := by omega
              have HRT3 : Hid (rowT x T = []) := by
                show _ = _
                rw [← HRT.out, List.drop_of_length_le (by have := HMT.out; omega)]
                rfl
              go_wp2_with fail
              go_roundw
              case rel => exact ⟨xs, j + 1, by omega, by omega, by go_num, HO5.out, by have := HRS3.out; rw [HRT3.out, List.nil_append] at this; exact this, HB6.out⟩
              case measure => simp [intOf]; omega
        · go_wp2_with fail
          go_roundw
          case rel => exact ⟨xs, j + 1, by omega, by omega, by go_num, HO4.out, by have := HRS2.out; simpa using this, HB4.out⟩
          case measure => simp [intOf]; omega
      · have HF2 : Hid (res = plusI xs) := by
          show _ = _
          rw [HF.out, ← HRS.out, List.drop_of_length_le (by have := HM.out; omega)]
          show _ = plusI xs
          rw [show typedL T (List.take j ls) [] = [] from rfl, List.append_nil]
        have hlt' : ¬ (j : Int) < m := by omega
        have HPL : Hid (Calls Tryz.prog 35 #[_] wr fun e w' => e = .returned (.int .i64 (plusI xs)) ∧ w' = wr) := rplus_any xs _ _ wr (Nat.le_refl _) (ORow.srow (enc := intE) (k := 1) (fun _ => rfl) HOR.out)
        obtain ⟨va, vc, rfl⟩ := HOR.out.slice
        go_wp2_with (go_at_call 35; refine HPL.out.mono ?_; rintro e _ ⟨rfl, rfl⟩)
        go_ret
        exact ⟨by rw [HF2.out]; rfl, HB1.out⟩
end Go.Proofs.YthfilnflgahcjaaGreatDoor

namespace Go.Proofs.YthfilnflgahcjaaGreatDoor
open Go.RowKit Go.Shelf Go.Maps
set_option linter.unusedVariables false
set_option linter.unusedSimpArgs false
attribute [local go_sem] Oper.semAt_some
def rfanI (s : StatP) (dir : Int) (ts : List ByteArray) : Int := shareI (if dir = 0 then timesI (rtypedI s ts) 2 else rtypedI s ts) s.nodes
set_option maxRecDepth 100000 in
set_option maxHeartbeats 4000000 in
theorem rfan_any (s : StatP) (vl vt ve vk vs : Value) (dir : Int) (ls : List ByteArray) (B : Nat) (w : World) (hB : B ≤ w.heap.size) (h : StatL B w vl vt ve vk s) (hs : SRow 1 strE B w vs ls) (hok : ∀ x ∈ ls, okS x) (hl : ls.length ≤ 100000) : Calls Tryz.prog 27 #[statV s vl vt ve vk, .int .i64 dir, vs] w fun e w' => e = .returned (.int .i64 (rfanI s dir ls)) ∧ Below w.heap.size w w' := by
  have HT : Hid (∀ W, Below w.heap.size w W → Calls Tryz.prog 21 #[statV s vl vt ve vk, vs] W fun e w' => e = .returned (.int .i64 (rtypedI s ls)) ∧ Below W.heap.size W w') := fun W hb => rtyped_any s vl vt ve vk vs ls B W (Nat.le_trans hB hb.size) (h.keep (hb.mono hB)) (hs.keep (hb.mono hB)) hok hl
  unfold rfanI
  generalize rtypedI s ls = t at *
  obtain ⟨la, lc, rfl, _⟩ := h.hl
  obtain ⟨ta, tc, rfl, _⟩ := h.ht
  obtain ⟨ea, ec, rfl, _⟩ := h.he
  obtain ⟨ka, kc, rfl, _⟩ := h.hk
  obtain ⟨sa, sc, rfl, _⟩ := hs
  unfold statV at *
  generalize s.nodes = n at *
  generalize s.rels = r at *
  generalize s.labels.length = l1 at *
  generalize s.types.length = l2 at *
  generalize s.ends.length = l3 at *
  generalize s.keys.length = l4 at *
  generalize ls.length = l5 at *
  clear h hok hl
  obtain ⟨res, hres⟩ : ∃ r, shareI (if dir = 0 then timesI t 2 else t) n = r := ⟨_, rfl⟩
  rw [hres]
  have HR := hidE hres
  clear hres
  go_enter Tryz.func27, Tryz.ntmps27
  go_upto_region 1 with fail
  have HW0 := hidE (below_new w (.cells #[.int .i64 n, .int .i64 r, .slice la l1 lc, .slice ta l2 tc, .slice ea l3 ec, .slice ka l4 kc] 33))
  have HX0 := hidE (sbox_new w (.int .i64 n) (.int .i64 r) (.slice la l1 lc) (.slice ta l2 tc) (.slice ea l3 ec) (.slice ka l4 kc) 33)
  generalize w.alloc (.cells #[.int .i64 n, .int .i64 r, .slice la l1 lc, .slice ta l2 tc, .slice ea l3 ec, .slice ka l4 kc] 33) = W1 at *
  obtain ⟨_, e0, e1, e2, e3, e4, e5⟩ := HX0.out
  go_upto_region 2 with (go_at_call 21; refine (HT.out _ HW0.out).mono ?_; rintro e W2 ⟨rfl, hb2⟩; have HB2 := hidE (Below.on HW0.out hb2); have HX2 := hidE (HX0.out.keep hb2); clear hb2)
  clear e0 e1 e2 e3 e4 e5
  by_cases hd : dir = 0
  · have HF : Hid (res = shareI (timesI t 2) n) := by show _ = _; rw [← HR.out, if_pos hd]
    clear HR
    have HM : Hid (∀ W, Calls Tryz.prog 31 #[.int .i64 t, .int .i64 2] W fun e w' => e = .returned (.int .i64 (timesI t 2)) ∧ Below W.heap.size W w') := fun W => rtimes_any t 2 W
    generalize timesI t 2 = t2 at *
    have HS := hidE (fun W => rshare_any t2 n W)
    go_wp2_with (first
      | (go_at_call 31; refine (HM.out _).mono ?_; rintro e W3 ⟨rfl, hb3⟩; have HB3 := hidE (Below.on HB2.out hb3); have e0 := (HX2.out.keep hb3).c0; clear hb3)
      | (go_at_call 33; refine (HS.out _).mono ?_; rintro e _ ⟨rfl, rfl⟩))
    go_ret
    exact ⟨by rw [HF.out]; rfl, HB3.out⟩
  · have HF : Hid (res = shareI t n) := by show _ = _; rw [← HR.out, if_neg hd]
    clear HR
    have HS := hidE (fun W => rshare_any t n W)
    have e0 := HX2.out.c0
    go_wp2_with (go_at_call 33; refine (HS.out _).mono ?_; rintro e _ ⟨rfl, rfl⟩)
    go_ret
    exact ⟨by rw [HF.out]; rfl, HB2.out⟩
end Go.Proofs.YthfilnflgahcjaaGreatDoor

