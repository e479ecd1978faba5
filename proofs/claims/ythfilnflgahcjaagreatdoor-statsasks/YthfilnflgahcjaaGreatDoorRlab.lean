/- The reference's has and Labelled. -/
import Derived.Test.YthfilnflgahcjaaGreatDoorJoin30
import Derived.Test.YthfilnflgahcjaaGreatDoorJoin15
import Derived.Test.YthfilnflgahcjaaGreatDoorJoin1
namespace Go.Proofs.YthfilnflgahcjaaGreatDoor
open Go.RowKit Go.Shelf
set_option linter.unusedVariables false
set_option linter.unusedSimpArgs false
attribute [local go_sem] Oper.semAt_some
def rhasB (x : ByteArray) (l : List ByteArray) : Bool := l.any fun y => decide (y = x)
theorem rhasB_at {l : List ByteArray} {x y : ByteArray} {j : Nat} (h : l[j]? = some y) : rhasB x (l.drop j) = (decide (y = x) || rhasB x (l.drop (j + 1))) := by
  obtain ⟨hj, hx⟩ := List.getElem?_eq_some_iff.1 h
  rw [List.drop_eq_getElem_cons hj, hx]; rfl
set_option maxRecDepth 100000 in
set_option maxHeartbeats 4000000 in
theorem rhas_any (l : List ByteArray) (x : ByteArray) (v : Value) (B : Nat) (w : World) (hv : SRow 1 strE B w v l) :
    Calls Tryz.prog 49 #[v, .string x] w fun e w' => e = .returned (.bool (rhasB x l)) ∧ w' = w := by
  obtain ⟨a, c, rfl, h1, h2, h3⟩ := hv
  have H3 := hidE h3
  obtain ⟨n, hn⟩ : ∃ n, l.length = n := ⟨_, rfl⟩
  have HN := hidE hn
  rw [hn] at h1 ⊢
  obtain ⟨res, hres⟩ : ∃ r, rhasB x l = r := ⟨_, rfl⟩
  have HR := hidE hres
  rw [hres]
  clear h3 hn hres
  go_enter Tryz.func49, Tryz.ntmps49
  go_wp2_with fail
  go_loopw [5] (fun i wr => ∃ (j : Nat), j ≤ n ∧ i = .int .i64 j ∧ rhasB x (l.drop j) = res ∧ wr = w) (fun i _ => n - (intOf i).toNat)
  case atStart => exact ⟨0, Nat.zero_le _, rfl, HR.out, rfl⟩
  case round =>
    obtain ⟨j, hj, rfl, hrs, rfl⟩ := hrel
    have HRS := hidE hrs
    clear hrs
    by_cases hlt : j < n
    · have hlt' : (j : Int) < n := by omega
      obtain ⟨y, hx⟩ : ∃ q, l[j]? = some q := ⟨_, List.getElem?_eq_getElem (by have := HN.out; omega)⟩
      obtain ⟨bl, off, rfl, hbl, hc⟩ := H3.out.resolve_left (by intro e; rw [e] at hx; simp at hx)
      have cx := hc j y hx 0 _ rfl
      rw [Nat.mul_one, Nat.add_zero] at cx
      have HE := rhasB_at (x := x) hx
      rw [HRS.out] at HE
      replace HE := hidE HE
      clear hx hc
      by_cases he : y = x
      · have HF : Hid (res = true) := by show _ = _; rw [HE.out, decide_eq_true he]; rfl
        have hb := str_yes he
        clear he
        go_wp2_with fail
        go_ret
        exact ⟨by rw [HF.out]; rfl, rfl⟩
      · have HF : Hid (res = rhasB x (l.drop (j + 1))) := by show _ = _; rw [HE.out, decide_eq_false he]; rfl
        have hb := str_no he
        clear he
        go_wp2_with fail
        go_roundw
        case rel => exact ⟨j + 1, by omega, by go_num, HF.out.symm, trivial⟩
        case measure => simp [intOf]; omega
    · have HF : Hid (res = false) := by
        show _ = _
        rw [← HRS.out, List.drop_of_length_le (by have := HN.out; omega)]
        rfl
      have hlt' : ¬ (j : Int) < n := by omega
      go_wp2_with fail
      go_ret
      exact ⟨by rw [HF.out]; rfl, rfl⟩
/-- The least of what labels tell. -/
def leastR (s : StatP) : Int → List ByteArray → Int
  | t, [] => t
  | t, x :: l => leastR s (if rlabI s x < t then rlabI s x else t) l
theorem leastR_at {s : StatP} {t : Int} {l : List ByteArray} {j : Nat} {x : ByteArray} (h : l[j]? = some x) : leastR s t (l.drop j) = leastR s (if rlabI s x < t then rlabI s x else t) (l.drop (j + 1)) := by
  obtain ⟨hj, hx⟩ := List.getElem?_eq_some_iff.1 h
  rw [List.drop_eq_getElem_cons hj, hx]; rfl
def rlabelledI (s : StatP) (ls : List ByteArray) : Int := leastR s (cutI s.nodes) ls
set_option maxRecDepth 100000 in
set_option maxHeartbeats 4000000 in
theorem rlabelled_any (s : StatP) (vl vt ve vk vs : Value) (ls : List ByteArray) (B : Nat) (w : World) (hB : B ≤ w.heap.size) (h : StatL B w vl vt ve vk s) (hs : SRow 1 strE B w vs ls) (hok : ∀ x ∈ ls, okS x) : Calls Tryz.prog 18 #[statV s vl vt ve vk, vs] w fun e w' => e = .returned (.int .i64 (rlabelledI s ls)) ∧ Below w.heap.size w w' := by
  have HF : Hid (∀ W x, Below w.heap.size w W → x ∈ ls → Calls Tryz.prog 54 #[statV s vl vt ve vk, .string x] W fun e w' => e = .returned (.int .i64 (rlabI s x)) ∧ Below W.heap.size W w') := fun W x hb hx => rlab_any s vl vt ve vk x B W (Nat.le_trans hB hb.size) (h.keep (hb.mono hB)) (hok x hx)
  obtain ⟨la, lc, rfl, _⟩ := h.hl
  obtain ⟨ta, tc, rfl, _⟩ := h.ht
  obtain ⟨ea, ec, rfl, _⟩ := h.he
  obtain ⟨ka, kc, rfl, _⟩ := h.hk
  obtain ⟨sa, sc, rfl, l1, l2, l3⟩ := hs
  have H3 := hidE l3
  unfold statV at *
  obtain ⟨m, hm⟩ : ∃ m, ls.length = m := ⟨_, rfl⟩
  have HM := hidE hm
  rw [hm] at l1 ⊢
  obtain ⟨res, hres⟩ : ∃ r, rlabelledI s ls = r := ⟨_, rfl⟩
  have HC := hidE (fun W => rcut_any s.nodes W)
  have HR : Hid (leastR s (cutI s.nodes) ls = res) := hres
  rw [hres]
  obtain ⟨c0, hc0⟩ : ∃ c, cutI s.nodes = c := ⟨_, rfl⟩
  rw [hc0] at HC HR
  obtain ⟨n, hn⟩ : ∃ c, s.nodes = c := ⟨_, rfl⟩
  rw [hn] at HF HC ⊢
  generalize s.rels = r at *
  generalize s.types.length = q2 at *
  generalize s.keys.length = q3 at *
  generalize s.labels.length = q4 at *
  generalize s.ends.length = q5 at *
  clear h l3 hm hres hc0 hn
  go_enter Tryz.func18, Tryz.ntmps18
  go_upto_region 1 with fail
  have HW0 := hidE (below_new w (.cells #[.int .i64 n, .int .i64 r, .slice la q4 lc, .slice ta q2 tc, .slice ea q5 ec, .slice ka q3 kc] 33))
  have HX0 := hidE (sbox_new w (.int .i64 n) (.int .i64 r) (.slice la q4 lc) (.slice ta q2 tc) (.slice ea q5 ec) (.slice ka q3 kc) 33)
  generalize w.alloc (.cells #[.int .i64 n, .int .i64 r, .slice la q4 lc, .slice ta q2 tc, .slice ea q5 ec, .slice ka q3 kc] 33) = W1 at *
  have e0 := HX0.out.c0
  go_wp2_with (go_at_call 53; refine (HC.out _).mono ?_; rintro e W1 ⟨rfl, rfl⟩)
  clear e0
  go_loopw [5, 6] (fun t i wr => ∃ (z : Int) (j : Nat), j ≤ m ∧ t = .int .i64 z ∧ i = .int .i64 j ∧ leastR s z (ls.drop j) = res ∧ Below W1.heap.size W1 wr) (fun _ i _ => m - (intOf i).toNat)
  case atStart => exact ⟨c0, 0, Nat.zero_le _, rfl, rfl, HR.out, Below.refl _ _⟩
  case round =>
    obtain ⟨z, j, hj, rfl, rfl, hrs, hbr⟩ := hrel
    have HRS := hidE hrs
    have HBR := hidE hbr
    have HB1 := hidE (Below.on HW0.out hbr)
    have HX1 := hidE (HX0.out.keep hbr)
    clear hrs hbr
    by_cases hlt : j < m
    · have hlt' : (j : Int) < m := by omega
      obtain ⟨x, hx⟩ : ∃ q, ls[j]? = some q := ⟨_, List.getElem?_eq_getElem (by have := HM.out; omega)⟩
      obtain ⟨bl, off, rfl, hbl, hc⟩ := H3.out.resolve_left (by intro e; rw [e] at hx; simp at hx)
      have cx := (HB1.out.cell (p := ⟨bl, off + j * 1 + 0, none⟩) (Nat.lt_of_lt_of_le hbl hB)).trans (hc j x hx 0 _ rfl)
      rw [Nat.mul_one, Nat.add_zero] at cx
      have HE := leastR_at (s := s) (t := z) hx
      rw [HRS.out] at HE
      replace HE := hidE HE
      have HL : Hid (∀ W, Below w.heap.size w W → Calls Tryz.prog 54 #[.agg #[.int .i64 n, .int .i64 r, .slice la q4 lc, .slice ta q2 tc, .slice ea q5 ec, .slice ka q3 kc], .string x] W fun e w' => e = .returned (.int .i64 (rlabI s x)) ∧ Below W.heap.size W w') := fun W hb => HF.out W x hb (List.mem_of_getElem? hx)
      clear hx hc
      obtain ⟨y, hy⟩ : ∃ y, rlabI s x = y := ⟨_, rfl⟩
      rw [hy] at HE HL
      clear hy
      have f0 : ∀ u : Up wr, u.x.cell? ⟨w.heap.size, 0, none⟩ = some (.int .i64 n) := fun u => u.cell HX1.out.c0
      have f1 : ∀ u : Up wr, u.x.cell? ⟨w.heap.size, 1, none⟩ = some (.int .i64 r) := fun u => u.cell HX1.out.c1
      have f2 : ∀ u : Up wr, u.x.cell? ⟨w.heap.size, 2, none⟩ = some (.slice la q4 lc) := fun u => u.cell HX1.out.c2
      have f3 : ∀ u : Up wr, u.x.cell? ⟨w.heap.size, 3, none⟩ = some (.slice ta q2 tc) := fun u => u.cell HX1.out.c3
      have f4 : ∀ u : Up wr, u.x.cell? ⟨w.heap.size, 4, none⟩ = some (.slice ea q5 ec) := fun u => u.cell HX1.out.c4
      have f5 : ∀ u : Up wr, u.x.cell? ⟨w.heap.size, 5, none⟩ = some (.slice ka q3 kc) := fun u => u.cell HX1.out.c5
      have fx : ∀ u : Up wr, u.x.cell? ⟨bl, off + j, none⟩ = some (.string x) := fun u => u.cell cx
      have up_ne : Nonempty (Up wr) := ⟨⟨wr, Below.refl _ _⟩⟩
      clear cx
      go_upto_region 5 with fail
      refine wp_up (by kernel_rfl) (by kernel_rfl) ?_
      repeat (go_big_quiet_step (first | (go_at_call 54; exact Up.call (HL.out _ (Below.on HB1.out (Up.b _))))))
      refine wpQuiet_nil ?_
      rintro w' ⟨⟨W4, hb4⟩, rfl⟩
      have HB4 := hidE (Below.on HBR.out hb4)
      clear f0 f1 f2 f3 f4 f5 fx up_ne hb4
      obtain ⟨z2, hz2⟩ : ∃ q, (if y < z then y else z) = q := ⟨_, rfl⟩
      have hz3 : min z y = z2 := by rw [← hz2]; split <;> omega
      rw [hz2] at HE
      first | rw [hz2] | rw [hz3]
      clear hz2 hz3
      go_wp2_with fail
      go_roundw
      case rel => exact ⟨z2, j + 1, by omega, rfl, by go_num, HE.out.symm, HB4.out⟩
      case measure => simp [intOf]; omega
    · have HF : Hid (res = z) := by
        show _ = _
        rw [← HRS.out, List.drop_of_length_le (by have := HM.out; omega)]
        rfl
      have hlt' : ¬ (j : Int) < m := by omega
      go_wp2_with fail
      go_ret
      exact ⟨by rw [HF.out]; rfl, HB1.out⟩
end Go.Proofs.YthfilnflgahcjaaGreatDoor
