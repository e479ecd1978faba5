/- The example that every law of the stage runs (works 10). Numbers multiplied. What is reckoned is from 0 to 2^62, and how it goes together (pure). -/
import Derived.Test.YthfilnflgahcjaaGreatDoorSwk0
import Derived.Shelf.Bits.Mul64
import Derived.Test.YthfilnflgahcjaaGreatDoorJoin6
namespace Go.Proofs.YthfilnflgahcjaaGreatDoor
open Go.RowKit Go.Shelf Go.Maps
set_option linter.unusedVariables false
set_option linter.unusedSimpArgs false
attribute [local go_sem] Oper.semAt_some
theorem one_ok {x : ByteArray} (h : x.size ≤ 1) : okS x := Nat.le_trans h (by decide)
theorem val19 : labelledI sampleS [⟨#[65]⟩, ⟨#[66]⟩] = 1 := by kernel_rfl
theorem val24 : seekI sampleS ⟨#[65]⟩ ⟨#[107]⟩ = 2 := by kernel_rfl
theorem val26 : fanI sampleS 0 [] = 2 := by kernel_rfl
theorem val28 : fromI sampleS ⟨#[65]⟩ 1 [⟨#[84]⟩] = 1 := by kernel_rfl
theorem val32 : shareI 7 2 = 4 := by kernel_rfl
theorem sampleS_lies {base : Nat} {w : World} {vl vt ve vk : Value} (h : CntL base w vl vt ve vk sampleS) : StatL w.heap.size w vl vt ve vk sampleS := by
  refine ⟨h.l.srow fun _ => rfl, h.t.srow fun _ => rfl, h.e.srow fun _ => rfl, h.k.srow fun _ => rfl, ?_, ?_, ?_, ?_, by decide, by decide, by decide, by decide⟩
  · intro x hx
    simp only [sampleS, List.mem_cons, List.not_mem_nil, or_false] at hx
    rcases hx with rfl | rfl <;> exact one_ok (by decide)
  · intro x hx
    simp only [sampleS, List.mem_cons, List.not_mem_nil, or_false] at hx
    rcases hx with rfl | rfl <;> exact one_ok (by decide)
  · intro x hx
    simp only [sampleS, List.mem_cons, List.not_mem_nil, or_false] at hx
    rcases hx with rfl | rfl | rfl | rfl | rfl <;> exact ⟨one_ok (by decide), one_ok (by decide), w64 (by decide) (by decide)⟩
  · intro x hx
    simp only [sampleS, List.mem_cons, List.not_mem_nil, or_false] at hx
    rcases hx with rfl | rfl <;> exact ⟨one_ok (by decide), one_ok (by decide), w64 (by decide) (by decide), w64 (by decide) (by decide)⟩
theorem stable10 (bx : Nat) (la : Option Addr) (lc : Nat) (ta : Option Addr) (tc : Nat) (eb eo ec : Nat) (ka : Option Addr) (kc : Nat) : ∀ p ∈ facts10 bx la lc ta tc eb eo ec ka kc, Stable p := by
  intro p hp
  have hs : ∀ l : List ByteArray, Stable (fun v W => SRow 1 strE W.heap.size W v l) := fun l v W W' h hb => h.up hb hb.size
  simp only [facts10, List.mem_cons, List.not_mem_nil, or_false] at hp
  repeat (first | (rcases hp with rfl | hp; · first | exact eqv_stable _ | exact hs _) | (subst hp; first | exact eqv_stable _ | exact hs _))
theorem size10 : R10.size = 50 := by kernel_rfl
set_option maxRecDepth 100000 in
set_option maxHeartbeats 8000000 in
theorem works_any (w : World) (hE : Env w) : Calls Tryz.prog 10 #[] w fun e w' => e = .returned (.bool true) ∧ Below w.heap.size w w' := by
  have HE := hidE hE
  have HS := hidE (sample_any w)
  clear hE
  go_enter Tryz.func10, Tryz.ntmps10
  go_wp2_with fail
  refine HS.out.mono ?_
  rintro e w1 ⟨v, rfl, hg, hb1⟩
  have HB1 := hidE hb1
  have HC := hidE (count_sample v w1 (HE.out.below hb1 HE.out.room) hg)
  clear hg hb1 HS
  go_wp2_with fail
  refine HC.out.mono ?_
  rintro e w2 ⟨vl, vt, ve, vk, rfl, hl, hb2⟩
  have HB2 := hidE (Below.on HB1.out hb2)
  have HSL := hidE (sampleS_lies hl)
  obtain ⟨la, lc, rfl⟩ := hl.l.slice
  obtain ⟨ta, tc, rfl⟩ := hl.t.slice
  obtain ⟨ka, kc, rfl⟩ := hl.k.slice
  obtain ⟨ea, ec, rfl, _, _, hrow⟩ := HSL.out.he
  obtain ⟨eb, eo, rfl, hebl, hcel⟩ := hrow.resolve_left (by simp [sampleS])
  have hd : ∀ (j : Nat) (u : Value), (endC (⟨#[84]⟩, ⟨#[65]⟩, true, 2))[j]? = some u → w2.cell? ⟨eb, eo + 1 * 4 + j, none⟩ = some u := hcel 1 _ rfl
  have HD : Hid (eb < w2.heap.size ∧ w2.cell? ⟨eb, eo + 4, none⟩ = some (.string ⟨#[84]⟩) ∧ w2.cell? ⟨eb, eo + 4 + 1, none⟩ = some (.string ⟨#[65]⟩) ∧ w2.cell? ⟨eb, eo + 4 + 2, none⟩ = some (.bool true) ∧ w2.cell? ⟨eb, eo + 4 + 3, none⟩ = some (.int .i64 2)) :=
    ⟨hebl, hd 0 _ rfl, hd 1 _ rfl, hd 2 _ rfl, hd 3 _ rfl⟩
  simp only [statV, sampleS, List.length_cons, List.length_nil] at HSL ⊢
  clear hl hb2 HC hrow hcel hd hebl
  go_upto_region 2 with fail
  obtain ⟨W3, hW3⟩ : ∃ W, w2.alloc (.cells #[.int .i64 3, .int .i64 3, .slice la 2 lc, .slice ta 2 tc, .slice (some ⟨eb, eo, none⟩) 5 ec, .slice ka 2 kc] 33) = W := ⟨_, rfl⟩
  have HR : Hid (Rec W3 w2.heap.size #[.int .i64 3, .int .i64 3, .slice la 2 lc, .slice ta 2 tc, .slice (some ⟨eb, eo, none⟩) 5 ec, .slice ka 2 kc] 33) := by
    show Rec _ _ _ _
    rw [← hW3]; exact rec_new _ _ _
  have HB3 : Hid (Below w2.heap.size w2 W3) := by
    show Below _ _ _
    rw [← hW3]; exact (Below.refl _ _).alloc (Nat.le_refl _) _
  rw [hW3]
  clear hW3
  show (Code.region 2 R10 false).wp _ _ _ _
  refine facts_plain (A := anc10) (F := factsAt (facts10 w2.heap.size la lc ta tc eb eo ec ka kc)) (by kernel_rfl) (fun i v w w' => factsAt_stable (stable10 w2.heap.size la lc ta tc eb eo ec ka kc) i v w w') ?_ ?_
  · intro i hi c W hS hB hF
    have hb2W : Below w2.heap.size w2 W := Below.on HB3.out hB
    have hr := HR.out.below hB HR.out.lt
    obtain ⟨hebl, d0, d1, d2, d3⟩ := HD.out
    have hst : StatL W.heap.size W (.slice la 2 lc) (.slice ta 2 tc) (.slice (some ⟨eb, eo, none⟩) 5 ec) (.slice ka 2 kc) sampleS := StatL.up HSL.out hb2W hb2W.size
    have hcl : ∀ (j : Nat) (u : Value), w2.cell? ⟨eb, j, none⟩ = some u → W.cell? ⟨eb, j, none⟩ = some u := fun j u h => (hb2W.cell (p := ⟨eb, j, none⟩) hebl).trans h
    refine ops10 w2.heap.size la lc ta tc eb eo ec ka kc _ c W ((same_eval hS (by kernel_rfl)).trans rfl) ((same_eval hS (by kernel_rfl)).trans rfl) ⟨hr.cell 0 rfl, hr.cell 1 rfl, hr.cell 2 rfl, hr.cell 3 rfl, hr.cell 4 rfl, hr.cell 5 rfl, hcl _ _ d0, hcl _ _ d1, hcl _ _ d2, hcl _ _ d3, ?_, ?_, ?_, ?_, ?_, ?_⟩ i (by rwa [size10] at hi) hF
    · refine (num_any 0 W).mono ?_
      rintro e w' ⟨rfl, rfl⟩
      exact ⟨rfl, Below.refl _ _⟩
    · intro y hy
      have h := labelled_any sampleS (.slice la 2 lc) (.slice ta 2 tc) (.slice (some ⟨eb, eo, none⟩) 5 ec) (.slice ka 2 kc) y [⟨#[65]⟩, ⟨#[66]⟩] W.heap.size W (Nat.le_refl _) hst hy (fun x hx => by
        simp only [List.mem_cons, List.not_mem_nil, or_false] at hx
        rcases hx with rfl | rfl <;> exact one_ok (by decide)) (by decide)
      rw [val19] at h
      exact h
    · have h := seek_any sampleS (.slice la 2 lc) (.slice ta 2 tc) (.slice (some ⟨eb, eo, none⟩) 5 ec) (.slice ka 2 kc) ⟨#[65]⟩ ⟨#[107]⟩ W.heap.size W (Nat.le_refl _) hst (one_ok (by decide)) (one_ok (by decide))
      rw [val24] at h
      exact h
    · have h := fan_any sampleS (.slice la 2 lc) (.slice ta 2 tc) (.slice (some ⟨eb, eo, none⟩) 5 ec) (.slice ka 2 kc) (.slice none 0 0) 0 [] W.heap.size W (Nat.le_refl _) hst (srow_nil 1 strE _ _) (fun x hx => by simp at hx) (by decide)
      rw [val26] at h
      exact h
    · intro y hy
      have h := from_any sampleS (.slice la 2 lc) (.slice ta 2 tc) (.slice (some ⟨eb, eo, none⟩) 5 ec) (.slice ka 2 kc) y ⟨#[65]⟩ 1 [⟨#[84]⟩] W.heap.size W (Nat.le_refl _) hst hy (one_ok (by decide)) (fun x hx => by
        simp only [List.mem_cons, List.not_mem_nil, or_false] at hx
        subst hx; exact one_ok (by decide)) (by decide)
      rw [val28] at h
      exact h
    · refine (share_any 7 2 W).mono ?_
      rintro e w' ⟨rfl, rfl⟩
      exact ⟨by rw [val32], Below.refl _ _⟩
  · intro c W hS hB hF
    have h0 : c.eval (.tmp 0) = .bool true := fact_at (p := eqv (.bool true)) (by kernel_rfl) rfl (hF 49 (by rw [size10]; omega))
    have HB4 := hidE (Below.on HB2.out (Below.on HB3.out hB))
    clear hB hF
    go_wp2_with fail
    refine bodyPost_ret (results_tmp rfl c.tmps Tryz.prog W) hS.1 ?_
    exact ⟨congrArg Ending.returned h0, HB4.out⟩
end Go.Proofs.YthfilnflgahcjaaGreatDoor

namespace Go.Proofs
open Go.Shelf
def Tryz.lays264_ren : Go.Shelf.Ren := ⟨fun | 264 => 65 | n => n, fun | 46 => 171 | 53 => 106 | n => n, fun | n => n⟩
theorem Tryz.lays264 : Go.Proofs.Lays.n264 Tryz.prog Tryz.lays264_ren := {
  mixed := by kernel_rfl
  f264 := Tryz.func65.trans (congrArg some (by kernel_rfl))
  t46 := Tryz.underlying171
  a46 := Tryz.isAgg171
  z46 := Tryz.sizeOf171
  v46 := Tryz.zeroValue171
  t53 := Tryz.underlying106
  a53 := Tryz.isAgg106
  z53 := Tryz.sizeOf106
  v53 := Tryz.zeroValue106 }
end Go.Proofs
namespace Go.Proofs.YthfilnflgahcjaaGreatDoor
open Go.RowKit Go.Shelf
set_option linter.unusedVariables false
set_option linter.unusedSimpArgs false
attribute [local go_sem] Oper.semAt_some
theorem mul64_any (x y : Nat) (hx : x < 18446744073709551616) (hy : y < 18446744073709551616) (w : World) :
    Calls Tryz.prog 65 #[.int .u64 x, .int .u64 y] w fun e w' => e = .returned (.tuple #[.int .u64 ((x * y / 18446744073709551616 : Nat) : Int), .int .u64 ((x * y % 18446744073709551616 : Nat) : Int)]) ∧ w' = w := Any.bits_Mul64 Tryz.lays264 x y hx hy w
def timesI (a b : Int) : Int := if 4611686018427387904 < cutI a * cutI b then 4611686018427387904 else cutI a * cutI b
set_option maxRecDepth 100000 in
set_option maxHeartbeats 4000000 in
theorem times_any (a b : Int) (w : World) : Calls Tryz.prog 30 #[.int .i64 a, .int .i64 b] w fun e w' => e = .returned (.int .i64 (timesI a b)) ∧ w' = w := by
  have h0 := cutI_nonneg a
  have h1 := cutI_le a
  have k0 := cutI_nonneg b
  have k1 := cutI_le b
  have HA := hidE (fun W => cut_any a W)
  have HB := hidE (fun W => cut_any b W)
  unfold timesI
  generalize cutI a = x at *
  generalize cutI b = y at *
  obtain ⟨m, rfl⟩ := Int.eq_ofNat_of_zero_le h0
  obtain ⟨n, rfl⟩ := Int.eq_ofNat_of_zero_le k0
  have HM := hidE (fun W => mul64_any m n (by omega) (by omega) W)
  rw [show ((m : Int) * (n : Int)) = ((m * n : Nat) : Int) from (Int.natCast_mul m n).symm]
  have w1 : IntKind.u64.wrap (m : Int) = m := by rw [IntKind.wrap_u64]; omega
  have w2 : IntKind.u64.wrap (n : Int) = n := by rw [IntKind.wrap_u64]; omega
  obtain ⟨p, hp⟩ : ∃ p, m * n = p := ⟨_, rfl⟩
  rw [hp] at HM ⊢
  obtain ⟨hi, hhi⟩ : ∃ q, p / 18446744073709551616 = q := ⟨_, rfl⟩
  obtain ⟨lo, hlo⟩ : ∃ q, p % 18446744073709551616 = q := ⟨_, rfl⟩
  have HP : Hid (p = hi * 18446744073709551616 + lo ∧ lo < 18446744073709551616) := by
    rw [← hhi, ← hlo]
    exact ⟨by omega, Nat.mod_lt _ (by decide)⟩
  rw [hhi, hlo] at HM
  clear hp hhi hlo
  obtain ⟨res, hres⟩ : ∃ q, (if 4611686018427387904 < (p : Int) then (4611686018427387904 : Int) else p) = q := ⟨_, rfl⟩
  rw [hres]
  have HR := hidE hres
  clear hres
  by_cases e1 : hi = 0
  · subst e1
    by_cases e2 : 4611686018427387904 < lo
    · have e2' : (4611686018427387904 : Int) < lo := by omega
      have HF : Hid (res = 4611686018427387904) := by
        have := HP.out
        show _ = _
        rw [← HR.out, if_pos (by omega)]
      go_enter Tryz.func30, Tryz.ntmps30
      go_wp2_with (first | (go_at_call_of 52 a; refine (HA.out _).mono ?_; rintro e _ ⟨rfl, rfl⟩) | (go_at_call_of 52 b; refine (HB.out _).mono ?_; rintro e _ ⟨rfl, rfl⟩) | (go_at_call 65; refine (HM.out _).mono ?_; rintro e _ ⟨rfl, rfl⟩))
      go_ret
      exact ⟨by rw [HF.out]; rfl, rfl⟩
    · have e2' : ¬ (4611686018427387904 : Int) < lo := by omega
      have w3 : IntKind.i64.wrap (lo : Int) = lo := by rw [IntKind.wrap_i64]; omega
      have HF : Hid (res = lo) := by
        have := HP.out
        show _ = _
        rw [← HR.out, if_neg (by omega)]
        omega
      go_enter Tryz.func30, Tryz.ntmps30
      go_wp2_with (first | (go_at_call_of 52 a; refine (HA.out _).mono ?_; rintro e _ ⟨rfl, rfl⟩) | (go_at_call_of 52 b; refine (HB.out _).mono ?_; rintro e _ ⟨rfl, rfl⟩) | (go_at_call 65; refine (HM.out _).mono ?_; rintro e _ ⟨rfl, rfl⟩))
      go_ret
      exact ⟨by rw [HF.out]; rfl, rfl⟩
  · have e2' : (0 : Int) < hi := by omega
    have HF : Hid (res = 4611686018427387904) := by
      have := HP.out
      show _ = _
      rw [← HR.out, if_pos (by omega)]
    go_enter Tryz.func30, Tryz.ntmps30
    go_wp2_with (first | (go_at_call_of 52 a; refine (HA.out _).mono ?_; rintro e _ ⟨rfl, rfl⟩) | (go_at_call_of 52 b; refine (HB.out _).mono ?_; rintro e _ ⟨rfl, rfl⟩) | (go_at_call 65; refine (HM.out _).mono ?_; rintro e _ ⟨rfl, rfl⟩))
    go_ret
    exact ⟨by rw [HF.out]; rfl, rfl⟩
end Go.Proofs.YthfilnflgahcjaaGreatDoor

namespace Go.Proofs.YthfilnflgahcjaaGreatDoor
open Go.RowKit Go.Shelf Go.Maps
set_option linter.unusedVariables false
set_option linter.unusedSimpArgs false
def Fits (n : Int) : Prop := 0 ≤ n ∧ n ≤ 4611686018427387904
theorem fits_true {n : Int} (h : Fits n) : fitsB n = true := by simp [fitsB, h.1, h.2]
theorem cut_fits (n : Int) : Fits (cutI n) := ⟨cutI_nonneg n, cutI_le n⟩
theorem cut_same {n : Int} (h : Fits n) : cutI n = n := by
  obtain ⟨h1, h2⟩ := h
  unfold cutI
  split
  · omega
  · split <;> omega
theorem plusF_fits : ∀ (l : List Int) {t : Int}, Fits t → Fits (plusF t l)
  | [], t, h => h
  | n :: r, t, h => by
    rw [plusF]
    refine plusF_fits r ?_
    have h1 := cutI_nonneg n
    obtain ⟨h2, h3⟩ := h
    split <;> constructor <;> omega
theorem plus_fits (l : List Int) : Fits (plusI l) := plusF_fits l ⟨by decide, by decide⟩
theorem plus_one (x : Int) : plusI [x] = cutI x := by
  have h1 := cutI_le x
  simp only [plusI, plusF]
  split <;> omega
theorem plus_two (x y : Int) : plusI [x, y] = if 4611686018427387904 < cutI x + cutI y then 4611686018427387904 else cutI x + cutI y := by
  have h1 := cutI_le x
  have h2 := cutI_le y
  have h3 := cutI_nonneg x
  have h4 := cutI_nonneg y
  simp only [plusI, plusF]
  split <;> split <;> split <;> omega
theorem plus_comm (x y : Int) : plusI [x, y] = plusI [y, x] := by
  rw [plus_two, plus_two, Int.add_comm]
theorem plus_most (x y : Int) : plusI [x] ≤ plusI [x, y] ∧ plusI [y] ≤ plusI [x, y] := by
  have h1 := cutI_le x
  have h2 := cutI_le y
  have h3 := cutI_nonneg x
  have h4 := cutI_nonneg y
  rw [plus_one, plus_one, plus_two]
  split <;> constructor <;> omega
theorem least_iff {x : Int} : ∀ {L : List (ByteArray × Int)} {t : Int}, x ≤ leastF t L ↔ x ≤ t ∧ ∀ r ∈ L, x ≤ cutI r.2
  | [], t => by simp [leastF]
  | p :: r, t => by
    rw [leastF, least_iff]
    simp only [List.mem_cons, forall_eq_or_imp]
    split
    · constructor
      · rintro ⟨h1, h2⟩; exact ⟨by omega, h1, h2⟩
      · rintro ⟨h1, h2, h3⟩; exact ⟨h2, h3⟩
    · constructor
      · rintro ⟨h1, h2⟩; exact ⟨h1, by omega, h2⟩
      · rintro ⟨h1, h2, h3⟩; exact ⟨h1, h3⟩
theorem mem_delS_of {k x : ByteArray} : ∀ {l : List ByteArray}, x ∈ l → x ≠ k → x ∈ delS k l
  | a :: r, h, hx => by
    rw [delS]
    split
    · rename_i e
      exact (List.mem_cons.1 h).resolve_left (fun e2 => hx (e2.trans e))
    · rcases List.mem_cons.1 h with rfl | h
      · exact List.mem_cons_self
      · exact List.mem_cons_of_mem _ (mem_delS_of h hx)
theorem goFirst_sub {key : ByteArray × Int → ByteArray} {x : ByteArray} : ∀ (rows : List (ByteArray × Int)) (left : List ByteArray), x ∈ left → (∀ r ∈ (goFirst key rows [x]).1, r ∈ (goFirst key rows left).1) ∧ ((goFirst key rows [x]).2 ≠ [] → (goFirst key rows left).2 ≠ [])
  | [], left, h => by
    refine ⟨fun r hr => by simp [goFirst] at hr, fun _ e => ?_⟩
    simp only [goFirst] at e
    rw [e] at h; simp at h
  | r :: rs, left, h => by
    have hne : left ≠ [] := fun e => by rw [e] at h; simp at h
    rw [goFirst, goFirst, if_neg (by simp : ¬ [x] = []), if_neg hne]
    by_cases hx : key r = x
    · have e1 : key r ∈ [x] := by rw [hx]; exact List.mem_singleton_self x
      have e2 : key r ∈ left := by rw [hx]; exact h
      rw [if_pos e1, if_pos e2]
      have e3 : delS (key r) [x] = [] := by rw [hx]; simp [delS]
      rw [e3, goFirst_none]
      refine ⟨fun q hq => ?_, fun hq => absurd rfl hq⟩
      simp only [List.mem_singleton] at hq
      rw [hq]; exact List.mem_cons_self
    · have e1 : key r ∉ [x] := fun e => hx (List.mem_singleton.1 e)
      rw [if_neg e1]
      split
      · rename_i hm
        have hd : x ∈ delS (key r) left := mem_delS_of h (fun e => hx e.symm)
        obtain ⟨i1, i2⟩ := goFirst_sub rs (delS (key r) left) hd
        exact ⟨fun q hq => List.mem_cons_of_mem _ (i1 q hq), i2⟩
      · exact goFirst_sub rs left h
theorem firsts_sub {x : ByteArray} {ls : List ByteArray} (h : x ∈ ls) (rows : List (ByteArray × Int)) : ∀ r ∈ firstsL Prod.fst (⟨#[]⟩, 0) rows [x], r ∈ firstsL Prod.fst (⟨#[]⟩, 0) rows ls := by
  intro r hr
  have hx : x ∈ ls.foldl putS [] := (puts_mem ls [] x).2 (.inr h)
  have h1 : ([x] : List ByteArray).foldl putS [] = [x] := by simp [putS]
  obtain ⟨i1, i2⟩ := goFirst_sub (key := Prod.fst) rows _ hx
  unfold firstsL at hr ⊢
  rw [h1] at hr
  rcases List.mem_append.1 hr with hr | hr
  · exact List.mem_append_left _ (i1 r hr)
  · refine List.mem_append_right _ ?_
    obtain ⟨h2, rfl⟩ := List.mem_replicate.1 hr
    refine List.mem_replicate.2 ⟨fun e => ?_, rfl⟩
    exact i2 (fun e => h2 (by rw [e]; rfl)) (List.length_eq_zero_iff.1 e)
theorem labelled_fits (s : StatP) (ls : List ByteArray) : Fits (labelledI s ls) := by
  constructor
  · exact least_iff.2 ⟨cutI_nonneg _, fun r _ => cutI_nonneg _⟩
  · exact Int.le_trans (least_iff.1 (Int.le_refl _)).1 (cutI_le _)
theorem labelled_all (s : StatP) (ls : List ByteArray) : labelledI s ls ≤ cutI s.nodes := (least_iff.1 (Int.le_refl _)).1
theorem labelled_each (s : StatP) {ls : List ByteArray} {x : ByteArray} (h : x ∈ ls) : labelledI s ls ≤ labelledI s [x] := by
  obtain ⟨h1, h2⟩ := least_iff.1 (Int.le_refl (labelledI s ls))
  exact least_iff.2 ⟨h1, fun r hr => h2 r (firsts_sub h s.labels r hr)⟩
theorem typed_fits (s : StatP) (ts : List ByteArray) : Fits (typedI s ts) := by
  unfold typedI
  split
  · exact cut_fits _
  · exact plus_fits _
/-- What a number is shared by. -/
def by1 (b : Int) : Int := if cutI b < 1 then 1 else cutI b
theorem by1_pos (b : Int) : 1 ≤ by1 b := by unfold by1; split <;> omega
theorem share_parts (a b : Int) : by1 b * shareI a b + (cutI a + (by1 b - 1)) % by1 b = cutI a + (by1 b - 1) ∧ 0 ≤ (cutI a + (by1 b - 1)) % by1 b ∧ (cutI a + (by1 b - 1)) % by1 b < by1 b := by
  have h := by1_pos b
  refine ⟨?_, Int.emod_nonneg _ (by omega), Int.emod_lt_of_pos _ (by omega)⟩
  have := Int.mul_ediv_add_emod (cutI a + (by1 b - 1)) (by1 b)
  exact this
theorem share_fits (a b : Int) : Fits (shareI a b) := by
  have h := by1_pos b
  have ha := cutI_nonneg a
  have hm := cutI_le a
  have h0 : 0 ≤ shareI a b := Int.ediv_nonneg (by show 0 ≤ cutI a + (by1 b - 1); omega) (by show 0 ≤ by1 b; omega)
  refine ⟨h0, ?_⟩
  obtain ⟨h1, h2, h3⟩ := share_parts a b
  by_cases h4 : shareI a b < 1
  · omega
  · have h5 : by1 b + shareI a b ≤ by1 b * shareI a b + 1 := by
      have h6 : 0 ≤ (by1 b - 1) * (shareI a b - 1) := Int.mul_nonneg (by omega) (by omega)
      rw [Int.sub_mul, Int.mul_sub, Int.mul_one, Int.one_mul] at h6
      omega
    omega
theorem seek_fits (s : StatP) (l k : ByteArray) : Fits (seekI s l k) := by
  unfold seekI
  split
  · exact share_fits _ _
  · exact ⟨by decide, by decide⟩
theorem times_fits (a b : Int) : Fits (timesI a b) := by
  have h := Int.mul_nonneg (cutI_nonneg a) (cutI_nonneg b)
  unfold timesI
  split
  · exact ⟨by decide, by decide⟩
  · exact ⟨h, by omega⟩
theorem times_comm (a b : Int) : timesI a b = timesI b a := by unfold timesI; rw [Int.mul_comm]
theorem times_1 (a : Int) : timesI a 1 = plusI [a] := by
  have h := cutI_le a
  rw [plus_one]
  unfold timesI
  rw [show cutI 1 = 1 from rfl, Int.mul_one, if_neg (by omega)]
/-- The greater of 1 and a number, as it is cut. -/
def at1 (y : Int) : Int := if 1 < y then y else 1
theorem at1_by (y : Int) : cutI (at1 y) = by1 y := by
  unfold at1 by1 cutI
  split <;> split <;> (try split) <;> (try split) <;> (try split) <;> omega
theorem share_back (x y : Int) : plusI [x] ≤ timesI (shareI x y) (at1 y) := by
  rw [plus_one]
  unfold timesI
  rw [at1_by, cut_same (share_fits x y)]
  obtain ⟨h1, h2, h3⟩ := share_parts x y
  have hm := cutI_le x
  rw [Int.mul_comm] at h1
  split <;> omega
theorem share_less (x y : Int) (h : 0 < shareI x y) : timesI (shareI x y - 1) (at1 y) < plusI [x] := by
  rw [plus_one]
  obtain ⟨f1, f2⟩ := share_fits x y
  unfold timesI
  rw [at1_by, cut_same (n := shareI x y - 1) ⟨by omega, by omega⟩]
  obtain ⟨h1, h2, h3⟩ := share_parts x y
  have hm := cutI_le x
  have h4 : (shareI x y - 1) * by1 y = by1 y * shareI x y - by1 y := by rw [Int.sub_mul, Int.one_mul, Int.mul_comm]
  rw [h4]
  split <;> omega
end Go.Proofs.YthfilnflgahcjaaGreatDoor

