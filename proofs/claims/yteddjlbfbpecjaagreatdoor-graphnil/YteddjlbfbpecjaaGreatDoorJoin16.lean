/- Names of labels; what is null. The document's Size: it answers four numbers, whatever the value. -/
import Derived.Test.YteddjlbfbpecjaaGreatDoorJoin10
import Derived.Test.YteddjlbfbpecjaaGreatDoorJoin15
import Derived.Test.YteddjlbfbpecjaaGreatDoorJoin8
import Derived.Test.YteddjlbfbpecjaaGreatDoorJoin2
import Derived.Deep.Cut
namespace Go.Proofs.YteddjlbfbpecjaaGreatDoor
open Go.RowKit Go.Shelf
set_option linter.unusedVariables false
set_option linter.unusedSimpArgs false
attribute [local go_sem] Oper.semAt_some
theorem KeysLie.below' {B : Nat} {w w' : World} (h : Below B w w') {ad : Option Addr} {ks : List ByteArray} (hk : KeysLie B w ad ks) : KeysLie B w' ad ks :=
  hk.imp id fun ⟨b, off, e, hb, hc⟩ => ⟨b, off, e, hb, fun i hi => ⟨(h.cell (p := ⟨b, off + i, none⟩) hb).trans (hc i hi).1, (hc i hi).2⟩⟩
def namesB (ks : List ByteArray) : Bool := ks.all fun x => nameOk x.data.toList
set_option maxRecDepth 100000 in
set_option maxHeartbeats 4000000 in
theorem allNames_any (ks : List ByteArray) (B : Nat) (ka : Option Addr) (kc : Nat) (w : World) (hB : B ≤ w.heap.size) (hk : KeysLie B w ka ks) (h1 : ks.length ≤ kc) (h2 : kc ≤ 9223372036854775807) (hs : ∀ x ∈ ks, x.size ≤ 10000000000) (hE : Env w) (hB3 : 3 ≤ B) :
    Calls Tryz.prog 85 #[.slice ka ks.length kc] w fun e w' => e = .returned (.bool (namesB ks)) ∧ Below w.heap.size w w' := by
  have HK := hidE hk
  have HE := hidE hE
  have HS := hidE hs
  obtain ⟨m, hm⟩ : ∃ m, ks.length = m := ⟨_, rfl⟩
  rw [hm] at h1 ⊢
  have HM := hidE hm
  clear hm hk hE hs
  go_enter Tryz.func85, Tryz.ntmps85
  go_wp2_with fail
  go_loopw [7] (fun i wr => ∃ j : Nat, j ≤ m ∧ i = .int .i64 j ∧ Below w.heap.size w wr ∧ namesB (ks.take j) = true) (fun i _ => m - (intOf i).toNat)
  case atStart => exact ⟨0, Nat.zero_le _, rfl, Below.refl _ _, rfl⟩
  case round =>
    obtain ⟨j, hj, rfl, hb, hn⟩ := hrel
    have HB := hidE hb
    have HN := hidE hn
    clear hb hn
    by_cases hlt : j < m
    · have hlt' : (j : Int) < m := by omega
      obtain ⟨b, off, f2, hbl, hat⟩ := (HK.out.below' (HB.out.mono hB)).resolve_left (by intro e; rw [e] at HM; have := HM.out; simp at this; omega)
      have hx : ks[j]? = some (ks.getD j ⟨#[]⟩) := by
        have hl : j < ks.length := by rw [HM.out]; exact hlt
        simp [List.getD, hl]
      have c0 := (hat j (by rw [HM.out]; exact hlt)).1
      have hxs := HS.out _ (List.mem_of_getElem? hx)
      have HX := hidE hx
      generalize ks.getD j ⟨#[]⟩ = x at c0 hxs HX
      have HC := hidE (name_any x hxs wr (HE.out.below HB.out (Nat.le_trans hB3 hB)))
      have HF : Hid (nameOk x.data.toList = false → namesB ks = false) := fun e => by
        unfold namesB
        rw [List.all_eq_false]
        exact ⟨x, List.mem_of_getElem? HX.out, by simp [e]⟩
      have HG : Hid (nameOk x.data.toList = true → namesB (ks.take (j + 1)) = true) := fun e => by
        have h := HN.out
        unfold namesB at h ⊢
        rw [List.take_add_one, HX.out, List.all_append, h]
        simp [e]
      generalize nameOk x.data.toList = u at HC HF HG
      subst f2
      clear hat hxs hx
      go_wp2_with fail
      refine HC.out.mono ?_
      rintro e w2 ⟨rfl, hb2⟩
      have HB2 := hidE (below_on HB.out hb2)
      clear hb2 c0 HC
      cases u with
      | true =>
        go_wp2_with fail
        go_roundw
        case rel => exact ⟨j + 1, by omega, by go_num, HB2.out, HG.out (by simp)⟩
        case measure => simp [intOf]; omega
      | false =>
        go_wp2_with fail
        go_ret
        exact ⟨by rw [HF.out (by simp)]; rfl, HB2.out⟩
    · have hlt' : ¬ (j : Int) < m := by omega
      have HZ : Hid (namesB ks = true) := by
        have h := HN.out
        rw [List.take_of_length_le (by rw [HM.out]; omega)] at h
        exact h
      go_wp2_with fail
      go_ret
      exact ⟨by rw [HZ.out]; rfl, HB.out⟩
/-- Null. -/
def nullT : Tree := .mk 0 false 0 ⟨#[]⟩ [] []
theorem nullT_lies (B : Nat) (w : World) : Lies B w (leaf 0 false 0 ⟨#[]⟩) nullT := by
  unfold nullT
  simp only [Lies]
  exact ⟨none, 0, none, 0, rfl, ⟨by unfold maxLen; decide, Nat.le_refl _, Nat.zero_le _, Nat.le_refl _, Nat.zero_le _⟩, Or.inl (by simp), Or.inl (by simp)⟩
theorem nullT_modest : Modest nullT := ⟨by decide, by decide⟩
set_option maxRecDepth 100000 in
set_option maxHeartbeats 4000000 in
theorem isnull_any (T : Tree) (B : Nat) (v : Value) (w : World) (hB : B ≤ w.heap.size) (hv : Lies B w v T) (hE : Env w) (hm : Modest T) : Calls Tryz.prog 130 #[v] w fun e w' => e = .returned (.bool (sameB T nullT)) ∧ Below w.heap.size w w' := by
  obtain ⟨k, x, n, s, ks, ts⟩ := T
  have HV := hidE hv
  simp only [Lies] at hv
  obtain ⟨ka, kc, la, lc, rfl, _, _, _⟩ := hv
  have HE := hidE hE
  have HMo := hidE hm
  clear hE hm
  go_enter Tryz.func130, Tryz.ntmps130
  go_upto_region 1 with fail
  generalize hW1 : World.alloc _ _ = W1
  have HB1 : Hid (Below w.heap.size w W1) := by rw [← hW1]; exact (Below.refl _ _).alloc (Nat.le_refl _) _
  have hr := rec_new w #[.int .i64 k, .bool x, .int .i64 n, .string s, .slice ka ks.length kc, .slice la ts.length lc] 60
  rw [hW1] at hr
  have c0 := hr.cell 0 rfl
  have c1 := hr.cell 1 rfl
  have c2 := hr.cell 2 rfl
  have c3 := hr.cell 3 rfl
  have c4 := hr.cell 4 rfl
  have c5 := hr.cell 5 rfl
  have HR := hidE hr
  clear hW1 hr
  have HS : Hid (∀ W, Below W1.heap.size W1 W → Calls Tryz.prog 152 #[.agg #[.int .i64 k, .bool x, .int .i64 n, .string s, .slice ka ks.length kc, .slice la ts.length lc], leaf 0 false 0 ⟨#[]⟩] W fun e w' => e = .returned (.bool (sameB (.mk k x n s ks ts) nullT)) ∧ Below w.heap.size w w') := fun W hW => by
    have hb := below_on HB1.out hW
    refine (Same_any _ _ B _ _ W (Nat.le_trans hB hb.size) (HV.out.below (hb.mono hB)) (nullT_lies _ _) (HE.out.below hb HE.out.room).tabs HMo.out nullT_modest).mono ?_
    rintro e w' ⟨rfl, h⟩
    exact ⟨rfl, below_on hb h⟩
  have HN : Hid (∀ W, Below W1.heap.size W1 W → Calls Tryz.prog 170 #[] W fun e w' => e = .returned (leaf 0 false 0 ⟨#[]⟩) ∧ Below W1.heap.size W1 w' ∧ w'.cell? ⟨w.heap.size, 0, none⟩ = some (.int .i64 k) ∧ w'.cell? ⟨w.heap.size, 1, none⟩ = some (.bool x) ∧ w'.cell? ⟨w.heap.size, 2, none⟩ = some (.int .i64 n) ∧ w'.cell? ⟨w.heap.size, 3, none⟩ = some (.string s) ∧ w'.cell? ⟨w.heap.size, 4, none⟩ = some (.slice ka ks.length kc) ∧ w'.cell? ⟨w.heap.size, 5, none⟩ = some (.slice la ts.length lc)) := fun W hW => by
    refine (null_any W).mono ?_
    rintro e w' ⟨rfl, h⟩
    have hb := below_on hW h
    have hr := HR.out.below hb HR.out.lt
    exact ⟨rfl, hb, hr.cell 0 rfl, hr.cell 1 rfl, hr.cell 2 rfl, hr.cell 3 rfl, hr.cell 4 rfl, hr.cell 5 rfl⟩
  have HD : Hid (Below W1.heap.size W1 W1.drew) := ⟨rfl, rfl, rfl, Nat.le_refl _, fun _ _ => rfl⟩
  obtain ⟨u, hu⟩ : ∃ u, sameB (.mk k x n s ks ts) nullT = u := ⟨_, rfl⟩
  rw [hu] at HS
  have HU := hidE hu
  clear hu
  go_region_with (first | (refine (HN.out _ HD.out).mono ?_; rintro e w2 ⟨rfl, hb2, d0, d1, d2, d3, d4, d5⟩) | (refine (HS.out _ (by first | exact HD.out | assumption)).mono ?_; rintro e w3 ⟨rfl, hb3⟩))
  all_goals
    go_wp2_with fail
    go_ret
    exact ⟨by rw [HU.out]; rfl, hb3⟩
end Go.Proofs.YteddjlbfbpecjaaGreatDoor

namespace Go.Proofs.YteddjlbfbpecjaaGreatDoor
open Go.RowKit Go.Shelf
set_option linter.unusedVariables false
set_option linter.unusedSimpArgs false
attribute [local go_sem] Oper.semAt_some
/-- Some number. -/
def IsI (v : Value) : Prop := ∃ z : Int, v = .int .i64 z
theorem isI (z : Int) : IsI (.int .i64 z) := ⟨z, rfl⟩
theorem results_tmp4 {fn : Func} {t u v x : Tmp} (h : fn.results = #[.tmp t, .tmp u, .tmp v, .tmp x]) (tmps : Array Value) (P : Program) (w : World) :
    (results fn tmps).run P w = .ok (.tuple #[tmps.getD t undef, tmps.getD u undef, tmps.getD v undef, tmps.getD x undef]) w := by
  simp [results, h]
def FourI (e : Ending) : Prop := ∃ a b c d : Int, e = .returned (.tuple #[.int .i64 a, .int .i64 b, .int .i64 c, .int .i64 d])
set_option maxRecDepth 100000 in
set_option maxHeartbeats 4000000 in
theorem rsize_some : ∀ (T : Tree) (B : Nat) (v : Value) (w : World), B ≤ w.heap.size → Lies B w v T →
    Calls Tryz.prog 69 #[v] w fun e w' => FourI e ∧ Below w.heap.size w w' := by
  refine Tree.ind ?_
  intro k x n s ks ts ih B v w hB hv
  simp only [Lies] at hv
  obtain ⟨ka, kc, la, lc, rfl, ⟨hs1, hs2, hs3, hs4, hs5⟩, hk, ht⟩ := hv
  unfold maxLen at hs1 hs3 hs5
  have HIH := hidE ih
  have HTT := hidE ht
  have HKK := hidE hk
  clear ih ht hk
  go_enter Tryz.func69, Tryz.ntmps69
  go_upto_region 1 with fail
  generalize hW1 : World.alloc _ _ = W1
  have HX : Hid (∀ W, Below W1.heap.size W1 W → Below w.heap.size w W ∧ W.cell? ⟨w.heap.size, 3, none⟩ = some (.string s) ∧ W.cell? ⟨w.heap.size, 4, none⟩ = some (.slice ka ks.length kc) ∧ W.cell? ⟨w.heap.size, 5, none⟩ = some (.slice la ts.length lc)) := by
    intro W hb
    rw [← hW1] at hb
    have hc : ∀ i v, (#[Value.int .i64 k, .bool x, .int .i64 n, .string s, .slice ka ks.length kc, .slice la ts.length lc] : Array Value)[i]? = some v → W.cell? ⟨w.heap.size, i, none⟩ = some v := fun i v hi => (hb.cell (p := ⟨w.heap.size, i, none⟩) (by simp)).trans (cell_new _ _ _ _ _ hi)
    exact ⟨below_alloc hb, hc 3 _ rfl, hc 4 _ rfl, hc 5 _ rfl⟩
  clear hW1
  obtain ⟨mk, hmk⟩ : ∃ mk, ks.length = mk := ⟨_, rfl⟩
  obtain ⟨mt, hmt⟩ : ∃ mt, ts.length = mt := ⟨_, rfl⟩
  rw [hmk] at HX hs2 ⊢
  rw [hmt] at HX hs4 ⊢
  have HMK := hidE hmk
  have HMT := hidE hmt
  clear hmk hmt
  obtain ⟨_, c3, c4, c5⟩ := HX.out _ (Below.refl _ _)
  go_wp2_with fail
  go_quiet (fail)
  clear c3 c4 c5
  generalize hW2 : World.drewN _ _ = W2
  have HB2 : Hid (Below W1.heap.size W1 W2) := by rw [← hW2]; exact below_drewN' (Below.refl _ _) _
  clear hW2
  go_wp2_with fail
  go_loopw [8, 10] (fun z i wr => IsI z ∧ ∃ j : Nat, j ≤ mk ∧ i = .int .i64 j ∧ Below W1.heap.size W1 wr) (fun _ i _ => mk - (intOf i).toNat)
  case atStart => exact ⟨isI _, 0, Nat.zero_le _, rfl, HB2.out⟩
  case round =>
    obtain ⟨⟨z, rfl⟩, j, hj, rfl, hb⟩ := hrel
    have HB := hidE hb
    obtain ⟨hbw, c3, c4, c5⟩ := HX.out _ hb
    have HBW := hidE hbw
    clear hb hbw c3 c5
    by_cases hlt : j < mk
    · have hlt' : (j : Int) < mk := by omega
      obtain ⟨bk, off, rfl, hbk, hkc⟩ := HKK.out.resolve_left (by intro e; have := HMK.out; rw [e] at this; simp at this; omega)
      have d0 := (HBW.out.cell (p := ⟨bk, off + j, none⟩) (by show bk < w.heap.size; omega)).trans (hkc j (by rw [HMK.out]; exact hlt)).1
      have hsz := (hkc j (by rw [HMK.out]; exact hlt)).2
      unfold maxLen at hsz
      generalize ks.getD j ⟨#[]⟩ = kj at d0 hsz
      clear hkc
      go_wp2_with fail
      go_roundw
      case rel => exact ⟨isI _, j + 1, by omega, by go_num, HB.out⟩
      case measure => simp [intOf]; omega
    · have hlt' : ¬ (j : Int) < mk := by omega
      go_wp2_with fail
      clear c4
      go_loopw [11, 6, 7, 8, 9] (fun i a b c d wr => IsI a ∧ IsI b ∧ IsI c ∧ IsI d ∧ ∃ p : Nat, p ≤ mt ∧ i = .int .i64 p ∧ Below W1.heap.size W1 wr) (fun i _ _ _ _ _ => mt - (intOf i).toNat)
      case atStart => exact ⟨isI _, isI _, isI _, isI _, 0, Nat.zero_le _, rfl, HB.out⟩
      case round =>
        obtain ⟨⟨a, rfl⟩, ⟨b, rfl⟩, ⟨c, rfl⟩, ⟨d, rfl⟩, p, hp, rfl, hb⟩ := hrel
        have HB3 := hidE hb
        obtain ⟨hbw, c3, c4, c5⟩ := HX.out _ hb
        have HBW3 := hidE hbw
        clear hb hbw c3 c4
        by_cases hlp : p < mt
        · have hlp' : (p : Int) < mt := by omega
          obtain ⟨bl, off, rfl, hbl, hkk⟩ := HTT.out.resolve_left (by intro e; have := HMT.out; rw [e] at this; simp at this; omega)
          obtain ⟨⟨p0, p1, p2, p3, p4, p5⟩, hx⟩ : ∃ t, ts[p]? = some t := ⟨_, List.getElem?_eq_getElem (by rw [HMT.out]; exact hlp)⟩
          obtain ⟨ja, jc, jl, jd, ⟨e0, e1, e2, e3, e4, e5⟩, hlx⟩ := (hkk.below (HBW3.out.mono hB) hbl).cells hx
          have HC := hidE (HIH.out _ (List.mem_of_getElem? hx) B _ wr (Nat.le_trans hB HBW3.out.size) hlx)
          clear hkk hlx hx
          go_wp2_with fail
          refine HC.out.mono ?_
          rintro e w4 ⟨⟨ra, rb, rc, rd, rfl⟩, hb4⟩
          have HB4 := hidE (HB3.out.trans (hb4.mono HB3.out.size))
          clear hb4 e0 e1 e2 e3 e4 e5 c5 HC
          go_wp2_with fail
          go_roundw
          case rel => exact ⟨isI _, isI _, isI _, isI _, p + 1, by omega, by go_num, HB4.out⟩
          case measure => simp [intOf]; omega
        · have hlp' : ¬ (p : Int) < mt := by omega
          go_wp2_with fail
          (try simp only [Exit.inBlock, Exit.then])
          refine bodyPost_ret (results_tmp4 rfl _ _ _) rfl ?_
          exact ⟨⟨_, _, _, _, rfl⟩, HBW3.out⟩
end Go.Proofs.YteddjlbfbpecjaaGreatDoor

