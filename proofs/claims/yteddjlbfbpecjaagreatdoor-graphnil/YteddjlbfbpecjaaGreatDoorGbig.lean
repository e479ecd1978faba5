/- How great a step is: it is asked, and answered. -/
import Derived.Test.YteddjlbfbpecjaaGreatDoorJoin16
import Derived.Test.YteddjlbfbpecjaaGreatDoorNoth
namespace Go.Proofs.YteddjlbfbpecjaaGreatDoor
open Go.RowKit Go.Shelf
set_option linter.unusedVariables false
set_option linter.unusedSimpArgs false
attribute [local go_sem] Oper.semAt_some
/-- A property at a place. -/
def PropAt (B : Nat) (w : World) (bl off : Nat) (q : ByteArray × Tree) : Prop :=
  w.cell? ⟨bl, off, none⟩ = some (.string q.1) ∧ q.1.size ≤ maxLen ∧ ∃ v0 v1 v2 v3 v4 v5, (w.cell? ⟨bl, off + 1, none⟩ = some v0 ∧ w.cell? ⟨bl, off + 2, none⟩ = some v1 ∧ w.cell? ⟨bl, off + 3, none⟩ = some v2 ∧ w.cell? ⟨bl, off + 4, none⟩ = some v3 ∧ w.cell? ⟨bl, off + 5, none⟩ = some v4 ∧ w.cell? ⟨bl, off + 6, none⟩ = some v5) ∧ Lies B w (.agg #[v0, v1, v2, v3, v4, v5]) q.2
/-- Properties in a slice. -/
def PropsLie (B : Nat) (w : World) (v : Value) (ps : List (ByteArray × Tree)) : Prop :=
  ∃ pa pc, v = .slice pa ps.length pc ∧ ps.length ≤ pc ∧ pc ≤ 9223372036854775807 ∧ (ps = [] ∨ ∃ bl off, pa = some ⟨bl, off, none⟩ ∧ bl < B ∧ ∀ i q, ps[i]? = some q → PropAt B w bl (off + i * 7) q)
theorem PropAt.below {B : Nat} {w w' : World} (h : Below B w w') {bl off : Nat} (hl : bl < B) {q : ByteArray × Tree} (hq : PropAt B w bl off q) : PropAt B w' bl off q := by
  obtain ⟨h0, h1, v0, v1, v2, v3, v4, v5, ⟨c0, c1, c2, c3, c4, c5⟩, hv⟩ := hq
  exact ⟨(h.cell (p := ⟨bl, off, none⟩) hl).trans h0, h1, v0, v1, v2, v3, v4, v5, ⟨(h.cell (p := ⟨bl, off + 1, none⟩) hl).trans c0, (h.cell (p := ⟨bl, off + 2, none⟩) hl).trans c1, (h.cell (p := ⟨bl, off + 3, none⟩) hl).trans c2, (h.cell (p := ⟨bl, off + 4, none⟩) hl).trans c3, (h.cell (p := ⟨bl, off + 5, none⟩) hl).trans c4, (h.cell (p := ⟨bl, off + 6, none⟩) hl).trans c5⟩, hv.below h⟩
theorem PropsLie.below {B : Nat} {w w' : World} (h : Below B w w') {v : Value} {ps : List (ByteArray × Tree)} (hp : PropsLie B w v ps) : PropsLie B w' v ps := by
  obtain ⟨pa, pc, e, h1, h2, h3⟩ := hp
  exact ⟨pa, pc, e, h1, h2, h3.imp id fun ⟨bl, off, e, hl, hc⟩ => ⟨bl, off, e, hl, fun i q hi => (hc i q hi).below h hl⟩⟩
/-- Some truth. -/
def SomeB (e : Ending) : Prop := ∃ b : Bool, e = .returned (.bool b)
set_option maxRecDepth 100000 in
set_option maxHeartbeats 4000000 in
theorem heavy_some (v : Value) (ps : List (ByteArray × Tree)) (B : Nat) (w : World) (hB : B ≤ w.heap.size) (hp : PropsLie B w v ps) : Calls Tryz.prog 31 #[v] w fun e w' => SomeB e ∧ Below w.heap.size w w' := by
  have HP := hidE hp
  obtain ⟨pa, pc, rfl, h1, h2, _⟩ := hp
  obtain ⟨m, hm⟩ : ∃ m, ps.length = m := ⟨_, rfl⟩
  rw [hm] at HP h1 ⊢
  have HM := hidE hm
  clear hm
  go_enter Tryz.func31, Tryz.ntmps31
  go_wp2_with fail
  go_loopw [3] (fun i wr => ∃ j : Nat, j ≤ m ∧ i = .int .i64 j ∧ Below w.heap.size w wr) (fun i _ => m - (intOf i).toNat)
  case atStart => exact ⟨0, Nat.zero_le _, rfl, Below.refl _ _⟩
  case round =>
    obtain ⟨j, hj, rfl, hb⟩ := hrel
    have HB := hidE hb
    clear hb
    by_cases hlt : j < m
    · have hlt' : (j : Int) < m := by omega
      obtain ⟨q, hq⟩ : ∃ q, ps[j]? = some q := ⟨_, List.getElem?_eq_getElem (by rw [HM.out]; exact hlt)⟩
      obtain ⟨pa', pc', e1, _, _, h3⟩ := HP.out.below (HB.out.mono hB)
      have f1 : pa = pa' := by injection e1
      obtain ⟨bl, off, f2, hbl, hat⟩ := h3.resolve_left (by intro e; rw [e] at hq; simp at hq)
      have hq2 := hat j q hq
      have HQ := hidE hq2
      obtain ⟨d0, hs0, v0, v1, v2, v3, v4, v5, ⟨c0, c1, c2, c3, c4, c5⟩, hv⟩ := hq2
      obtain ⟨qk, ⟨tk, tb, tn, ts, tks, tts⟩⟩ := q
      have hv0 := hv
      simp only [Lies] at hv
      obtain ⟨ka, kc, la, lc, hag, _⟩ := hv
      have hsz := rsize_some _ B _ wr (Nat.le_trans hB HB.out.size) hv0
      rw [hag] at hsz
      have HSZ := hidE hsz
      obtain ⟨rfl, rfl, rfl, rfl, rfl, rfl⟩ : v0 = .int .i64 tk ∧ v1 = .bool tb ∧ v2 = .int .i64 tn ∧ v3 = .string ts ∧ v4 = .slice ka tks.length kc ∧ v5 = .slice la tts.length lc := by
        simpa using hag
      subst f1 f2
      simp only at d0 hs0
      unfold maxLen at hs0
      have hbw : bl < wr.heap.size := by have := HB.out.size; omega
      clear hat h3 e1 hv0 hag hsz hq
      go_wp2_with fail
      refine HSZ.out.mono ?_
      rintro e w2 ⟨⟨ra, rb, rc, rd, rfl⟩, hb2⟩
      have d0' := (hb2.cell (p := ⟨bl, off + j * 7, none⟩) hbw).trans d0
      have HB2 := hidE (below_on HB.out hb2)
      clear hb2 d0 c0 c1 c2 c3 c4 c5 HSZ HQ
      by_cases g1 : 200 < ra
      · go_wp2_with fail
        go_ret
        exact ⟨⟨_, rfl⟩, HB2.out⟩
      · by_cases g2 : 5000 < rc
        · go_wp2_with fail
          go_ret
          exact ⟨⟨_, rfl⟩, HB2.out⟩
        · by_cases g3 : 1000 < qk.size
          · have g3' : (1000 : Int) < qk.size := by omega
            go_wp2_with fail
            go_ret
            exact ⟨⟨_, rfl⟩, HB2.out⟩
          · have g3' : ¬ (1000 : Int) < qk.size := by omega
            go_wp2_with fail
            go_roundw
            case rel => exact ⟨j + 1, by omega, by go_num, HB2.out⟩
            case measure => simp [intOf]; omega
    · have hlt' : ¬ (j : Int) < m := by omega
      go_wp2_with fail
      go_ret
      exact ⟨⟨_, rfl⟩, HB.out⟩
set_option maxRecDepth 100000 in
set_option maxHeartbeats 4000000 in
theorem big_some (s : St) (T : Tree) (ps : List (ByteArray × Tree)) (B : Nat) (w : World) (hB : B ≤ w.heap.size) (hv : Lies B w (.agg #[.int .i64 s.vk, .bool s.vb, .int .i64 s.vn, .string s.vs, .slice s.ka s.kn s.kc, .slice s.ya s.yn s.yc]) T) (hp : PropsLie B w (.slice s.pa s.pn s.pc) ps) (hk : s.key.size ≤ 9223372036854775807) :
    Calls Tryz.prog 26 #[s.val] w fun e w' => SomeB e ∧ Below w.heap.size w w' := by
  have HSZ := hidE (fun W (h : Below w.heap.size w W) => rsize_some T B _ W (Nat.le_trans hB h.size) (hv.below (h.mono hB)))
  have HHV := hidE (fun W (h : Below w.heap.size w W) => heavy_some _ ps B W (Nat.le_trans hB h.size) (hp.below (h.mono hB)))
  have HCS : Hid (∀ (W : World) (b i : Nat) (v : Value), W.heap[b]? = some (.cells s.cells 62 (0, 0)) → s.cells[i]? = some v → W.cell? ⟨b, i, none⟩ = some v) := fun W b i v h hi => st_cell h hi
  obtain ⟨k, id, to_, rel, key, la, ln, lc, pa, pn, pc, vk, vb, vn, vs, ka, kn, kc, ya, yn, yc⟩ := s
  clear hv hp
  unfold St.val St.cells
  unfold St.cells at HCS
  simp only at HCS HSZ HHV hk ⊢
  go_enter Tryz.func26, Tryz.ntmps26
  go_upto_region 1 with fail
  generalize hW1 : World.alloc _ _ = W1
  have HB1 : Hid (Below w.heap.size w W1) := by rw [← hW1]; exact (Below.refl _ _).alloc (Nat.le_refl _) _
  have HX : Hid (∀ W, Below W1.heap.size W1 W → Below w.heap.size w W ∧ W.cell? ⟨w.heap.size, 4, none⟩ = some (.string key) ∧ W.cell? ⟨w.heap.size, 5, none⟩ = some (.slice la ln lc) ∧ W.cell? ⟨w.heap.size, 6, none⟩ = some (.slice pa pn pc) ∧ W.cell? ⟨w.heap.size, 7, none⟩ = some (.int .i64 vk) ∧ W.cell? ⟨w.heap.size, 8, none⟩ = some (.bool vb) ∧ W.cell? ⟨w.heap.size, 9, none⟩ = some (.int .i64 vn) ∧ W.cell? ⟨w.heap.size, 10, none⟩ = some (.string vs) ∧ W.cell? ⟨w.heap.size, 11, none⟩ = some (.slice ka kn kc) ∧ W.cell? ⟨w.heap.size, 12, none⟩ = some (.slice ya yn yc)) := by
    intro W hb
    have hh : W.heap[w.heap.size]? = some (.cells #[.int .i64 k, .int .i64 id, .int .i64 to_, .bool rel, .string key, .slice la ln lc, .slice pa pn pc, .int .i64 vk, .bool vb, .int .i64 vn, .string vs, .slice ka kn kc, .slice ya yn yc] 62 (0, 0)) := by
      rw [hb.block _ (by rw [← hW1]; simp), ← hW1]
      exact World.alloc_heap_new _ _
    exact ⟨below_on HB1.out hb, HCS.out _ _ _ _ hh rfl, HCS.out _ _ _ _ hh rfl, HCS.out _ _ _ _ hh rfl, HCS.out _ _ _ _ hh rfl, HCS.out _ _ _ _ hh rfl, HCS.out _ _ _ _ hh rfl, HCS.out _ _ _ _ hh rfl, HCS.out _ _ _ _ hh rfl, HCS.out _ _ _ _ hh rfl⟩
  clear hW1 HCS
  obtain ⟨_, c4, c5, c6, c7, c8, c9, c10, c11, c12⟩ := HX.out W1 (Below.refl _ _)
  go_wp2_with fail
  refine (HSZ.out _ HB1.out).mono ?_
  rintro e w2 ⟨⟨ra, rb, rc, rd, rfl⟩, hb2⟩
  have HB2 := hidE (below_on HB1.out hb2)
  have HC2 := hidE hb2
  clear c4 c5 c6 c7 c8 c9 c10 c11 c12 hb2
  obtain ⟨_, c4, c5, c6, _⟩ := HX.out w2 HC2.out
  by_cases g1 : 12 < ln
  · have g1' : (12 : Int) < ln := by omega
    go_wp2_with fail
    go_ret
    exact ⟨⟨_, rfl⟩, HB2.out⟩
  · have g1' : ¬ (12 : Int) < ln := by omega
    by_cases g2 : 12 < pn
    · have g2' : (12 : Int) < pn := by omega
      go_wp2_with fail
      go_ret
      exact ⟨⟨_, rfl⟩, HB2.out⟩
    · have g2' : ¬ (12 : Int) < pn := by omega
      go_wp2_with fail
      refine (HHV.out _ HB2.out).mono ?_
      rintro e w3 ⟨⟨hv, rfl⟩, hb3⟩
      have HB3 := hidE (below_on HB2.out hb3)
      obtain ⟨_, c4', _⟩ := HX.out w3 (below_on HC2.out hb3)
      clear hb3 c4 c5 c6
      cases hv with
      | true =>
        go_wp2_with fail
        go_ret
        exact ⟨⟨_, rfl⟩, HB3.out⟩
      | false =>
        by_cases g3 : 200 < ra
        · go_wp2_with fail
          go_ret
          exact ⟨⟨_, rfl⟩, HB3.out⟩
        · by_cases g4 : 5000 < rc
          · go_wp2_with fail
            go_ret
            exact ⟨⟨_, rfl⟩, HB3.out⟩
          · go_wp2_with fail
            go_ret
            exact ⟨⟨_, rfl⟩, HB3.out⟩
end Go.Proofs.YteddjlbfbpecjaaGreatDoor
