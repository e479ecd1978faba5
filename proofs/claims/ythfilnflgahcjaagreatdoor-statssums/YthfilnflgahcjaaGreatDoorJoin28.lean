/- How great properties are, as the laws measure them (propsSize 41). Is a graph small enough (small 9)? -/
import Derived.Test.YthfilnflgahcjaaGreatDoorJoin17
import Derived.Test.YthfilnflgahcjaaGreatDoorJoin2
import Derived.Test.YthfilnflgahcjaaGreatDoorJoin27
import Derived.Test.YthfilnflgahcjaaGreatDoorJoin18
namespace Go.Proofs.YthfilnflgahcjaaGreatDoor
open Go.RowKit Go.Shelf
set_option linter.unusedVariables false
set_option linter.unusedSimpArgs false
attribute [local go_sem] Oper.semAt_some
def propZ : Int → List (ByteArray × Tree) → Int
  | n, [] => n
  | n, q :: r => if n ≤ 3000 then propZ (n + 1 + q.1.size + vszN q.2 3000) r else n
theorem propZ_ge : ∀ (ps : List (ByteArray × Tree)) (n : Int), n ≤ propZ n ps
  | [], n => by simp [propZ]
  | q :: r, n => by
    have h1 := propZ_ge r (n + 1 + q.1.size + vszN q.2 3000)
    have h2 := vszN_pos q.2 3000
    simp only [propZ]
    split <;> omega
theorem propZ_le : ∀ (ps : List (ByteArray × Tree)) (n : Int), (∀ q ∈ ps, Sane q.2 ∧ q.1.size ≤ 9223372036854775) → n ≤ 10000000000000000 → propZ n ps ≤ 10000000000000000
  | [], n, _, h => by simp only [propZ]; exact h
  | q :: r, n, hs, h => by
    simp only [propZ]
    split
    · rename_i hn
      have h1 := hs q List.mem_cons_self
      have h2 := vszN_le q.2 3000 h1.1 (by omega)
      exact propZ_le r _ (fun x hx => hs x (List.mem_cons_of_mem _ hx)) (by omega)
    · exact h
theorem propZ_snoc : ∀ (a : List (ByteArray × Tree)) (n : Int) (x : ByteArray × Tree), propZ n (a ++ [x]) = if propZ n a ≤ 3000 then propZ n a + 1 + x.1.size + vszN x.2 3000 else propZ n a
  | [], n, x => by simp only [List.nil_append, propZ]; rfl
  | k :: r, n, x => by
    simp only [List.cons_append, propZ]
    split
    · exact propZ_snoc r _ x
    · rename_i h; simp only [h, if_false]
theorem propZ_stop {a : List (ByteArray × Tree)} {n : Int} {j : Nat} (h : ¬ propZ n (a.take j) ≤ 3000) : propZ n a = propZ n (a.take j) := by
  have : ∀ (b r : List (ByteArray × Tree)) (n : Int), ¬ propZ n b ≤ 3000 → propZ n (b ++ r) = propZ n b := by
    intro b
    induction b with
    | nil => intro r n h; cases r with
      | nil => rfl
      | cons x r => simp only [propZ] at h; simp [propZ, h]
    | cons k b ih =>
      intro r n h
      simp only [List.cons_append, propZ] at h ⊢
      split at h
      · rename_i hn; rw [if_pos hn, if_pos hn]; exact ih r _ h
      · rename_i hn; rw [if_neg hn, if_neg hn]
  have e := this (a.take j) (a.drop j) n h
  rwa [List.take_append_drop] at e
set_option maxRecDepth 100000 in
set_option maxHeartbeats 8000000 in
theorem psz_any (ps : List (ByteArray × Tree)) (B : Nat) (v : Value) (w : World) (hB : B ≤ w.heap.size) (h : PropsLie B w v ps) (hs : ∀ q ∈ ps, Sane q.2 ∧ q.1.size ≤ 9223372036854775) :
    Calls Tryz.prog 41 #[v] w fun e w' => e = .returned (.int .i64 (propZ 0 ps)) ∧ Below w.heap.size w w' := by
  obtain ⟨pa, pc, rfl, h1, h2, h3⟩ := h
  have H3 := hidE h3
  have HS := hidE hs
  obtain ⟨m, hm⟩ : ∃ n, ps.length = n := ⟨_, rfl⟩
  have HM := hidE hm
  rw [hm] at h1 ⊢
  clear h3 hs hm
  go_enter Tryz.func41, Tryz.ntmps41
  go_wp2_with fail
  go_loopw [4, 3] (fun i u wr => ∃ j : Nat, j ≤ m ∧ i = .int .i64 j ∧ u = .int .i64 (propZ 0 (ps.take j)) ∧ Below w.heap.size w wr) (fun i _ _ => m - (RowKit.intOf i).toNat)
  case atStart => exact ⟨0, Nat.zero_le _, rfl, by simp [propZ], Below.refl _ _⟩
  case round =>
    obtain ⟨j, hj, rfl, rfl, hbr⟩ := hrel
    have HBR := hidE hbr
    have hkz := propZ_le (ps.take j) 0 (fun q hq => HS.out q (List.mem_of_mem_take hq)) (by omega)
    have hkg := propZ_ge (ps.take j) 0
    by_cases hgo : j < m ∧ propZ 0 (ps.take j) ≤ 3000
    · obtain ⟨hlt, hle⟩ := hgo
      have hlt' : (j : Int) < m := by omega
      obtain ⟨x, hx⟩ : ∃ q, ps[j]? = some q := ⟨_, List.getElem?_eq_getElem (by have := HM.out; omega)⟩
      obtain ⟨bl, off, rfl, hbl, hc⟩ := H3.out.resolve_left (by intro e; rw [e] at hx; simp at hx)
      obtain ⟨c0, hsz, v0, v1, v2, v3, v4, v5, ⟨d0, d1, d2, d3, d4, d5⟩, hv⟩ := hc j x hx
      have hbB : Below B w wr := hbr.mono hB
      have hsx := HS.out x (List.mem_of_getElem? hx)
      replace c0 := (hbB.cell (p := ⟨bl, off + j * 7, none⟩) hbl).trans c0
      replace d0 := (hbB.cell (p := ⟨bl, off + j * 7 + 1, none⟩) hbl).trans d0
      replace d1 := (hbB.cell (p := ⟨bl, off + j * 7 + 2, none⟩) hbl).trans d1
      replace d2 := (hbB.cell (p := ⟨bl, off + j * 7 + 3, none⟩) hbl).trans d2
      replace d3 := (hbB.cell (p := ⟨bl, off + j * 7 + 4, none⟩) hbl).trans d3
      replace d4 := (hbB.cell (p := ⟨bl, off + j * 7 + 5, none⟩) hbl).trans d4
      replace d5 := (hbB.cell (p := ⟨bl, off + j * 7 + 6, none⟩) hbl).trans d5
      have HST : Hid (propZ 0 (ps.take (j + 1)) = propZ 0 (ps.take j) + 1 + x.1.size + vszN x.2 3000) := by
        show _ = _
        rw [List.take_add_one, hx]
        exact (propZ_snoc _ _ _).trans (if_pos hle)
      have hsz2 := hsx.2
      have hvl := vszN_le x.2 3000 hsx.1 (by omega)
      have hvp := vszN_pos x.2 3000
      have HCL : Hid (∀ W, Below wr.heap.size wr W → Calls Tryz.prog 82 #[.agg #[v0, v1, v2, v3, v4, v5], .int .i64 3000] W fun e w' => e = .returned (.int .i64 (vszN x.2 3000)) ∧ Below W.heap.size W w') := fun W hb =>
        vsz_any x.2 B _ 3000 W (Nat.le_trans hB (Nat.le_trans HBR.out.size hb.size)) (hv.below (hbB.trans (hb.mono (Nat.le_trans hB HBR.out.size)))) hsx.1 (by omega) (by omega)
      generalize vszN x.2 3000 = vz at *
      generalize propZ 0 (ps.take j) = acc at *
      obtain ⟨xk, hxk⟩ : ∃ k, x.1 = k := ⟨_, rfl⟩
      rw [hxk] at c0 hsz hsz2 HST
      clear hx hc hv hbB hsx hxk hbr
      go_upto_region 5 with fail
      have HD0 := hidE ((Below.refl wr.heap.size wr).drew)
      have g0 : ∀ u : Up wr.drew, u.x.cell? ⟨bl, off + j * 7, none⟩ = some (.string xk) := fun u => u.cell (show wr.drew.cell? _ = _ from c0)
      have e0 : ∀ u : Up wr.drew, u.x.cell? ⟨bl, off + j * 7 + 1, none⟩ = some v0 := fun u => u.cell (show wr.drew.cell? _ = _ from d0)
      have e1 : ∀ u : Up wr.drew, u.x.cell? ⟨bl, off + j * 7 + 2, none⟩ = some v1 := fun u => u.cell (show wr.drew.cell? _ = _ from d1)
      have e2 : ∀ u : Up wr.drew, u.x.cell? ⟨bl, off + j * 7 + 3, none⟩ = some v2 := fun u => u.cell (show wr.drew.cell? _ = _ from d2)
      have e3 : ∀ u : Up wr.drew, u.x.cell? ⟨bl, off + j * 7 + 4, none⟩ = some v3 := fun u => u.cell (show wr.drew.cell? _ = _ from d3)
      have e4 : ∀ u : Up wr.drew, u.x.cell? ⟨bl, off + j * 7 + 5, none⟩ = some v4 := fun u => u.cell (show wr.drew.cell? _ = _ from d4)
      have e5 : ∀ u : Up wr.drew, u.x.cell? ⟨bl, off + j * 7 + 6, none⟩ = some v5 := fun u => u.cell (show wr.drew.cell? _ = _ from d5)
      have up_ne : Nonempty (Up wr.drew) := ⟨⟨wr.drew, Below.refl _ _⟩⟩
      clear c0 d0 d1 d2 d3 d4 d5
      refine wp_calm [([0, 1, 2, 3, 4, 5, 6, 7, 8, 9, 10, 11, 12, 13], 14)] [15] [16] (by kernel_rfl) (by kernel_rfl) ?_
      simp only [wpCalm, wpLoud, pickL, nthL, upC_eqT]
      repeat (go_big_quiet_step (fail))
      refine wpQuiet_nil ?_
      clear up_ne g0 e0 e1 e2 e3 e4 e5
      go_wp2_with (go_at_call 82; refine (HCL.out _ HD0.out).mono ?_; rintro e u50 ⟨rfl, y0⟩; have HY0 := hidE y0; clear y0)
      have HB5 : Hid (Below w.heap.size w u50) := Below.on HBR.out (Below.on HD0.out HY0.out)
      refine ⟨HY0.out, ?_⟩
      have up_ne : Nonempty (Up u50) := ⟨⟨u50, Below.refl _ _⟩⟩
      repeat (go_big_quiet_step (fail))
      refine wpQuiet_nil ?_
      clear up_ne
      go_wp2_with fail
      go_roundw
      case rel => exact ⟨j + 1, by omega, by go_num, by rw [HST.out], HB5.out⟩
      case measure => simp [RowKit.intOf]; omega
    · have HN : Hid (propZ 0 (ps.take j) = propZ 0 ps) := by
        show _ = _
        by_cases hlt : j < m
        · exact (propZ_stop (fun h => hgo ⟨hlt, h⟩)).symm
        · rw [List.take_of_length_le (by have := HM.out; omega)]
      generalize propZ 0 (ps.take j) = acc at *
      clear hbr
      by_cases hlt : j < m
      · have hlt' : (j : Int) < m := by omega
        have hle : ¬ acc ≤ 3000 := fun h => hgo ⟨hlt, h⟩
        clear hgo
        go_wp2_with fail
        go_ret
        exact ⟨by rw [HN.out]; rfl, HBR.out⟩
      · have hlt' : ¬ (j : Int) < m := by omega
        clear hgo
        go_wp2_with fail
        go_ret
        exact ⟨by rw [HN.out]; rfl, HBR.out⟩
end Go.Proofs.YthfilnflgahcjaaGreatDoor

namespace Go.Proofs.YthfilnflgahcjaaGreatDoor
open Go.RowKit Go.Shelf
set_option linter.unusedVariables false
set_option linter.unusedSimpArgs false
attribute [local go_sem] Oper.semAt_some
section
variable {α : Type} (f : Int → α → Int)
def gZ : Int → List α → Int
  | n, [] => n
  | n, x :: r => if n ≤ 3000 then gZ (f n x) r else n
theorem gZ_snoc : ∀ (a : List α) (n : Int) (q : α), gZ f n (a ++ [q]) = if gZ f n a ≤ 3000 then f (gZ f n a) q else gZ f n a
  | [], n, q => by simp only [List.nil_append, gZ]; rfl
  | k :: r, n, q => by
    simp only [List.cons_append, gZ]
    split
    · exact gZ_snoc r _ q
    · rename_i h; simp only [h, if_false]
theorem gZ_stop {a : List α} {n : Int} {j : Nat} (h : ¬ gZ f n (a.take j) ≤ 3000) : gZ f n a = gZ f n (a.take j) := by
  have : ∀ (b r : List α) (n : Int), ¬ gZ f n b ≤ 3000 → gZ f n (b ++ r) = gZ f n b := by
    intro b
    induction b with
    | nil => intro r n h; cases r with
      | nil => rfl
      | cons x r => simp only [gZ] at h; simp [gZ, h]
    | cons k b ih =>
      intro r n h
      simp only [List.cons_append, gZ] at h ⊢
      split at h
      · rename_i hn; rw [if_pos hn, if_pos hn]; exact ih r _ h
      · rename_i hn; rw [if_neg hn, if_neg hn]
  have e := this (a.take j) (a.drop j) n h
  rwa [List.take_append_drop] at e
theorem gZ_le (M : Int) : ∀ (xs : List α) (n : Int), (∀ m x, x ∈ xs → 0 ≤ m → m ≤ 3000 → 0 ≤ f m x ∧ f m x ≤ M) → 0 ≤ n → n ≤ M → 0 ≤ gZ f n xs ∧ gZ f n xs ≤ M
  | [], n, _, h0, h => by simp only [gZ]; exact ⟨h0, h⟩
  | x :: r, n, hf, h0, h => by
    simp only [gZ]
    split
    · rename_i hn
      have := hf n x (by simp) h0 hn
      exact gZ_le M r _ (fun m y hy => hf m y (by simp [hy])) this.1 this.2
    · exact ⟨h0, h⟩
end
def fN (n : Int) (x : NodeP) : Int := keysZ 3000 n x.labels + propZ 0 x.props
def fR (n : Int) (x : RelP) : Int := n + 1 + x.type.size + propZ 0 x.props
def smallG (g : GraphP) : Bool := if 60 < g.nodes.length + g.rels.length then false else decide (gZ fR (gZ fN 0 g.nodes) g.rels ≤ 3000)
/-- No text and no list is longer than any machine has room for. -/
structure SaneG (g : GraphP) : Prop where
  ln : g.nodes.length ≤ 140737488355328
  lr : g.rels.length ≤ 140737488355328
  nl : ∀ x ∈ g.nodes, ∀ l ∈ x.labels, l.size ≤ 140737488355328
  np : ∀ x ∈ g.nodes, ∀ q ∈ x.props, Sane q.2 ∧ q.1.size ≤ 9223372036854775
  rt : ∀ x ∈ g.rels, x.type.size ≤ 140737488355328
  rp : ∀ x ∈ g.rels, ∀ q ∈ x.props, Sane q.2 ∧ q.1.size ≤ 9223372036854775
theorem fN_le {g : GraphP} (h : SaneG g) (m : Int) (x : NodeP) (hx : x ∈ g.nodes) (h0 : 0 ≤ m) (h1 : m ≤ 3000) : 0 ≤ fN m x ∧ fN m x ≤ 20000000000000000 := by
  have a := keysZ_ge 3000 x.labels m
  have b := keysZ_le 3000 x.labels m 140737488358400 (fun y hy => by have := h.nl x hx y hy; omega) (by omega) (by omega)
  have c := propZ_ge x.props 0
  have d := propZ_le x.props 0 (h.np x hx) (by omega)
  unfold fN; omega
theorem fR_le {g : GraphP} (h : SaneG g) (m : Int) (x : RelP) (hx : x ∈ g.rels) (h0 : 0 ≤ m) (h1 : m ≤ 3000) : 0 ≤ fR m x ∧ fR m x ≤ 20000000000000000 := by
  have a := h.rt x hx
  have c := propZ_ge x.props 0
  have d := propZ_le x.props 0 (h.rp x hx) (by omega)
  unfold fR; omega
set_option maxRecDepth 100000 in
set_option maxHeartbeats 8000000 in
theorem smallG_any (g : GraphP) (v : Value) (B : Nat) (w : World) (hB : B ≤ w.heap.size) (h : GraphLies B w v g) (hs : SaneG g) :
    Calls Tryz.prog 9 #[v] w fun e w' => e = .returned (.bool (smallG g)) ∧ Below w.heap.size w w' := by
  obtain ⟨na, nc, ra, rc, rfl, hr, hn⟩ := h
  obtain ⟨na', nc', e0, r1, r2, r3⟩ := hr
  obtain ⟨rfl, rfl⟩ : na = na' ∧ nc = nc' := by injection e0 with a b c; exact ⟨a, c⟩
  obtain ⟨ra', rc', e1, t1, t2, t3⟩ := hn
  obtain ⟨rfl, rfl⟩ : ra = ra' ∧ rc = rc' := by injection e1 with a b c; exact ⟨a, c⟩
  have HR3 := hidE r3
  have HT3 := hidE t3
  have HS := hidE hs
  have hln := hs.ln
  have hlr := hs.lr
  obtain ⟨m, hm'⟩ : ∃ m, g.nodes.length = m := ⟨_, rfl⟩
  have HM := hidE hm'
  obtain ⟨m2, hm2⟩ : ∃ m, g.rels.length = m := ⟨_, rfl⟩
  have HM2 := hidE hm2
  have HG : Hid (smallG g = if 60 < m + m2 then false else decide (gZ fR (gZ fN 0 g.nodes) g.rels ≤ 3000)) := by show _ = _; unfold smallG; rw [hm', hm2]
  rw [hm'] at r1 hln ⊢
  rw [hm2] at t1 hlr ⊢
  generalize g.nn = nn at *
  generalize g.nr = nr at *
  clear e0 e1 r3 t3 hm' hm2 hs
  obtain ⟨W1, hW1⟩ : ∃ W1, w.alloc (.cells #[.slice na m nc, .slice ra m2 rc, .int .i64 nn, .int .i64 nr] 25) = W1 := ⟨_, rfl⟩
  have HB1 : Hid (Below w.heap.size w W1) := hW1 ▸ (Below.refl _ _).alloc (Nat.le_refl _) _
  have c0 : W1.cell? ⟨w.heap.size, 0, none⟩ = some (.slice na m nc) := by rw [← hW1]; exact cell_new _ _ _ _ _ rfl
  have c1 : W1.cell? ⟨w.heap.size, 1, none⟩ = some (.slice ra m2 rc) := by rw [← hW1]; exact cell_new _ _ _ _ _ rfl
  have hz : w.heap.size < W1.heap.size := by rw [← hW1]; simp
  have HW1 := hidE hW1
  clear hW1
  by_cases hbig : 60 < m + m2
  · have hbig' : (60 : Int) < (m : Int) + m2 := by omega
    have HF : Hid (smallG g = false) := by show _ = _; rw [HG.out, if_pos hbig]
    clear HG hbig
    go_enter Tryz.func9, Tryz.ntmps9
    go_wp2_with (rw [HW1.out])
    go_ret
    exact ⟨by rw [HF.out]; rfl, HB1.out⟩
  have hbig' : ¬ (60 : Int) < (m : Int) + m2 := by omega
  have HF : Hid (smallG g = decide (gZ fR (gZ fN 0 g.nodes) g.rels ≤ 3000)) := by show _ = _; rw [HG.out, if_neg hbig]
  clear HG
  go_enter Tryz.func9, Tryz.ntmps9
  go_wp2_with (rw [HW1.out])
  have HC := hidE (And.intro c0 (And.intro c1 hz))
  clear c0 c1
  go_loopw [4, 3] (fun i u wr => ∃ j : Nat, j ≤ m ∧ i = .int .i64 j ∧ u = .int .i64 (gZ fN 0 (g.nodes.take j)) ∧ Below W1.heap.size W1 wr) (fun i _ _ => m - (RowKit.intOf i).toNat)
  case atStart => exact ⟨0, Nat.zero_le _, rfl, by simp [gZ], Below.refl _ _⟩
  case round =>
    obtain ⟨j, hj, rfl, rfl, hbr⟩ := hrel
    have HBR := hidE hbr
    have HBW : Hid (Below w.heap.size w wr) := Below.on HB1.out hbr
    have hkn := gZ_le fN 20000000000000000 (g.nodes.take j) 0 (fun mm y hy => fN_le HS.out mm y (List.mem_of_mem_take hy)) (by omega) (by omega)
    have f0 := (hbr.cell (p := ⟨w.heap.size, 0, none⟩) HC.out.2.2).trans HC.out.1
    by_cases hgo : j < m ∧ gZ fN 0 (g.nodes.take j) ≤ 3000
    · obtain ⟨hlt, hle⟩ := hgo
      have hlt' : (j : Int) < m := by omega
      obtain ⟨x, hx⟩ : ∃ q, g.nodes[j]? = some q := ⟨_, List.getElem?_eq_getElem (by have := HM.out; omega)⟩
      obtain ⟨bl, off, rfl, hbl, hc⟩ := HR3.out.resolve_left (by intro e; rw [e] at hx; simp at hx)
      obtain ⟨la, lc, pv, ⟨d0, d1, d2⟩, ⟨s1, s2⟩, hks, hps⟩ := hc j x hx
      have hbB : Below B w wr := HBW.out.mono hB
      have hnp := HS.out.np x (List.mem_of_getElem? hx)
      have HNL := hidE (HS.out.nl x (List.mem_of_getElem? hx))
      replace d0 := (hbB.cell (p := ⟨bl, off + j * 3, none⟩) hbl).trans d0
      replace d1 := (hbB.cell (p := ⟨bl, off + j * 3 + 1, none⟩) hbl).trans d1
      replace d2 := (hbB.cell (p := ⟨bl, off + j * 3 + 2, none⟩) hbl).trans d2
      have HST : Hid (gZ fN 0 (g.nodes.take (j + 1)) = keysZ 3000 (gZ fN 0 (g.nodes.take j)) x.labels + propZ 0 x.props) := by
        show _ = _
        rw [List.take_add_one, hx]
        exact (gZ_snoc fN _ _ _).trans (if_pos hle)
      have hBr : B ≤ wr.heap.size := Nat.le_trans hB HBW.out.size
      have HCL : Hid (∀ W, Below wr.heap.size wr W → Calls Tryz.prog 41 #[pv] W fun e w' => e = .returned (.int .i64 (propZ 0 x.props)) ∧ Below W.heap.size W w') := fun W hb =>
        psz_any x.props B pv W (Nat.le_trans hBr hb.size) (hps.below (hbB.trans (hb.mono hBr))) hnp
      have HKS : Hid (∀ W, Below wr.heap.size wr W → KeysLie B W la x.labels) := fun W hb => hks.below (hbB.trans (hb.mono hBr))
      obtain ⟨pa, pc, hpv⟩ : ∃ pa pc, pv = .slice pa x.props.length pc := by obtain ⟨pa, pc, e, _⟩ := hps; exact ⟨pa, pc, e⟩
      have hpz := propZ_le x.props 0 hnp (by omega)
      have hpg := propZ_ge x.props 0
      generalize propZ 0 x.props = pz at *
      obtain ⟨xl, hxl⟩ : ∃ l, x.labels = l := ⟨_, rfl⟩
      rw [hxl] at d1 s1 HKS HST HNL
      obtain ⟨n, hn⟩ : ∃ n, xl.length = n := ⟨_, rfl⟩
      have HN := hidE hn
      rw [hn] at d1 s1
      generalize x.id = xi at *
      obtain ⟨acc, hacc⟩ : ∃ a, gZ fN 0 (g.nodes.take j) = a := ⟨_, rfl⟩
      rw [hacc] at HST hkn hle ⊢
      clear hx hc hps hxl hks hn hacc hnp
      subst hpv
      generalize x.props.length = l3 at *
      go_upto_region 8 with fail
      have k1 : (wr.alloc (.cells #[.int .i64 xi, .slice la n lc, .slice pa l3 pc] 73)).cell? ⟨wr.heap.size, 1, none⟩ = some (.slice la n lc) := cell_new _ _ _ _ _ rfl
      have k2 : (wr.alloc (.cells #[.int .i64 xi, .slice la n lc, .slice pa l3 pc] 73)).cell? ⟨wr.heap.size, 2, none⟩ = some (.slice pa l3 pc) := cell_new _ _ _ _ _ rfl
      have HBA : Hid (Below wr.heap.size wr (wr.alloc (.cells #[.int .i64 xi, .slice la n lc, .slice pa l3 pc] 73))) := (Below.refl _ _).alloc (Nat.le_refl _) _
      generalize wr.alloc (.cells #[.int .i64 xi, .slice la n lc, .slice pa l3 pc] 73) = W2 at *
      clear d0 d1 d2 f0 hbr hbB
      go_wp2_with fail
      go_loop [6, 3] (fun k u => ∃ q : Nat, q ≤ n ∧ k = .int .i64 q ∧ u = .int .i64 (keysZ 3000 acc (xl.take q))) (fun k _ => n - (RowKit.intOf k).toNat)
      case atStart => exact ⟨0, Nat.zero_le _, rfl, by simp [keysZ]⟩
      case round =>
        obtain ⟨q, hq, rfl, rfl⟩ := hrel
        have hkz := keysZ_le 3000 (xl.take q) acc 140737488358400 (fun y hy => by have := HNL.out y (List.mem_of_mem_take hy); omega) (by omega) (by omega)
        have hkg := keysZ_ge 3000 (xl.take q) acc
        by_cases hgo3 : q < n ∧ keysZ 3000 acc (xl.take q) ≤ 3000
        · obtain ⟨hlt3, hle3⟩ := hgo3
          have hlt3' : (q : Int) < n := by omega
          have hlx : q < xl.length := by have := HN.out; omega
          obtain ⟨bk, ok, rfl, hbk, hkey⟩ := (HKS.out W2 HBA.out).resolve_left (by intro e; rw [e] at hlx; simp at hlx)
          have kc := (hkey q hlx).1
          have hksz := HNL.out (xl.getD q ⟨#[]⟩) (by rw [List.getD_eq_getElem?_getD, List.getElem?_eq_getElem hlx]; exact List.getElem_mem hlx)
          have HST3 : Hid (keysZ 3000 acc (xl.take (q + 1)) = keysZ 3000 acc (xl.take q) + 1 + (xl.getD q ⟨#[]⟩).size) := by
            show _ = _
            rw [List.take_add_one, List.getElem?_eq_getElem hlx, List.getD_eq_getElem?_getD, List.getElem?_eq_getElem hlx]
            exact (keysZ_snoc 3000 _ _ _).trans (if_pos hle3)
          generalize xl.getD q ⟨#[]⟩ = kx at *
          generalize keysZ 3000 acc (xl.take q) = acc3 at *
          clear hkey hlx
          go_wp2_with fail
          go_round
          case rel => exact ⟨q + 1, by omega, by go_num, by rw [HST3.out]⟩
          case measure => simp [RowKit.intOf]; omega
        · have HN3 : Hid (keysZ 3000 acc (xl.take q) = keysZ 3000 acc xl) := by
            show _ = _
            by_cases hlt3 : q < n
            · exact (keysZ_stop 3000 (fun h => hgo3 ⟨hlt3, h⟩)).symm
            · rw [List.take_of_length_le (by have := HN.out; omega)]
          generalize keysZ 3000 acc (xl.take q) = acc3 at *
          by_cases hlt3 : q < n
          · have hlt3' : (q : Int) < n := by omega
            have hle3 : ¬ acc3 ≤ 3000 := fun h => hgo3 ⟨hlt3, h⟩
            clear hgo3
            go_wp2_with (go_at_call 41; refine (HCL.out _ HBA.out).mono ?_; rintro e w3 ⟨rfl, y0⟩; have HY0 := hidE y0; clear y0)
            have HB3 : Hid (Below W1.heap.size W1 w3) := Below.on HBR.out (Below.on HBA.out HY0.out)
            go_roundw
            case rel => exact ⟨j + 1, by omega, by go_num, by rw [HST.out, HN3.out], HB3.out⟩
            case measure => simp [RowKit.intOf]; omega
          · have hlt3' : ¬ (q : Int) < n := by omega
            clear hgo3
            go_wp2_with (go_at_call 41; refine (HCL.out _ HBA.out).mono ?_; rintro e w3 ⟨rfl, y0⟩; have HY0 := hidE y0; clear y0)
            have HB3 : Hid (Below W1.heap.size W1 w3) := Below.on HBR.out (Below.on HBA.out HY0.out)
            go_roundw
            case rel => exact ⟨j + 1, by omega, by go_num, by rw [HST.out, HN3.out], HB3.out⟩
            case measure => simp [RowKit.intOf]; omega
    · have HN1 : Hid (gZ fN 0 (g.nodes.take j) = gZ fN 0 g.nodes) := by
        show _ = _
        by_cases hlt : j < m
        · exact (gZ_stop fN (fun h => hgo ⟨hlt, h⟩)).symm
        · rw [List.take_of_length_le (by have := HM.out; omega)]
      generalize gZ fN 0 (g.nodes.take j) = n1 at *
      clear hbr
      by_cases hlt : j < m
      · have hlt' : (j : Int) < m := by omega
        have hle : ¬ n1 ≤ 3000 := fun h => hgo ⟨hlt, h⟩
        clear hgo
        go_wp2_with fail
        go_loopw [7, 3] (fun i u wr => ∃ p : Nat, p ≤ m2 ∧ i = .int .i64 p ∧ u = .int .i64 (gZ fR n1 (g.rels.take p)) ∧ Below W1.heap.size W1 wr) (fun i _ _ => m2 - (RowKit.intOf i).toNat)
        case atStart => exact ⟨0, Nat.zero_le _, rfl, by simp [gZ], HBR.out⟩
        case round =>
          obtain ⟨p, hp, rfl, rfl, hbr2⟩ := hrel
          clear f0
          have hk2 := gZ_le fR 20000000000000000 (g.rels.take p) n1 (fun mm y hy => fR_le HS.out mm y (List.mem_of_mem_take hy)) (by omega) (by omega)
          have f1 := (hbr2.cell (p := ⟨w.heap.size, 1, none⟩) HC.out.2.2).trans HC.out.2.1
          have HBW2 : Hid (Below w.heap.size w wr) := Below.on HB1.out hbr2
          have HBR2 := hidE hbr2
          by_cases hgo2 : p < m2 ∧ gZ fR n1 (g.rels.take p) ≤ 3000
          · obtain ⟨hlt2, hle2⟩ := hgo2
            have hlt2' : (p : Int) < m2 := by omega
            obtain ⟨y, hy⟩ : ∃ q, g.rels[p]? = some q := ⟨_, List.getElem?_eq_getElem (by have := HM2.out; omega)⟩
            obtain ⟨bl2, off2, rfl, hbl2, hc2⟩ := HT3.out.resolve_left (by intro e; rw [e] at hy; simp at hy)
            obtain ⟨pv2, ⟨e0, e1, e2, e3, e4⟩, hts, hps2⟩ := hc2 p y hy
            have hbB : Below B w wr := HBW2.out.mono hB
            have hsr := HS.out.rp y (List.mem_of_getElem? hy)
            have hst := HS.out.rt y (List.mem_of_getElem? hy)
            replace e3 := (hbB.cell (p := ⟨bl2, off2 + p * 5 + 3, none⟩) hbl2).trans e3
            replace e4 := (hbB.cell (p := ⟨bl2, off2 + p * 5 + 4, none⟩) hbl2).trans e4
            have HST2 : Hid (gZ fR n1 (g.rels.take (p + 1)) = gZ fR n1 (g.rels.take p) + 1 + y.type.size + propZ 0 y.props) := by
              show _ = _
              rw [List.take_add_one, hy]
              exact (gZ_snoc fR _ _ _).trans (if_pos hle2)
            have HCL2 : Hid (∀ W, Below wr.heap.size wr W → Calls Tryz.prog 41 #[pv2] W fun e w' => e = .returned (.int .i64 (propZ 0 y.props)) ∧ Below W.heap.size W w') := fun W hb =>
              psz_any y.props B pv2 W (Nat.le_trans hB (Nat.le_trans HBW2.out.size hb.size)) (hps2.below (hbB.trans (hb.mono (Nat.le_trans hB HBW2.out.size)))) hsr
            have hpz := propZ_le y.props 0 hsr (by omega)
            have hpg := propZ_ge y.props 0
            generalize propZ 0 y.props = pz at *
            generalize y.type = ty at *
            generalize gZ fR n1 (g.rels.take p) = acc2 at *
            clear hy hc2 hps2 hsr hbB e0 e1 e2 hts
            go_upto_region 16 with fail
            have HD0 := hidE ((Below.refl wr.heap.size wr).drew)
            have g0 : ∀ u : Up wr.drew, u.x.cell? ⟨w.heap.size, 1, none⟩ = some (.slice (some ⟨bl2, off2, none⟩) m2 rc) := fun u => u.cell (show wr.drew.cell? _ = _ from f1)
            have g1 : ∀ u : Up wr.drew, u.x.cell? ⟨bl2, off2 + p * 5 + 3, none⟩ = some (.string ty) := fun u => u.cell (show wr.drew.cell? _ = _ from e3)
            have g2 : ∀ u : Up wr.drew, u.x.cell? ⟨bl2, off2 + p * 5 + 4, none⟩ = some pv2 := fun u => u.cell (show wr.drew.cell? _ = _ from e4)
            have up_ne : Nonempty (Up wr.drew) := ⟨⟨wr.drew, Below.refl _ _⟩⟩
            clear f1 e3 e4 hbr2
            refine wp_calm [([0, 1, 2, 3, 4, 5, 6, 7, 8, 9, 10, 11, 12, 13, 14, 15], 16)] [17] [18] (by kernel_rfl) (by kernel_rfl) ?_
            simp only [wpCalm, wpLoud, pickL, nthL, upC_eqT]
            repeat (go_big_quiet_step (fail))
            refine wpQuiet_nil ?_
            clear up_ne g0 g1 g2
            go_wp2_with (go_at_call 41; refine (HCL2.out _ HD0.out).mono ?_; rintro e u50 ⟨rfl, y0⟩; have HY0 := hidE y0; clear y0)
            have HB5 : Hid (Below W1.heap.size W1 u50) := Below.on HBR2.out (Below.on HD0.out HY0.out)
            refine ⟨HY0.out, ?_⟩
            have up_ne : Nonempty (Up u50) := ⟨⟨u50, Below.refl _ _⟩⟩
            repeat (go_big_quiet_step (fail))
            refine wpQuiet_nil ?_
            clear up_ne
            go_wp2_with fail
            go_roundw
            case rel => exact ⟨p + 1, by omega, by go_num, by rw [HST2.out], HB5.out⟩
            case measure => simp [RowKit.intOf]; omega
          · have HN2 : Hid (gZ fR n1 (g.rels.take p) = gZ fR n1 g.rels) := by
              show _ = _
              by_cases hlt2 : p < m2
              · exact (gZ_stop fR (fun h => hgo2 ⟨hlt2, h⟩)).symm
              · rw [List.take_of_length_le (by have := HM2.out; omega)]
            have HFF : Hid (smallG g = decide (gZ fR n1 (g.rels.take p) ≤ 3000)) := by show _ = _; rw [HF.out, HN2.out, HN1.out]
            generalize gZ fR n1 (g.rels.take p) = acc2 at *
            clear hbr2
            by_cases hlt2 : p < m2
            · have hlt2' : (p : Int) < m2 := by omega
              have hle2 : ¬ acc2 ≤ 3000 := fun h => hgo2 ⟨hlt2, h⟩
              have HFF2 : Hid (smallG g = false) := by show _ = _; rw [HFF.out]; exact decide_eq_false hle2
              clear hgo2 HFF
              go_wp2_with fail
              go_ret
              exact ⟨by rw [HFF2.out]; rfl, HBW2.out⟩
            · have hlt2' : ¬ (p : Int) < m2 := by omega
              clear hgo2
              by_cases hle2 : acc2 ≤ 3000
              · have HFF2 : Hid (smallG g = true) := by show _ = _; rw [HFF.out]; exact decide_eq_true hle2
                clear HFF
                go_wp2_with fail
                go_ret
                exact ⟨by rw [HFF2.out]; rfl, HBW2.out⟩
              · have HFF2 : Hid (smallG g = false) := by show _ = _; rw [HFF.out]; exact decide_eq_false hle2
                clear HFF
                go_wp2_with fail
                go_ret
                exact ⟨by rw [HFF2.out]; rfl, HBW2.out⟩
      · have hlt' : ¬ (j : Int) < m := by omega
        clear hgo
        go_wp2_with fail
        go_loopw [7, 3] (fun i u wr => ∃ p : Nat, p ≤ m2 ∧ i = .int .i64 p ∧ u = .int .i64 (gZ fR n1 (g.rels.take p)) ∧ Below W1.heap.size W1 wr) (fun i _ _ => m2 - (RowKit.intOf i).toNat)
        case atStart => exact ⟨0, Nat.zero_le _, rfl, by simp [gZ], HBR.out⟩
        case round =>
          obtain ⟨p, hp, rfl, rfl, hbr2⟩ := hrel
          clear f0
          have hk2 := gZ_le fR 20000000000000000 (g.rels.take p) n1 (fun mm y hy => fR_le HS.out mm y (List.mem_of_mem_take hy)) (by omega) (by omega)
          have f1 := (hbr2.cell (p := ⟨w.heap.size, 1, none⟩) HC.out.2.2).trans HC.out.2.1
          have HBW2 : Hid (Below w.heap.size w wr) := Below.on HB1.out hbr2
          have HBR2 := hidE hbr2
          by_cases hgo2 : p < m2 ∧ gZ fR n1 (g.rels.take p) ≤ 3000
          · obtain ⟨hlt2, hle2⟩ := hgo2
            have hlt2' : (p : Int) < m2 := by omega
            obtain ⟨y, hy⟩ : ∃ q, g.rels[p]? = some q := ⟨_, List.getElem?_eq_getElem (by have := HM2.out; omega)⟩
            obtain ⟨bl2, off2, rfl, hbl2, hc2⟩ := HT3.out.resolve_left (by intro e; rw [e] at hy; simp at hy)
            obtain ⟨pv2, ⟨e0, e1, e2, e3, e4⟩, hts, hps2⟩ := hc2 p y hy
            have hbB : Below B w wr := HBW2.out.mono hB
            have hsr := HS.out.rp y (List.mem_of_getElem? hy)
            have hst := HS.out.rt y (List.mem_of_getElem? hy)
            replace e3 := (hbB.cell (p := ⟨bl2, off2 + p * 5 + 3, none⟩) hbl2).trans e3
            replace e4 := (hbB.cell (p := ⟨bl2, off2 + p * 5 + 4, none⟩) hbl2).trans e4
            have HST2 : Hid (gZ fR n1 (g.rels.take (p + 1)) = gZ fR n1 (g.rels.take p) + 1 + y.type.size + propZ 0 y.props) := by
              show _ = _
              rw [List.take_add_one, hy]
              exact (gZ_snoc fR _ _ _).trans (if_pos hle2)
            have HCL2 : Hid (∀ W, Below wr.heap.size wr W → Calls Tryz.prog 41 #[pv2] W fun e w' => e = .returned (.int .i64 (propZ 0 y.props)) ∧ Below W.heap.size W w') := fun W hb =>
              psz_any y.props B pv2 W (Nat.le_trans hB (Nat.le_trans HBW2.out.size hb.size)) (hps2.below (hbB.trans (hb.mono (Nat.le_trans hB HBW2.out.size)))) hsr
            have hpz := propZ_le y.props 0 hsr (by omega)
            have hpg := propZ_ge y.props 0
            generalize propZ 0 y.props = pz at *
            generalize y.type = ty at *
            generalize gZ fR n1 (g.rels.take p) = acc2 at *
            clear hy hc2 hps2 hsr hbB e0 e1 e2 hts
            go_upto_region 16 with fail
            have HD0 := hidE ((Below.refl wr.heap.size wr).drew)
            have g0 : ∀ u : Up wr.drew, u.x.cell? ⟨w.heap.size, 1, none⟩ = some (.slice (some ⟨bl2, off2, none⟩) m2 rc) := fun u => u.cell (show wr.drew.cell? _ = _ from f1)
            have g1 : ∀ u : Up wr.drew, u.x.cell? ⟨bl2, off2 + p * 5 + 3, none⟩ = some (.string ty) := fun u => u.cell (show wr.drew.cell? _ = _ from e3)
            have g2 : ∀ u : Up wr.drew, u.x.cell? ⟨bl2, off2 + p * 5 + 4, none⟩ = some pv2 := fun u => u.cell (show wr.drew.cell? _ = _ from e4)
            have up_ne : Nonempty (Up wr.drew) := ⟨⟨wr.drew, Below.refl _ _⟩⟩
            clear f1 e3 e4 hbr2
            refine wp_calm [([0, 1, 2, 3, 4, 5, 6, 7, 8, 9, 10, 11, 12, 13, 14, 15], 16)] [17] [18] (by kernel_rfl) (by kernel_rfl) ?_
            simp only [wpCalm, wpLoud, pickL, nthL, upC_eqT]
            repeat (go_big_quiet_step (fail))
            refine wpQuiet_nil ?_
            clear up_ne g0 g1 g2
            go_wp2_with (go_at_call 41; refine (HCL2.out _ HD0.out).mono ?_; rintro e u50 ⟨rfl, y0⟩; have HY0 := hidE y0; clear y0)
            have HB5 : Hid (Below W1.heap.size W1 u50) := Below.on HBR2.out (Below.on HD0.out HY0.out)
            refine ⟨HY0.out, ?_⟩
            have up_ne : Nonempty (Up u50) := ⟨⟨u50, Below.refl _ _⟩⟩
            repeat (go_big_quiet_step (fail))
            refine wpQuiet_nil ?_
            clear up_ne
            go_wp2_with fail
            go_roundw
            case rel => exact ⟨p + 1, by omega, by go_num, by rw [HST2.out], HB5.out⟩
            case measure => simp [RowKit.intOf]; omega
          · have HN2 : Hid (gZ fR n1 (g.rels.take p) = gZ fR n1 g.rels) := by
              show _ = _
              by_cases hlt2 : p < m2
              · exact (gZ_stop fR (fun h => hgo2 ⟨hlt2, h⟩)).symm
              · rw [List.take_of_length_le (by have := HM2.out; omega)]
            have HFF : Hid (smallG g = decide (gZ fR n1 (g.rels.take p) ≤ 3000)) := by show _ = _; rw [HF.out, HN2.out, HN1.out]
            generalize gZ fR n1 (g.rels.take p) = acc2 at *
            clear hbr2
            by_cases hlt2 : p < m2
            · have hlt2' : (p : Int) < m2 := by omega
              have hle2 : ¬ acc2 ≤ 3000 := fun h => hgo2 ⟨hlt2, h⟩
              have HFF2 : Hid (smallG g = false) := by show _ = _; rw [HFF.out]; exact decide_eq_false hle2
              clear hgo2 HFF
              go_wp2_with fail
              go_ret
              exact ⟨by rw [HFF2.out]; rfl, HBW2.out⟩
            · have hlt2' : ¬ (p : Int) < m2 := by omega
              clear hgo2
              by_cases hle2 : acc2 ≤ 3000
              · have HFF2 : Hid (smallG g = true) := by show _ = _; rw [HFF.out]; exact decide_eq_true hle2
                clear HFF
                go_wp2_with fail
                go_ret
                exact ⟨by rw [HFF2.out]; rfl, HBW2.out⟩
              · have HFF2 : Hid (smallG g = false) := by show _ = _; rw [HFF.out]; exact decide_eq_false hle2
                clear HFF
                go_wp2_with fail
                go_ret
                exact ⟨by rw [HFF2.out]; rfl, HBW2.out⟩
end Go.Proofs.YthfilnflgahcjaaGreatDoor

