/- The first row of each key. What is reckoned from counts: all nodes, those with labels. -/
import Derived.Test.YthfilnflgahcjaaGreatDoorJoin4
import Derived.Deep.Cut
namespace Go.Proofs.YthfilnflgahcjaaGreatDoor
open Go.RowKit Go.Shelf Go.Maps
set_option linter.unusedVariables false
set_option linter.unusedSimpArgs false
attribute [local go_sem] Oper.semAt_some
set_option maxRecDepth 100000 in
set_option maxHeartbeats 4000000 in
theorem f55_any (rows : List (ByteArray × Int)) (keys : List (ByteArray)) (vr vk : Value) (B : Nat) (w : World) (hB : B ≤ w.heap.size) (hr : SRow 2 labC B w vr rows) (hk : SRow 1 strE B w vk keys) (hrs : ∀ x ∈ rows, okS x.1) (hks : ∀ x ∈ keys, okS x) (hrl : rows.length ≤ 100000) (hkl : keys.length ≤ 100000) :
    Calls Tryz.prog 55 #[vr, .func (.func 56) #[] #[], vk] w fun e w' => ∃ v, e = .returned v ∧ ORow 42 2 labC w.heap.size w' v (firstsL Prod.fst (⟨#[]⟩, 0) rows keys) ∧ Below w.heap.size w w' := by
  obtain ⟨ra, rc, rfl, r1, r2, r3⟩ := hr
  obtain ⟨ka, kc, rfl, k1, k2, k3⟩ := hk
  have HR3 := hidE r3
  have HK3 := hidE k3
  have HRS := hidE hrs
  have HKS := hidE hks
  obtain ⟨m, hm⟩ : ∃ n, rows.length = n := ⟨_, rfl⟩
  obtain ⟨n, hn⟩ : ∃ n, keys.length = n := ⟨_, rfl⟩
  have HM := hidE hm
  have HN := hidE hn
  rw [hm] at r1 hrl ⊢
  rw [hn] at k1 hkl ⊢
  clear r3 k3 hrs hks hm hn
  have hmk : ∀ W : World, (Instr.makeMap 163 none).run Tryz.prog W = .ok (.map (some W.heap.size)) (W.alloc (.map #[] 0)) := fun W => rfl
  go_enter Tryz.func55, Tryz.ntmps55
  go_wp2_with fail
  go_loopw [18] (fun i wr => ∃ j : Nat, j ≤ n ∧ i = .int .i64 j ∧ wr.heap.size = w.heap.size + 1 ∧ Below w.heap.size w wr ∧ MS strV okS wr w.heap.size ((keys.take j).foldl putS [])) (fun i _ => n - (intOf i).toNat)
  case atStart => exact ⟨0, Nat.zero_le _, rfl, by simp, (Below.refl _ _).alloc (Nat.le_refl _) _, mg_none _⟩
  case round =>
    obtain ⟨j, hj, rfl, hsz, hbr, hms⟩ := hrel
    have HBR := hidE hbr
    have HMS := hidE hms
    have HSZ := hidE hsz
    clear hbr hms hsz
    by_cases hlt : j < n
    · have hlt' : (j : Int) < n := by omega
      obtain ⟨x, hx⟩ : ∃ q, keys[j]? = some q := ⟨_, List.getElem?_eq_getElem (by have := HN.out; omega)⟩
      obtain ⟨bl, off, rfl, hbl, hc⟩ := HK3.out.resolve_left (by intro e; rw [e] at hx; simp at hx)
      have cx := (HBR.out.cell (p := ⟨bl, off + j * 1 + 0, none⟩) (show bl < w.heap.size by omega)).trans (hc j x hx 0 _ rfl)
      rw [Nat.mul_one, Nat.add_zero] at cx
      have HX := hidE hx
      obtain ⟨W, q1, q2, q3, q4, q5⟩ := ms_put strT map163 HMS.out (puts_nodup _ _ List.nodup_nil) x (HKS.out _ (List.mem_of_getElem? hx))
      simp only [strV] at q1
      have HQ := hidE (And.intro q2 (And.intro q3 q5))
      clear hx hc q2 q3 q4 q5
      go_wp2_with fail
      go_roundw
      case rel => exact ⟨j + 1, by omega, by go_num, by rw [HQ.out.2.1]; exact HSZ.out, HBR.out.trans HQ.out.2.2, by rw [puts_at HX.out]; exact HQ.out.1⟩
      case measure => simp [intOf]; omega
    · have hlt' : ¬ (j : Int) < n := by omega
      have HL := HMS.out
      rw [List.take_of_length_le (by have := HN.out; omega)] at HL
      obtain ⟨W0, hW0⟩ : ∃ W0, W0 = wr := ⟨_, rfl⟩
      subst hW0
      obtain ⟨K0, hK0⟩ : ∃ l, keys.foldl putS [] = l := ⟨_, rfl⟩
      have HND : Hid (K0.Nodup) := by show _; rw [← hK0]; exact puts_nodup _ _ List.nodup_nil
      have HKL : Hid (K0.length ≤ 100000) := by
        have := puts_len keys ([] : List (ByteArray))
        rw [hK0] at this
        have h2 := HN.out
        show K0.length ≤ 100000
        simp only [List.length_nil] at this; omega
      have HKO : Hid (firstsL Prod.fst (⟨#[]⟩, 0) rows keys = (goFirst Prod.fst rows K0).1 ++ List.replicate (goFirst Prod.fst rows K0).2.length (⟨#[]⟩, 0)) := by
        show _ = _
        unfold firstsL
        rw [hK0]
      rw [hK0] at HL
      have HL := hidE HL
      clear hK0 HMS
      have FIN : Hid (∀ (W : World) (v : Value) (out : List (ByteArray × Int)) (left : List (ByteArray)), Below w.heap.size w W → w.heap.size + 1 ≤ W.heap.size → ORow 42 2 labC (w.heap.size + 1) W v out → out.length + left.length ≤ 100000 → ∃ v' W', (Builtin.append_ #[28, 3] 28 #[v, .int .i64 left.length]).run Tryz.prog W = .ok v' W' ∧ ORow 42 2 labC w.heap.size W' v' (out ++ List.replicate left.length (⟨#[]⟩, 0)) ∧ Below w.heap.size w W') := by
        intro W v out left hb hs ho hl
        obtain ⟨v', W', p1, p2, p3⟩ := append_zeros (ty := 28) (tn := 3) (x := ((⟨#[]⟩, 0) : ByteArray × Int)) (m := left.length) elem28 Tryz.underlying3 (fun x => rfl) one_lab rfl ho (by omega) hs
        exact ⟨v', W', p1, p2.base (by omega), hb.trans (p3.mono (by omega))⟩
      go_wp2_with fail
      go_loopw [10, 28] (fun v i wr => ∃ (j : Nat) (out : List (ByteArray × Int)) (left : List (ByteArray)), j ≤ m ∧ i = .int .i64 j ∧ w.heap.size + 1 ≤ wr.heap.size ∧ Below w.heap.size w wr ∧ MS strV okS wr w.heap.size left ∧ left.Nodup ∧ ORow 42 2 labC (w.heap.size + 1) wr v out ∧ out.length + left.length ≤ 100000 ∧ out ++ (goFirst Prod.fst (rows.drop j) left).1 = (goFirst Prod.fst rows K0).1 ∧ (goFirst Prod.fst (rows.drop j) left).2 = (goFirst Prod.fst rows K0).2) (fun _ i _ => m - (intOf i).toNat)
      case atStart => exact ⟨0, [], K0, Nat.zero_le _, rfl, by rw [HSZ.out]; exact Nat.le_refl _, HBR.out, HL.out, HND.out, orow_nil _ _ _ _ _, by have := HKL.out; simpa using this, rfl, rfl⟩
      case round =>
        obtain ⟨j, out, left, hj, rfl, hsz, hbr, hms, hnd, hor, hln, e1, e2⟩ := hrel
        have HB2 := hidE hbr
        have HM2 := hidE hms
        have HO2 := hidE hor
        have HNd := hidE hnd
        have HS2 := hidE hsz
        have HLn := hidE hln
        have HE := hidE (And.intro e1 e2)
        clear hbr hms hor hnd hsz hln e1 e2
        by_cases hlt : j < m
        · have hlt' : (j : Int) < m := by omega
          obtain ⟨⟨s, q⟩, hx⟩ : ∃ q, rows[j]? = some q := ⟨_, List.getElem?_eq_getElem (by have := HM.out; omega)⟩
          obtain ⟨bl, off, rfl, hbl, hc⟩ := HR3.out.resolve_left (by intro e; rw [e] at hx; simp at hx)
          have c0 := (HB2.out.cell (p := ⟨bl, off + j * 2 + 0, none⟩) (show bl < w.heap.size by omega)).trans (hc j (s, q) hx 0 _ rfl)
          have c1 := (HB2.out.cell (p := ⟨bl, off + j * 2 + 1, none⟩) (show bl < w.heap.size by omega)).trans (hc j (s, q) hx 1 _ rfl)
          rw [Nat.add_zero] at c0
          simp only at c0 c1
          have HX := hidE hx
          clear hx hc
          go_upto_region 11 with fail
          have g0 : (wr.alloc (.cells #[.string s, .int .i64 q] 42)).cell? ⟨wr.heap.size, 0, none⟩ = some _ := cell_new _ _ _ _ _ rfl
          have g1 : (wr.alloc (.cells #[.string s, .int .i64 q] 42)).cell? ⟨wr.heap.size, 1, none⟩ = some _ := cell_new _ _ _ _ _ rfl
          have hb1 : Below wr.heap.size wr (wr.alloc (.cells #[.string s, .int .i64 q] 42)) := (Below.refl _ _).alloc (Nat.le_refl _) _
          obtain ⟨W1, hW1⟩ : ∃ W, wr.alloc (.cells #[.string s, .int .i64 q] 42) = W := ⟨_, rfl⟩
          have hx1 : wr.heap.size < W1.heap.size := by rw [← hW1]; simp
          rw [hW1] at g0 g1 hb1 ⊢
          clear hW1 c0 c1
          have HM3 : Hid (MS strV okS W1 w.heap.size left) := HM2.out.block (hb1.block _ HM2.out.lt)
          have HO3 : Hid (ORow 42 2 labC (w.heap.size + 1) W1 _ out) := HO2.out.below hb1
          have HB3 := hidE (HB2.out.trans (hb1.mono HB2.out.size))
          have HX1 := hidE hx1
          obtain ⟨X, hX⟩ : ∃ X, wr.heap.size = X := ⟨_, rfl⟩
          rw [hX] at g0 g1 hx1 HX1 ⊢
          have HS3 : Hid (w.heap.size + 1 ≤ X) := by show _ ≤ _; rw [← hX]; exact HS2.out
          clear hb1 hX hx1
          have hlen := ms_len (ty := 3) map163 HM3.out
          by_cases hl0 : left = []
          · subst hl0
            simp only [List.length_nil] at hlen
            obtain ⟨v', W', p1, p2, p3⟩ := FIN.out W1 _ out [] HB3.out (by have := HS3.out; have := HX1.out; omega) HO3.out HLn.out
            simp only [List.length_nil, Int.ofNat_zero] at p1
            have HP := hidE (And.intro p2 p3)
            clear p2 p3
            go_wp2_with (at_builtin; refine Lib.wpList_append_run _ rfl _ _ _ _ rfl _ _ rfl rfl _ _ p1 ?_)
            go_ret
            refine ⟨_, rfl, ?_, HP.out.2⟩
            have h1 := HE.out
            rw [goFirst_none] at h1
            rw [HKO.out, ← h1.1, ← h1.2]
            simpa using HP.out.1
          · have hl1 : (left.length : Int) ≠ 0 := by
              have : left.length ≠ 0 := fun e => hl0 (List.eq_nil_of_length_eq_zero e)
              omega
            have hl2 : ((left.length : Int) == 0) = false := beq_eq_false_iff_ne.2 hl1
            have HL0 := hidE hl0
            clear hl0 hl1
            have HOK : Hid (okS s) := HRS.out _ (List.mem_of_getElem? HX.out)
            obtain ⟨z, hz⟩ : ∃ z : Bool, (z = true ↔ s ∈ left) := by
              by_cases h : s ∈ left
              · exact ⟨true, by simp [h]⟩
              · exact ⟨false, by simp [h]⟩
            have HZ := hidE hz
            clear hz
            go_upto_region 13 with (go_at_call 56; refine (f56_any s q _).mono ?_; rintro e W2 ⟨rfl, hb2⟩; have hlk := ms_lookB strT map163 zero164 (HM3.out.block (hb2.block _ HM3.out.lt)) s HOK.out z HZ.out; simp only [strV] at hlk; have HB4 := hidE hb2; have hsz2 := hb2.size; clear hb2)
            clear hlk hlen
            have hb3 : Below W1.heap.size W1 (W2.alloc (.cells #[] 164)) := HB4.out.alloc hsz2 _
            have hx3 : W2.heap.size < (W2.alloc (.cells #[] 164)).heap.size := by simp
            obtain ⟨W3, hW3⟩ : ∃ W, W2.alloc (.cells #[] 164) = W := ⟨_, rfl⟩
            rw [hW3] at hb3 hx3 ⊢
            have hxl : X < W1.heap.size := HX1.out
            have hxl3 : X < W3.heap.size := by omega
            have g10 := (hb3.cell (p := ⟨X, 0, none⟩) hxl).trans g0
            have g11 := (hb3.cell (p := ⟨X, 1, none⟩) hxl).trans g1
            have HM4 : Hid (MS strV okS W3 w.heap.size left) := HM3.out.block (hb3.block _ HM3.out.lt)
            have HO4 : Hid (ORow 42 2 labC (w.heap.size + 1) W3 _ out) := HO3.out.below hb3
            have HB5 : Hid (Below w.heap.size w W3) := HB3.out.trans (hb3.mono (by have := HB3.out.size; omega))
            have HXL := hidE hxl3
            clear hW3 hb3 hx3 hsz2 HB4 HX1 hxl hxl3 g0 g1
            cases z with
            | true =>
              have hm : s ∈ left := HZ.out.1 rfl
              go_upto_region 15 with (go_at_call 56; refine (f56_any s q _).mono ?_; rintro e W4 ⟨rfl, hb4⟩; obtain ⟨W5, d1, d2, d3, d4, d5⟩ := ms_del (ty := 0) strT map163 (HM4.out.block (hb4.block _ HM4.out.lt)) HNd.out s HOK.out hm; simp only [strV] at d1; have HD := hidE (And.intro hb4 (And.intro d2 (And.intro d3 (And.intro d4 d5)))); clear hb4 d2 d3 d4 d5)
              obtain ⟨hb4, d2, d3, d4, d5⟩ := HD.out
              have hX4 : X < W4.heap.size := Nat.lt_of_lt_of_le HXL.out hb4.size
              have hXb : X ≠ w.heap.size := by have := HS3.out; omega
              have k10 := ((World.cell?_of_block (w := W4) (a := ⟨X, 0, none⟩) (d4 X hXb)).trans (hb4.cell (p := ⟨X, 0, none⟩) HXL.out)).trans g10
              have k11 := ((World.cell?_of_block (w := W4) (a := ⟨X, 1, none⟩) (d4 X hXb)).trans (hb4.cell (p := ⟨X, 1, none⟩) HXL.out)).trans g11
              have HO5 : ORow 42 2 labC (w.heap.size + 1) W5 _ out := (HO4.out.below hb4).keep fun g hg _ => d4 g (by omega)
              have hs5 : w.heap.size + 1 ≤ W5.heap.size := by have := HS3.out; omega
              have HB6 : Below w.heap.size w W5 := (HB5.out.trans (hb4.mono HB5.out.size)).trans (d5.mono (Nat.le_refl _))
              obtain ⟨v6, W6, p1, p2, p3, p4⟩ := append_one (ty := 28) (c := 1) (bl := W5.heap.size) (off := 0) (x := (s, q)) elem28 (fun x => rfl) one_lab (HO5.below ((Below.refl _ _).alloc (Nat.le_refl _) (.cells #[.string s, .int .i64 q] 42))) (fun jj u hu => by
                rw [Nat.zero_add]
                exact cell_new _ _ _ _ _ (by simpa [labC] using hu)) (by have := HLn.out; omega) (by simp; omega)
              have HP := hidE (And.intro p2 (And.intro p3 (And.intro HB6 (And.intro d2 hs5))))
              clear hb4 d2 d3 d4 d5 HD p2 p3 p4 HB6 hs5 HO5 hX4 hXb
              go_wp2_with (at_builtin; refine Lib.wpList_append_run _ rfl _ _ _ _ rfl _ _ rfl rfl _ _ p1 ?_)
              go_roundw
              case rel =>
                obtain ⟨p2, p3, p5, p6, p7⟩ := HP.out
                have hbA : Below W5.heap.size W5 (W5.alloc (.cells #[.string s, .int .i64 q] 42)) := (Below.refl _ _).alloc (Nat.le_refl _) _
                have p8 := p6.block ((p3.block _ (by omega)).trans (hbA.block _ (by omega)))
                have hh := goFirst_hit (key := Prod.fst) HX.out HL0.out hm
                have hE := HE.out
                rw [hh] at hE
                refine ⟨j + 1, out ++ [(s, q)], delS s left, by omega, by go_num, ?_, (p5.trans (hbA.mono (by omega))).trans (p3.mono (by omega)), p8, delS_nodup HNd.out _, p2, ?_, ?_, hE.2⟩
                · have := p3.size; have := hbA.size; omega
                · have h1 := HLn.out
                  have h2 := delS_len hm
                  simp only [List.length_append, List.length_cons, List.length_nil]; omega
                · rw [← hE.1]; simp
              case measure => simp [intOf]; omega
            | false =>
              have hm : ¬ s ∈ left := fun h => by have := HZ.out.2 h; cases this
              go_wp2_with fail
              go_roundw
              case rel => exact ⟨j + 1, out, left, by omega, by go_num, by have := HS3.out; have := HXL.out; omega, HB5.out, HM4.out, HNd.out, HO4.out, HLn.out, by rw [← goFirst_miss HX.out HL0.out hm]; exact HE.out.1, by rw [← goFirst_miss HX.out HL0.out hm]; exact HE.out.2⟩
              case measure => simp [intOf]; omega
        · have hlt' : ¬ (j : Int) < m := by omega
          have hlen := ms_len (ty := 3) map163 HM2.out
          obtain ⟨v', W', p1, p2, p3⟩ := FIN.out wr _ out left HB2.out HS2.out HO2.out HLn.out
          have HP := hidE (And.intro p2 p3)
          clear p2 p3
          go_wp2_with (at_builtin; refine Lib.wpList_append_run _ rfl _ _ _ _ rfl _ _ rfl rfl _ _ p1 ?_)
          go_ret
          refine ⟨_, rfl, ?_, HP.out.2⟩
          have h1 := HE.out
          rw [List.drop_of_length_le (by have := HM.out; omega)] at h1
          simp only [goFirst, List.append_nil] at h1
          rw [HKO.out, ← h1.1, ← h1.2]
          exact HP.out.1
end Go.Proofs.YthfilnflgahcjaaGreatDoor

namespace Go.Proofs.YthfilnflgahcjaaGreatDoor
open Go.RowKit Go.Shelf Go.Maps
set_option linter.unusedVariables false
set_option linter.unusedSimpArgs false
attribute [local go_sem] Oper.semAt_some
/-- Counts. -/
structure StatP where
  nodes : Int
  rels : Int
  labels : List (ByteArray × Int)
  types : List (ByteArray × Int)
  ends : List EndR
  keys : List KeyR
/-- Counts that lie somewhere. -/
structure StatL (B : Nat) (w : World) (vl vt ve vk : Value) (s : StatP) : Prop where
  hl : SRow 2 labC B w vl s.labels
  ht : SRow 2 labC B w vt s.types
  he : SRow 4 endC B w ve s.ends
  hk : SRow 4 keyC B w vk s.keys
  ol : ∀ x ∈ s.labels, okS x.1
  ot : ∀ x ∈ s.types, okS x.1
  oe : ∀ x ∈ s.ends, okE x
  ok : ∀ x ∈ s.keys, okK x
  nl : s.labels.length ≤ 100000
  nt : s.types.length ≤ 100000
  ne : s.ends.length ≤ 900000
  nk : s.keys.length ≤ 900000
def statV (s : StatP) (vl vt ve vk : Value) : Value := .agg #[.int .i64 s.nodes, .int .i64 s.rels, vl, vt, ve, vk]
theorem StatL.keep {B : Nat} {w w' : World} {vl vt ve vk : Value} {s : StatP} (h : StatL B w vl vt ve vk s) (hb : Below B w w') : StatL B w' vl vt ve vk s := ⟨h.hl.keep hb, h.ht.keep hb, h.he.keep hb, h.hk.keep hb, h.ol, h.ot, h.oe, h.ok, h.nl, h.nt, h.ne, h.nk⟩
set_option maxRecDepth 100000 in
set_option maxHeartbeats 4000000 in
theorem all_any (s : StatP) (vl vt ve vk : Value) (B : Nat) (w : World) (h : StatL B w vl vt ve vk s) : Calls Tryz.prog 17 #[statV s vl vt ve vk] w fun e w' => e = .returned (.int .i64 (cutI s.nodes)) ∧ Below w.heap.size w w' := by
  obtain ⟨la, lc, rfl, _⟩ := h.hl
  obtain ⟨ta, tc, rfl, _⟩ := h.ht
  obtain ⟨ea, ec, rfl, _⟩ := h.he
  obtain ⟨ka, kc, rfl, _⟩ := h.hk
  unfold statV
  have HC := hidE (fun W => cut_any s.nodes W)
  generalize s.nodes = n at *
  generalize s.rels = r at *
  generalize s.labels.length = l1 at *
  generalize s.types.length = l2 at *
  generalize s.ends.length = l3 at *
  generalize s.keys.length = l4 at *
  clear h
  go_enter Tryz.func17, Tryz.ntmps17
  go_wp2_with (go_at_call 52; refine (HC.out _).mono ?_; rintro e _ ⟨rfl, rfl⟩)
  go_ret
  exact ⟨rfl, (Below.refl _ _).alloc (Nat.le_refl _) _⟩
/-- The least of a number and of rows' numbers. -/
def leastF : Int → List (ByteArray × Int) → Int
  | t, [] => t
  | t, r :: l => leastF (if cutI r.2 < t then cutI r.2 else t) l
theorem leastF_at {t : Int} {l : List (ByteArray × Int)} {j : Nat} {x : ByteArray × Int} (h : l[j]? = some x) : leastF t (l.drop j) = leastF (if cutI x.2 < t then cutI x.2 else t) (l.drop (j + 1)) := by
  obtain ⟨hj, hx⟩ := List.getElem?_eq_some_iff.1 h
  rw [List.drop_eq_getElem_cons hj, hx]; rfl
def labelledI (s : StatP) (ls : List ByteArray) : Int := leastF (cutI s.nodes) (firstsL Prod.fst (⟨#[]⟩, 0) s.labels ls)
set_option maxRecDepth 100000 in
set_option maxHeartbeats 4000000 in
theorem labelled_any (s : StatP) (vl vt ve vk vs : Value) (ls : List ByteArray) (B : Nat) (w : World) (hB : B ≤ w.heap.size) (h : StatL B w vl vt ve vk s) (hs : SRow 1 strE B w vs ls) (hok : ∀ x ∈ ls, okS x) (hl : ls.length ≤ 100000) : Calls Tryz.prog 19 #[statV s vl vt ve vk, vs] w fun e w' => e = .returned (.int .i64 (labelledI s ls)) ∧ Below w.heap.size w w' := by
  have HA : Hid (∀ W, Below w.heap.size w W → Calls Tryz.prog 17 #[statV s vl vt ve vk] W fun e w' => e = .returned (.int .i64 (cutI s.nodes)) ∧ Below W.heap.size W w') := fun W hb => all_any s vl vt ve vk B W (h.keep (hb.mono hB))
  have HF : Hid (∀ W, Below w.heap.size w W → Calls Tryz.prog 55 #[vl, .func (.func 56) #[] #[], vs] W fun e w' => ∃ v, e = .returned v ∧ ORow 42 2 labC W.heap.size w' v (firstsL Prod.fst (⟨#[]⟩, 0) s.labels ls) ∧ Below W.heap.size W w') := fun W hb => f55_any s.labels ls vl vs B W (Nat.le_trans hB hb.size) (h.hl.keep (hb.mono hB)) (hs.keep (hb.mono hB)) h.ol hok h.nl hl
  obtain ⟨R, hR⟩ : ∃ R, firstsL Prod.fst (⟨#[]⟩, 0) s.labels ls = R := ⟨_, rfl⟩
  have HRL : Hid (R.length ≤ 100000) := by
    show R.length ≤ 100000
    have h1 := goFirst_len (key := Prod.fst) s.labels (ls.foldl putS [])
    have h2 := puts_len ls ([] : List ByteArray)
    rw [← hR]
    unfold firstsL
    simp only [List.length_append, List.length_replicate, List.length_nil] at *
    omega
  obtain ⟨res, hres⟩ : ∃ r, labelledI s ls = r := ⟨_, rfl⟩
  have HRES : Hid (leastF (cutI s.nodes) R = res) := by show _ = _; rw [← hres, labelledI, hR]
  rw [hR] at HF
  rw [hres]
  clear hR hres
  obtain ⟨la, lc, rfl, _⟩ := h.hl
  obtain ⟨ta, tc, rfl, _⟩ := h.ht
  obtain ⟨ea, ec, rfl, _⟩ := h.he
  obtain ⟨ka, kc, rfl, _⟩ := h.hk
  obtain ⟨sa, sc, rfl, _⟩ := hs
  unfold statV at *
  obtain ⟨c0, hc0⟩ : ∃ c, cutI s.nodes = c := ⟨_, rfl⟩
  rw [hc0] at HA HRES
  clear hc0
  generalize s.nodes = n at *
  generalize s.rels = r at *
  generalize s.labels.length = l1 at *
  generalize s.types.length = l2 at *
  generalize s.ends.length = l3 at *
  generalize s.keys.length = l4 at *
  generalize ls.length = l5 at *
  clear h hok
  go_enter Tryz.func19, Tryz.ntmps19
  have HW : Hid (Below w.heap.size w (w.alloc (.cells #[.int .i64 n, .int .i64 r, .slice la l1 lc, .slice ta l2 tc, .slice ea l3 ec, .slice ka l4 kc] 33))) := (Below.refl _ _).alloc (Nat.le_refl _) _
  have e0 : (w.alloc (.cells #[.int .i64 n, .int .i64 r, .slice la l1 lc, .slice ta l2 tc, .slice ea l3 ec, .slice ka l4 kc] 33)).cell? ⟨w.heap.size, 2, none⟩ = some (.slice la l1 lc) := cell_new _ _ _ _ _ rfl
  have HE0 := hidE e0
  have HSZ : Hid (w.heap.size < (w.alloc (.cells #[.int .i64 n, .int .i64 r, .slice la l1 lc, .slice ta l2 tc, .slice ea l3 ec, .slice ka l4 kc] 33)).heap.size) := by show _ < _; simp
  clear e0
  go_wp2_with (first
    | (go_at_call 17; refine (HA.out _ HW.out).mono ?_; rintro e W2 ⟨rfl, hb2⟩
       have c2 := (hb2.cell (p := ⟨w.heap.size, 2, none⟩) HSZ.out).trans HE0.out
       have HB2 : Hid (Below w.heap.size w W2) := HW.out.trans (hb2.mono HW.out.size)
       clear hb2)
    | (go_at_call 55; refine (HF.out _ HB2.out).mono ?_; rintro e W3 ⟨v3, rfl, ho3, hb3⟩
       have HO3 := hidE ho3
       have HB3 : Hid (Below w.heap.size w W3) := HB2.out.trans (hb3.mono HB2.out.size)
       obtain ⟨va, vc, rfl⟩ := ho3.slice
       clear ho3 hb3 c2))
  have hsr := ORow.srow (enc := labC) (k := 2) (fun _ => rfl) HO3.out
  obtain ⟨xa, xc, hx0, x1, x2, x3⟩ := hsr
  obtain ⟨rfl, rfl⟩ : va = xa ∧ vc = xc := by injection hx0 with a b c; exact ⟨a, c⟩
  have HX3 := hidE x3
  obtain ⟨m, hm⟩ : ∃ m, R.length = m := ⟨_, rfl⟩
  have HM := hidE hm
  rw [hm] at x1 HRL ⊢
  have hml : m ≤ 100000 := HRL.out
  clear hx0 x3 hm HRL HO3
  go_loopw [5, 15] (fun s i wr => ∃ (t : Int) (j : Nat), j ≤ m ∧ s = .int .i64 t ∧ i = .int .i64 j ∧ leastF t (R.drop j) = res ∧ Below W3.heap.size W3 wr) (fun _ i _ => m - (intOf i).toNat)
  case atStart => exact ⟨c0, 0, Nat.zero_le _, rfl, rfl, HRES.out, Below.refl _ _⟩
  case round =>
    obtain ⟨t, j, hj, rfl, rfl, hrs, hbr⟩ := hrel
    have HRS := hidE hrs
    have HBR := hidE hbr
    clear hrs hbr
    by_cases hlt : j < m
    · have hlt' : (j : Int) < m := by omega
      obtain ⟨⟨a, q⟩, hx⟩ : ∃ q, R[j]? = some q := ⟨_, List.getElem?_eq_getElem (by have := HM.out; omega)⟩
      obtain ⟨bl, off, rfl, hbl, hc⟩ := HX3.out.resolve_left (by intro e; rw [e] at hx; simp at hx)
      have d0 := (HBR.out.cell (p := ⟨bl, off + j * 2 + 0, none⟩) hbl).trans (hc j _ hx 0 _ rfl)
      have d1 := (HBR.out.cell (p := ⟨bl, off + j * 2 + 1, none⟩) hbl).trans (hc j _ hx 1 _ rfl)
      rw [Nat.add_zero] at d0
      simp only at d0 d1
      have HE := leastF_at (t := t) hx
      rw [HRS.out] at HE
      have HC := hidE (fun W => cut_any q W)
      obtain ⟨cq, hcq⟩ : ∃ c, cutI q = c := ⟨_, rfl⟩
      simp only [hcq] at HE
      have HE := hidE HE
      rw [hcq] at HC
      clear hx hc hcq
      go_wp2_with (go_at_call 52; refine (HC.out _).mono ?_; rintro e _ ⟨rfl, rfl⟩)
      go_roundw
      case rel => exact ⟨_, j + 1, by omega, rfl, by go_num, HE.out.symm, HBR.out.alloc HBR.out.size _⟩
      case measure => simp [intOf]; omega
    · have HF : Hid (res = t) := by
        show _ = _
        rw [← HRS.out, List.drop_of_length_le (by have := HM.out; omega)]
        rfl
      have hlt' : ¬ (j : Int) < m := by omega
      go_wp2_with fail
      go_ret
      exact ⟨by rw [HF.out]; rfl, HB3.out.trans (HBR.out.mono HB3.out.size)⟩
end Go.Proofs.YthfilnflgahcjaaGreatDoor

