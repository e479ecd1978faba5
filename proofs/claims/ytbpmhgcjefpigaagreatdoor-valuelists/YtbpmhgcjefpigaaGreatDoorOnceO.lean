/- Once, at any list of values that may be: the copies lie apart from each other. -/
import Derived.Test.YtbpmhgcjefpigaaGreatDoorJoin23
import Derived.Test.YtbpmhgcjefpigaaGreatDoorJoin21
import Derived.Test.YtbpmhgcjefpigaaGreatDoorJoin26
namespace Go.Proofs.YtbpmhgcjefpigaaGreatDoor
open Go.RowKit Go.Shelf Go.WideShapes Go.Lib
set_option linter.unusedVariables false
set_option linter.unusedSimpArgs false
def RowO (A : Nat) (g : Option Nat) (w : World) (xs : List Value) (ts : List Tree) : Prop := ∃ es : List Ent, xs = es.flatMap Ent.cells ∧ es.map Ent.t = ts ∧ Ents A g w es
theorem RowO.none (A : Nat) (g : Option Nat) (w : World) : RowO A g w [] [] := ⟨[], rfl, rfl, fun e h => by simp at h, .nil⟩
theorem RowO.step {A : Nat} {g g' : Option Nat} {w w' : World} {xs : List Value} {ts : List Tree} (h : RowO A g w xs ts) (hk : ∀ b, A ≤ b → b < w.heap.size → some b ≠ g → w'.heap[b]? = w.heap[b]?) (hs : w.heap.size ≤ w'.heap.size)
  (hg : g' = g ∨ ∃ q, g' = some q ∧ w.heap.size ≤ q) : RowO A g' w' xs ts := by
 obtain ⟨es, h1, h2, h3⟩ := h
 exact ⟨es, h1, h2, h3.step hk hs hg⟩
theorem RowO.snoc {A hi : Nat} {g : Option Nat} {w w' : World} {xs : List Value} {ts : List Tree} {c0 c1 c2 c3 c4 c5 : Value} {t : Tree} (h : RowO A g w xs ts) (hb : Below w.heap.size w w') (hl : LiesF w.heap.size hi w' (.agg #[c0, c1, c2, c3, c4, c5]) t)
  (hA : A ≤ w.heap.size) (h1 : w.heap.size ≤ hi) (h2 : hi ≤ w'.heap.size) (hg : ∀ q, g = some q → q < w.heap.size) : RowO A g w' (xs ++ [c0, c1, c2, c3, c4, c5]) (ts ++ [t]) := by
 obtain ⟨es, rfl, rfl, h3⟩ := h
 exact ⟨es ++ [⟨c0, c1, c2, c3, c4, c5, t, w.heap.size, hi⟩], by rw [List.flatMap_append]; rfl, by rw [List.map_append]; rfl, h3.snoc ⟨hl, hA, h1, h2, fun q hq => .inl (hg q hq)⟩ (fun b _ h _ => hb.block b h) hb.size (Nat.le_refl _)⟩
structure OnceAtO (w : World) (ts : List Tree) (j : Nat) (o : Value) (wr : World) : Prop where
 row : ∃ xs, wr.ownsRow (w.heap.size + 1) 26 6 o (outL (ts.take j)).length xs ∧ RowO (w.heap.size + 1) o.ownBlock wr xs (outL (ts.take j))
 seen : SeenAt wr w.heap.size ((outL (ts.take j)).map txt)
 below : Below w.heap.size w wr
 ok : ∀ t ∈ ts.take j, checkN t = 0
set_option maxRecDepth 100000 in
set_option maxHeartbeats 4000000 in
theorem once_anyO (ts : List Tree) (B : Nat) (la : Option Addr) (lc : Nat) (w : World) (hB : B ≤ w.heap.size) (hl : ListLies B w la ts) (h1 : ts.length ≤ lc) (hn : ts.length ≤ 1000) (hc : ∀ t ∈ ts, Ranged t ∧ Modest t ∧ t.total ≤ 800000)
  (hT : Tabs w) (hP : TabBelow Tryz.prog w.heap.size w "internal/strconv.uint64pow10" .u64 pow10Tab) (hM : ML w) (h2 : 2 < w.heap.size) :
  Calls Tryz.prog 47 #[.slice la ts.length lc] w fun e w' => (((∀ t ∈ ts, checkN t = 0) ∧ ∃ v xs, e = .returned v ∧ w'.ownsRow (w.heap.size + 1) 26 6 v (outL ts).length xs ∧ RowO (w.heap.size + 1) v.ownBlock w' xs (outL ts)) ∨ ((¬ ∀ t ∈ ts, checkN t = 0) ∧ e = .returned (.slice none 0 0))) ∧ Below w.heap.size w w' := by
 have hmm : ∀ W : World, (Instr.makeMap 87 none).run Tryz.prog W = .ok (.map (some W.heap.size)) (W.alloc (.map #[] 0)) := fun W => rfl
 obtain ⟨W1, hW1⟩ : ∃ W1, w.alloc (.map #[] 0) = W1 := ⟨_, rfl⟩
 have hb1 : Below w.heap.size w W1 := hW1 ▸ (Below.refl _ _).alloc (Nat.le_refl _) _
 have HS : Hid (OnceAtO w ts 0 (.slice none 0 0) W1) := ⟨⟨[], World.ownsRow_nil _ _ _ _, RowO.none _ _ _⟩, hW1 ▸ seen_none w, hb1, fun t h => by simp at h⟩
 have HX : Hid (∀ w', Below w.heap.size w w' → Tabs w' ∧ TabBelow Tryz.prog w'.heap.size w' "internal/strconv.uint64pow10" .u64 pow10Tab ∧ ML w' ∧ 2 < w'.heap.size ∧ B ≤ w'.heap.size) := fun w' hb => by
  obtain ⟨m, hm⟩ := hM
  exact ⟨hT.below hb, fun w2 h => hP w2 (hb.trans (h.mono hb.size)), ⟨m, (hb.cell (p := ⟨2, 0, none⟩) h2).trans hm⟩, Nat.lt_of_lt_of_le h2 hb.size, Nat.le_trans hB hb.size⟩
 have HW1 := hidE hW1
 have HC := hidE hc
 have HL := hidE hl
 clear hW1 hb1 hc hl hT hP hM h2
 go_enter Tryz.func47, Tryz.ntmps47
 go_wp2_with fail
 rw [HW1.out]
 clear hmm
 go_loopw [14, 4] (fun i o wr => ∃ j : Nat, j ≤ ts.length ∧ i = .int .i64 j ∧ OnceAtO w ts j o wr) (fun i _ _ => ts.length - (intOf i).toNat)
 case atStart => exact ⟨0, Nat.zero_le _, rfl, HS.out⟩
 case round =>
  obtain ⟨j, hj, rfl, hgo⟩ := hrel
  have HGO := hidE hgo
  by_cases hlt : j < ts.length
  ·obtain ⟨t, hx⟩ : ∃ t, ts[j]? = some t := ⟨_, List.getElem?_eq_getElem hlt⟩
   obtain ⟨hran, hmo, htot⟩ := HC.out t (List.mem_of_getElem? hx)
   have hbr := hgo.below
   obtain ⟨bl, off, rfl, hbl, hkl⟩ := HL.out.resolve_left (by intro e; rw [e] at hlt; simp at hlt)
   by_cases hck : checkN t = 0
   rotate_left
   ·have HBAD : Hid (¬ ∀ t ∈ ts, checkN t = 0) := fun h => hck (h t (List.mem_of_getElem? hx))
    obtain ⟨k, b, nn, s, ks, us⟩ := t
    obtain ⟨ja, jc, jl, jd, ⟨c0, c1, c2, c3, c4, c5⟩, hlx⟩ := (hkl.below (hbr.mono hB) hbl).cells hx
    obtain ⟨WA, hWA⟩ : ∃ WA, wr.alloc (.cells #[.int .i64 k, .bool b, .int .i64 nn, .string s, .slice ja ks.length jc, .slice jl us.length jd] 26) = WA := ⟨_, rfl⟩
    have hba : Below wr.heap.size wr WA := hWA ▸ (Below.refl _ _).alloc (Nat.le_refl _) _
    have hbwa : Below w.heap.size w WA := below_on hbr hba
    obtain ⟨x1, x2, x3, x4, x5⟩ := HX.out WA hbwa
    have HTX := hidE (Text_not _ hck hmo B _ WA x5 (hlx.below (hba.mono (HX.out wr hbr).2.2.2.2)) x1)
    obtain ⟨cn, hcn⟩ : ∃ x, checkN (.mk k b nn s ks us) = x := ⟨_, rfl⟩
    rw [hcn] at HTX hck
    have hc' : (cn != 0) = true := by simp [hck]
    have HBW := hidE hbwa
    have HWA := hidE hWA
    clear hba hWA hbwa x1 x2 x3 x4 x5 hlx hkl hgo hbr hx hck hran hmo hcn
    go_wp2_with fail
    rw [HWA.out]
    refine HTX.out.mono ?_
    rintro e w3 ⟨rfl, hb3⟩
    have HB3 : Hid (Below w.heap.size w w3) := below_on HBW.out hb3
    clear hb3 c0 c1 c2 c3 c4 c5
    go_wp2_with fail
    go_ret
    exact ⟨.inr ⟨HBAD.out, rfl⟩, HB3.out⟩
   have HOK : Hid (∀ u ∈ ts.take (j + 1), checkN u = 0) := fun u hu => by
    rw [take_snoc hx] at hu
    rcases List.mem_append.1 hu with g | g
    ·exact hgo.ok u g
    ·simp only [List.mem_cons, List.not_mem_nil, or_false] at g
     exact g ▸ hck
   have hstep := outL_take hx
   have HSTEP := hidE hstep
   have hlen := outL_len ts j hj
   have htl := tellG_len t hran
   have hts : (txt t).size ≤ maxLen := by
    show (tellG t).toArray.size ≤ maxLen
    rw [List.size_toArray]; unfold maxLen; omega
   obtain ⟨k, b, nn, s, ks, us⟩ := t
   obtain ⟨ja, jc, jl, jd, ⟨c0, c1, c2, c3, c4, c5⟩, hlx⟩ := (hkl.below (hbr.mono hB) hbl).cells hx
   obtain ⟨WA, hWA⟩ : ∃ WA, wr.alloc (.cells #[.int .i64 k, .bool b, .int .i64 nn, .string s, .slice ja ks.length jc, .slice jl us.length jd] 26) = WA := ⟨_, rfl⟩
   have hba : Below wr.heap.size wr WA := hWA ▸ (Below.refl _ _).alloc (Nat.le_refl _) _
   have hqa : WA.heap[wr.heap.size]? = some (.cells #[.int .i64 k, .bool b, .int .i64 nn, .string s, .slice ja ks.length jc, .slice jl us.length jd] 26 (0, 0)) := hWA ▸ World.alloc_heap_new _ _
   have hbwa : Below w.heap.size w WA := below_on hbr hba
   obtain ⟨x1, x2, x3, x4, x5⟩ := HX.out WA hbwa
   have HTX := hidE (Text_anyG _ hck hran (by omega) hmo B _ WA x5 (hlx.below (hba.mono (HX.out wr hbr).2.2.2.2)) x1 x2 x3 x4)
   have HA := hidE (And.intro hba (And.intro hqa (And.intro hbwa hlx)))
   have HWA := hidE hWA
   clear hstep hqa hba hWA hbwa x1 x2 x3 x4 x5 hlx hkl hgo hbr hx hck hran hmo htl
   go_upto_region 6 with fail
   rw [HWA.out]
   have z0 := box_cell HA.out.2.1 (i := 0) rfl
   have z1 := box_cell HA.out.2.1 (i := 1) rfl
   have z2 := box_cell HA.out.2.1 (i := 2) rfl
   have z3 := box_cell HA.out.2.1 (i := 3) rfl
   have z4 := box_cell HA.out.2.1 (i := 4) rfl
   have z5 := box_cell HA.out.2.1 (i := 5) rfl
   go_wp2_with fail
   refine HTX.out.mono ?_
   rintro e w3 ⟨rfl, hb3⟩
   have HB3 := hidE hb3
   obtain ⟨S, hS⟩ : ∃ S, txt (.mk k b nn s ks us) = S := ⟨_, rfl⟩
   have hSt : (⟨(tellG (.mk k b nn s ks us)).toArray⟩ : ByteArray) = S := hS
   rw [hSt]
   rw [hS] at hts
   obtain ⟨x, hx⟩ : ∃ x, hasT (outL (ts.take j)) (.mk k b nn s ks us) = x := ⟨_, rfl⟩
   have hsn : SeenAt w3 w.heap.size ((outL (ts.take j)).map txt) := by
    refine HGO.out.seen.block ?_
    have hlt := HGO.out.seen.lt
    exact (hb3.block _ (Nat.lt_of_lt_of_le hlt HA.out.1.size)).trans (HA.out.1.block _ hlt)
   have hlk := seen_look hsn S hts x (by rw [← hx, hasT_iff, hS])
   have HSN := hidE hsn
   have HSS := hidE (And.intro hS hx)
   clear hb3 hS hSt hsn HTX z0 z1 z2 z3 z4 z5 c0 c1 c2 c3 c4 c5 HWA hx
   go_upto_region 10 with fail
   obtain ⟨W4, hW4⟩ : ∃ W4, w3.alloc (.cells #[] 88) = W4 := ⟨_, rfl⟩
   rw [hW4]
   have hb34 : Below w3.heap.size w3 W4 := hW4 ▸ (Below.refl _ _).alloc (Nat.le_refl _) _
   have hsn4 : SeenAt W4 w.heap.size ((outL (ts.take j)).map txt) := HSN.out.block (hb34.block _ HSN.out.lt)
   have hba4 : Below WA.heap.size WA W4 := below_on HB3.out hb34
   have hbr4 : Below wr.heap.size wr W4 := below_on HA.out.1 hba4
   have HB4 := hidE (And.intro hsn4 (And.intro hba4 hbr4))
   clear hlk hW4 hb34 hba4 hbr4 HSN HB3
   cases x with
   | true =>
    have HNEW : Hid (OnceAtO w ts (j + 1) u4 W4) := by
     obtain ⟨xs, r1, r2⟩ := HGO.out.row
     have e : outL (ts.take (j + 1)) = outL (ts.take j) := by rw [HSTEP.out, if_pos HSS.out.2]
     refine ⟨⟨xs, ?_, ?_⟩, ?_, below_on HGO.out.below HB4.out.2.2, HOK.out⟩
     ·rw [e]; exact own_keep r1 HB4.out.2.2
     ·rw [e]; exact r2.step (fun b _ hb _ => HB4.out.2.2.block b hb) HB4.out.2.2.size (.inl rfl)
     ·rw [e]; exact HB4.out.1
    clear hsn4
    go_wp2_with fail
    go_roundw
    case rel => exact ⟨j + 1, by omega, by go_num, HNEW.out⟩
    case measure => simp [intOf]; omega
   | false =>
    have hnm : S ∉ (outL (ts.take j)).map txt := fun hm => by
     have := (hasT_iff (outL (ts.take j)) (.mk k b nn s ks us)).2 (by rw [HSS.out.1]; exact hm)
     rw [HSS.out.2] at this
     cases this
    obtain ⟨W5, hup, hsn5, hsz5, hk5, hb5⟩ := seen_put hsn4 S hts hnm
    have hwr : w.heap.size < wr.heap.size := HGO.out.seen.lt
    have hbx5 : W5.heap[wr.heap.size]? = some (.cells #[.int .i64 k, .bool b, .int .i64 nn, .string s, .slice ja ks.length jc, .slice jl us.length jd] 26 (0, 0)) :=
     (hk5 _ (by omega)).trans ((HB4.out.2.1.block _ (Array.getElem?_eq_some_iff.1 HA.out.2.1).1).trans HA.out.2.1)
    have y0 := box_cell hbx5 (i := 0) rfl
    have y1 := box_cell hbx5 (i := 1) rfl
    have y2 := box_cell hbx5 (i := 2) rfl
    have y3 := box_cell hbx5 (i := 3) rfl
    have y4 := box_cell hbx5 (i := 4) rfl
    have y5 := box_cell hbx5 (i := 5) rfl
    have hbw5 : Below w.heap.size w W5 := (below_on HGO.out.below HB4.out.2.2).trans hb5
    have hl5 : Lies B W5 (.agg #[.int .i64 k, .bool b, .int .i64 nn, .string s, .slice ja ks.length jc, .slice jl us.length jd]) (.mk k b nn s ks us) :=
     HA.out.2.2.2.below (((HB4.out.2.2.mono (HX.out wr HGO.out.below).2.2.2.2)).trans (hb5.mono hB))
    have HCP := hidE (copy_anyF _ B _ W5 (HX.out W5 hbw5).2.2.2.2 hl5 (by omega))
    have HR5 : Hid ((∃ xs, W5.ownsRow (w.heap.size + 1) 26 6 u4 (outL (ts.take j)).length xs ∧ RowO (w.heap.size + 1) u4.ownBlock W5 xs (outL (ts.take j))) ∧ w.heap.size + 1 ≤ W5.heap.size) := by
     obtain ⟨xs, r1, r2⟩ := HGO.out.row
     have hk : ∀ q, w.heap.size + 1 ≤ q → q < wr.heap.size → W5.heap[q]? = wr.heap[q]? := fun q h1 h2 => (hk5 q (by omega)).trans (HB4.out.2.2.block q h2)
     have hs : wr.heap.size ≤ W5.heap.size := by rw [hsz5]; exact HB4.out.2.2.size
     refine ⟨⟨xs, own_keep' r1 hk, r2.step (fun q h1 h2 _ => hk q h1 h2) hs (.inl rfl)⟩, by omega⟩
    have H5 := hidE (And.intro hsn5 hbw5)
    clear hsn5 hk5 hb5 hbx5 hl5 hsz5 hsn4 hnm hwr
    go_wp2_with fail
    refine HCP.out.mono ?_
    rintro e w6 ⟨vc, rfl, hlf, hb6⟩
    obtain ⟨ck, cb, cn, cx, ca, cm, cc, cl, co, cd, rfl⟩ := lies_form hlf.lie
    obtain ⟨⟨xs, r1, r2⟩, hA5⟩ := HR5.out
    obtain ⟨W7, hW7⟩ : ∃ W7, w6.alloc (.cells #[.int .i64 ck, .bool cb, .int .i64 cn, .string cx, .slice ca cm cc, .slice cl co cd] 26) = W7 := ⟨_, rfl⟩
    have hb67 : Below w6.heap.size w6 W7 := hW7 ▸ (Below.refl _ _).alloc (Nat.le_refl _) _
    have hb57 : Below W5.heap.size W5 W7 := below_on hb6 hb67
    have r17 := own_keep r1 hb57
    have hc7 : ∀ i u, ([.int .i64 ck, .bool cb, .int .i64 cn, .string cx, .slice ca cm cc, .slice cl co cd] : List Value)[i]? = some u → W7.cell? ((⟨w6.heap.size, 0, none⟩ : Addr).add i) = some u := fun i u hi => by
     rw [← hW7, Lib.add_plain, Nat.zero_add]
     exact cell_new _ _ _ _ _ (by simpa using hi)
    have hone : ∀ u ∈ ([.int .i64 ck, .bool cb, .int .i64 cn, .string cx, .slice ca cm cc, .slice cl co cd] : List Value), u.oneCell' = true := by
     intro u hu
     simp only [List.mem_cons, List.not_mem_nil, or_false] at hu
     rcases hu with rfl | rfl | rfl | rfl | rfl | rfl <;> rfl
    have h57 : w.heap.size + 1 ≤ W7.heap.size := Nat.le_trans hA5 hb57.size
    have HW7 := hidE hW7
    have H7 := hidE (And.intro hlf (And.intro hb6 (And.intro hb67 r2)))
    clear hlf hb6 hb67 hW7 r1 r2 HCP y0 y1 y2 y3 y4 y5 hb57 hup
    go_wp2_with (at_builtin; rw [HW7.out]; refine append_six W7 rfl _ _ rfl (w.heap.size + 1) _ u4 xs rfl r17 ⟨w6.heap.size, 0, none⟩ _ rfl rfl hc7 hone (by omega) h57 ?_; intro v8 w8 ho8 hg8 hp8)
    have HNEW : Hid (OnceAtO w ts (j + 1) v8 w8) := by
     have e : outL (ts.take (j + 1)) = outL (ts.take j) ++ [.mk k b nn s ks us] := by rw [HSTEP.out, if_neg (by rw [HSS.out.2]; decide)]
     obtain ⟨hlf, hb6, hb67, r2⟩ := H7.out
     have hb57 : Below W5.heap.size W5 W7 := below_on hb6 hb67
     have hown : ∀ q, u4.ownBlock = some q → w.heap.size + 1 ≤ q ∧ q < W5.heap.size := fun q hq => by
      have h1 := r17.lt q hq
      obtain ⟨⟨xs', r1', _⟩, _⟩ := HR5.out
      exact ⟨h1.1, (r1'.lt q hq).2⟩
     have hmb : w8.heap[w.heap.size]? = W5.heap[w.heap.size]? := by
      have hlt := H5.out.1.lt
      refine (hg8.block _ (Nat.lt_of_lt_of_le hlt hb57.size) fun e => ?_).trans (hb57.block _ hlt)
      have := hown _ e.symm
      omega
     have hnew7 : RowO (w.heap.size + 1) u4.ownBlock W7 (xs ++ [.int .i64 ck, .bool cb, .int .i64 cn, .string cx, .slice ca cm cc, .slice cl co cd]) (outL (ts.take j) ++ [.mk k b nn s ks us]) :=
      r2.snoc hb57 (hlf.keep (keeps_belowF hb67 (Nat.le_refl _))) hA5 hb6.size hb67.size (fun q hq => (hown q hq).2)
     refine ⟨⟨_, by rw [e, List.length_append]; exact ho8, ?_⟩, ?_, H5.out.2.trans ?_, HOK.out⟩
     ·rw [e]
      refine hnew7.step (fun q _ hq hne => hg8.block q hq hne) hg8.size ?_
      rcases hp8 with h | h
      ·exact .inl h
      ·exact .inr ⟨_, h, Nat.le_refl _⟩
     ·rw [e, List.map_append]
      show SeenAt _ _ (_ ++ [txt (.mk k b nn s ks us)])
      rw [HSS.out.1]
      exact H5.out.1.block hmb
     ·refine (hb57.mono ?_).trans ((Below.refl _ W7).grown hg8 (by omega) fun q hq => by have := hown q hq; omega)
      have := H5.out.2.size
      omega
    clear ho8 hg8 hp8 r17 hc7 hone h57 hA5
    go_roundw
    case rel => exact ⟨j + 1, by omega, by go_num, HNEW.out⟩
    case measure => simp [intOf]; omega
  ·have hjs : ts.take j = ts := List.take_of_length_le (by omega)
   have HE : Hid (∃ xs, wr.ownsRow (w.heap.size + 1) 26 6 u4 (outL ts).length xs ∧ RowO (w.heap.size + 1) u4.ownBlock wr xs (outL ts)) := by
    have := hgo.row
    rw [hjs] at this
    exact this
   have HBL := hidE hgo.below
   have HAL : Hid (∀ t ∈ ts, checkN t = 0) := by have := hgo.ok; rwa [hjs] at this
   clear hgo hjs
   go_wp2_with fail
   go_ret
   obtain ⟨xs, r1, r2⟩ := HE.out
   exact ⟨.inl ⟨HAL.out, _, xs, rfl, r1, r2⟩, HBL.out⟩
end Go.Proofs.YtbpmhgcjefpigaaGreatDoor
