/- ValueLists, walked. -/
import Derived.Test.YtbpmhgcjefpigaaGreatDoorJoin12
import Derived.Test.YtbpmhgcjefpigaaGreatDoorJoin17
import Derived.Test.YtbpmhgcjefpigaaGreatDoorJoin20
import Derived.Test.YtbpmhgcjefpigaaGreatDoorJoin26
import Derived.Test.YtbpmhgcjefpigaaGreatDoorOnceO
import Derived.Test.YtbpmhgcjefpigaaGreatDoorSpared
import Derived.Test.YtbpmhgcjefpigaaGreatDoorJoin28
import Derived.Test.YtbpmhgcjefpigaaGreatDoorJoin29
namespace Go.Proofs.YtbpmhgcjefpigaaGreatDoor
open Go.RowKit Go.Shelf Go.Lib
set_option linter.unusedVariables false
set_option linter.unusedSimpArgs false
structure KeepX (A : Nat) (es : List Ent) (j : Nat) (w w' : World) : Prop where
 below : Below A w w'
 keep : ∀ b, b < w.heap.size → (∀ e ∈ es.take j, ¬ (e.lo ≤ b ∧ b < e.hi)) → w'.heap[b]? = w.heap[b]?
theorem KeepX.start (A : Nat) (es : List Ent) (w : World) : KeepX A es 0 w w := ⟨Below.refl _ _, fun _ _ _ => rfl⟩
theorem KeepX.on {A : Nat} {es : List Ent} {j : Nat} {w w1 w2 : World} (h : KeepX A es j w w1) (hb : Below w1.heap.size w1 w2) (hA : A ≤ w.heap.size) : KeepX A es j w w2 :=
 ⟨h.below.trans (hb.mono (Nat.le_trans hA h.below.size)), fun b h1 h2 => (hb.block b (Nat.lt_of_lt_of_le h1 h.below.size)).trans (h.keep b h1 h2)⟩
theorem KeepX.soft {A : Nat} {es : List Ent} {j : Nat} {e : Ent} {w w1 w2 : World} (h : KeepX A es j w w1) (he : es[j]? = some e) (hs : Soft e.lo e.hi w1 w2) (hA : A ≤ e.lo) : KeepX A es (j + 1) w w2 := by
 refine ⟨h.below.trans (hs.below.mono hA), fun b h1 h2 => ?_⟩
 rw [List.take_add_one, he] at h2
 have hb := h2 e (by simp)
 have h3 : w1.heap[b]? = w.heap[b]? := h.keep b h1 fun x hx => h2 x (List.mem_append_left _ hx)
 rw [← h3]
 rcases Nat.lt_or_ge b e.lo with g | g
 ·exact hs.below.block b g
 ·exact hs.out b (by omega) (Nat.lt_of_lt_of_le h1 h.below.size)
theorem KeepX.ent {A : Nat} {g : Option Nat} {es : List Ent} {j : Nat} {e : Ent} {w w1 : World} (h : KeepX A es j w w1) (hE : Ents A g w es) (he : es[j]? = some e) : EntOk A g w1 e := by
 have o := hE.ok e (List.mem_of_getElem? he)
 refine o.keep (fun b h1 h2 => h.keep b (Nat.lt_of_lt_of_le h2 o.upto) fun x hx hx2 => ?_) h.below.size (.inl rfl)
 obtain ⟨i, hi⟩ := List.mem_iff_getElem?.1 hx
 rw [List.getElem?_take] at hi
 split at hi
 ·rename_i hij
  obtain ⟨l1, e1⟩ := List.getElem?_eq_some_iff.1 hi
  obtain ⟨l2, e2⟩ := List.getElem?_eq_some_iff.1 he
  have := List.pairwise_iff_getElem.1 hE.ap i j l1 l2 hij
  rw [e1, e2] at this
  unfold Ent.apart at this
  omega
 ·cases hi
theorem KeepX.row {A g : Nat} {es : List Ent} {j : Nat} {w w1 : World} (h : KeepX A es j w w1) (hE : Ents A (some g) w es) (hg : g < w.heap.size) : w1.heap[g]? = w.heap[g]? :=
 h.keep g hg fun e he h2 => by
  have := (hE.ok e (List.mem_of_mem_take he)).row g rfl
  omega
theorem KeepX.far {A C : Nat} {es : List Ent} {j : Nat} {w w1 : World} (h : KeepX A es j w w1) (hC : ∀ e ∈ es, e.hi ≤ C) {b : Nat} (h1 : C ≤ b) (h2 : b < w.heap.size) : w1.heap[b]? = w.heap[b]? :=
 h.keep b h2 fun e he h3 => by
  have := hC e (List.mem_of_mem_take he)
  omega
theorem once_copies {base n : Nat} {w : World} {v : Value} {xs : List Value} {us : List Tree} (h : w.ownsRow base 26 6 v n xs) (hr : RowO base v.ownBlock w xs us) (hn : n = us.length) :
  ∃ ad cap es, v = .slice ad us.length cap ∧ us.length ≤ cap ∧ cap ≤ maxLen ∧ es.map Ent.t = us ∧ CopyRow base w ad es := by
 subst hn
 obtain ⟨es, e1, e2, e3⟩ := hr
 have hk := h
 rcases h.2 with ⟨rfl, h0⟩ | ⟨g, cap, cur, rfl, hbg, hg, hnc, hcm, hcs, htake⟩
 ·have : us = [] := List.eq_nil_of_length_eq_zero h0
  exact ⟨none, 0, es, by rw [h0], by omega, by unfold maxLen; omega, e2, .inl (by rw [this] at e2; simpa using e2)⟩
 ·refine ⟨some ⟨g, 0, none⟩, cap, es, rfl, hnc, hcm, e2, .inr ⟨g, rfl, hbg, (Array.getElem?_eq_some_iff.1 hg).1, fun j e he q v hv => ?_, e3⟩⟩
  have := hk.cells (g := g) rfl (j * 6 + q) v (by rw [e1]; exact flat_at he hv)
  rwa [add_plain, Nat.zero_add] at this
structure MAt (B g : Nat) (w : World) (ts : List Tree) : Prop where
 lt : g < B
 kids : SpareKids (· < B) w g 0 ts
 last : w.cell? ⟨g, ts.length * 6, none⟩ = some (.int .i64 77)
theorem MAt.below {B g : Nat} {w w' : World} {ts : List Tree} (h : MAt B g w ts) (hb : Below B w w') : MAt B g w' ts :=
 ⟨h.lt, SpareKids.keep (p := (· < B)) (fun b i hb' => hb.cell (p := ⟨b, i, none⟩) hb') h.lt h.kids, (hb.cell (p := ⟨g, _, none⟩) h.lt).trans h.last⟩
theorem MAt.lies {B g : Nat} {w : World} {ts : List Tree} (h : MAt B g w ts) : ListLies B w (some ⟨g, 0, none⟩) ts := .inr ⟨g, 0, rfl, h.lt, SpareKids.lies h.kids⟩
theorem made_list {w3 wr w5 w8 : World} {ts : List Tree} {lv : Value} {g cap : Nat} (h : Copying w3 ts ts.length lv wr) (hb : Below wr.heap.size wr w5) (xs : List Value) (ho : w8.ownsRow w3.heap.size 26 6 (.slice (some ⟨g, 0, none⟩) (ts.length + 1) cap) (ts.length + 1) (xs ++ six77)) (hg : w5.grownBy w8 lv.ownBlock)
  (hrow : Row6 (fun b => w3.heap.size ≤ b ∧ b < wr.heap.size ∧ some b ≠ lv.ownBlock) wr xs (ts.take ts.length)) (hx : xs.length = ts.length * 6) : MAt w8.heap.size g w8 ts := by
 rw [List.take_of_length_le (Nat.le_refl _)] at hrow
 have hcell : ∀ i u, (xs ++ six77)[i]? = some u → w8.cell? ⟨g, i, none⟩ = some u := fun i u hu => by
  have := ho.cells rfl i u hu
  rwa [add_plain, Nat.zero_add] at this
 refine ⟨(ho.lt g rfl).2, Row6.kids (xs := xs) (hrow.keep (fun b i hb' => ?_) (fun b hb' => ?_)) (fun i u hu => ?_), hcell _ _ ?_⟩
 ·exact World.cell?_of_block ((hg.block b (Nat.lt_of_lt_of_le hb'.2.1 hb.size) hb'.2.2).trans (hb.block b hb'.2.1))
 ·exact Nat.lt_of_lt_of_le hb'.2.1 (Nat.le_trans hb.size hg.size)
 ·rw [Nat.zero_add]
  refine hcell i u ?_
  rw [List.getElem?_append_left (List.getElem?_eq_some_iff.1 hu).1]; exact hu
 ·rw [List.getElem?_append_right (by omega), hx, Nat.sub_self]; rfl
theorem fine_so {ts : List Tree} (h : ∀ t ∈ ts, checkN t = 0) : fineB ts = true := by
 unfold fineB
 rw [List.all_eq_true]
 intro t ht
 simp [h t ht]
theorem fine_not {ts : List Tree} (h : ¬ ∀ t ∈ ts, checkN t = 0) : fineB ts = false := by
 cases e : fineB ts with
 | false => rfl
 | true =>
  unfold fineB at e
  rw [List.all_eq_true] at e
  exact absurd (fun t ht => by simpa using e t ht) h
set_option maxRecDepth 100000 in
set_option maxHeartbeats 8000000 in
theorem lists_law (ts : List Tree) (D : Nat) (la : Option Addr) (lc : Nat) (w : World) (hD : D ≤ w.heap.size) (hL : ListLies D w la ts) (h1 : ts.length ≤ lc) (h2 : lc ≤ maxLen) (sT : SaneL ts) (rT : ∀ t ∈ ts, Ranged t) (hT : Tabs w)
  (hP : TabBelow Tryz.prog w.heap.size w "internal/strconv.uint64pow10" .u64 pow10Tab) (hM : ML w) (hw2 : 2 < w.heap.size) : Calls Tryz.prog 8 #[.slice la ts.length lc] w fun e w' => e = .returned (.bool true) ∧ Below w.heap.size w w' := by
 have HWK : Hid (∀ w', Below w.heap.size w w' → Calls Tryz.prog 16 #[] w' fun e w2 => e = .returned (.bool true) ∧ Below w'.heap.size w' w2) := fun w' hb => by
  obtain ⟨m, hm⟩ := hM
  exact works_anyG w' (hT.below hb) (fun w2 h => hP w2 (hb.trans (h.mono hb.size))) ⟨m, (hb.cell (p := ⟨2, 0, none⟩) hw2).trans hm⟩ (Nat.lt_of_lt_of_le hw2 hb.size)
 have HLA : Hid (∀ w', Below w.heap.size w w' → ListLies D w' la ts ∧ D ≤ w'.heap.size ∧ Tabs w') := fun w' hb => ⟨hL.below (hb.mono hD), Nat.le_trans hD hb.size, hT.below hb⟩
 have HP2 : Hid (∀ w', Below w.heap.size w w' → TabBelow Tryz.prog w'.heap.size w' "internal/strconv.uint64pow10" .u64 pow10Tab ∧ ML w' ∧ 2 < w'.heap.size) := fun w' hb => by
  obtain ⟨m, hm⟩ := hM
  exact ⟨fun w2 h => hP w2 (hb.trans (h.mono hb.size)), ⟨m, (hb.cell (p := ⟨2, 0, none⟩) hw2).trans hm⟩, Nat.lt_of_lt_of_le hw2 hb.size⟩
 have HM := hidE h2
 have HS := hidE (And.intro sT rT)
 unfold maxLen at h2
 clear hT hP hL sT rT hM hw2
 go_enter Tryz.func8, Tryz.ntmps8
 by_cases hla : 60 < ts.length
 ·have hla' : (60 : Int) < ts.length := by omega
  go_wp2_with fail
  refine (HWK.out w (Below.refl _ _)).mono ?_
  rintro e w1 ⟨rfl, hb1⟩
  have HB1 := hidE hb1
  clear hb1
  go_wp2_with fail
  go_ret
  exact ⟨rfl, HB1.out⟩
 have hla' : ¬ (60 : Int) < ts.length := by omega
 have HSM := hidE (smalls_any ts D la lc w hD (HLA.out w (Below.refl _ _)).1 h1 HM.out (fun t ht => HS.out.1.mem ht))
 go_wp2_with fail
 refine HSM.out.mono ?_
 rintro e w0 ⟨rfl, hb0⟩
 have HB0 := hidE hb0
 clear hb0 HSM
 by_cases hsm : smalls ts ≤ 2000
 rotate_left
 ·have hd : decide (smalls ts ≤ 2000) = false := by simp [hsm]
  rw [hd]
  clear hsm hd
  go_wp2_with fail
  refine (HWK.out w0 HB0.out).mono ?_
  rintro e w1 ⟨rfl, hb1⟩
  have HB1 : Hid (Below w.heap.size w w1) := below_on HB0.out hb1
  clear hb1
  go_wp2_with fail
  go_ret
  exact ⟨rfl, HB1.out⟩
 have HTOT := hidE (small_total hsm)
 have hd : decide (smalls ts ≤ 2000) = true := by simp [hsm]
 rw [hd]
 clear hsm hd
 have HMA : Hid (∀ t ∈ ts, Modest t ∧ Ranged t ∧ t.total ≤ 800000) := fun t ht => ⟨modest_total (HTOT.out t ht), HS.out.2 t ht, by have := HTOT.out t ht; omega⟩
 have HTL : Hid (Tree.totalL ts ≤ 1000000) := totalL_small HTOT.out (by omega)
 have HFN : Hid (∀ W, Below w.heap.size w W → Calls Tryz.prog 21 #[.slice la ts.length lc] W fun e w' => e = .returned (.bool (fineB ts)) ∧ Below W.heap.size W w') := fun W hb => fine_any ts D la lc W (HLA.out W hb).2.1 (HLA.out W hb).1 h1 HM.out (fun t ht => ⟨HS.out.1.mem ht, by have := HTOT.out t ht; omega⟩)
 clear HTOT
 go_wp2_with fail
 go_loopw [4, 3] (fun i lv wr => ∃ j : Nat, j ≤ ts.length ∧ i = .int .i64 j ∧ Below w0.heap.size w0 wr ∧ Copying w0 ts j lv wr) (fun i _ _ => ts.length - (intOf i).toNat)
 case atStart => exact ⟨0, Nat.zero_le _, rfl, Below.refl _ _, copying_start w0 ts⟩
 case round =>
  obtain ⟨j, hj, rfl, hbr, hcp⟩ := hrel
  obtain ⟨xs, hown, hrow⟩ := hcp
  have HOWN := hidE hown
  have HROW := hidE hrow
  have HBR := hidE hbr
  have HB1 : Hid (Below w.heap.size w wr) := below_on HB0.out hbr
  clear hown hrow hbr
  by_cases hlt : j < ts.length
  ·obtain ⟨bl, off, rfl, hbl, hkk⟩ := (HLA.out wr HB1.out).1.resolve_left (by intro e; rw [e] at hlt; simp at hlt)
   obtain ⟨⟨k, b, nn, s, ks, us⟩, hx⟩ : ∃ t, ts[j]? = some t := ⟨_, List.getElem?_eq_getElem hlt⟩
   obtain ⟨ja, jc, jl, jd, ⟨c0, c1, c2, c3, c4, c5⟩, hlx⟩ := hkk.cells hx
   have HX := hidE hx
   have HC := hidE (spared_any _ D _ wr (HLA.out wr HB1.out).2.1 hlx (HMA.out _ (List.mem_of_getElem? hx)).2.2)
   clear hx hkk hlx
   go_wp2_with fail
   refine HC.out.mono ?_
   rintro e w2 ⟨v', rfl, hsp, hb2⟩
   obtain ⟨d0, d1, d2, d3, d4, d5, rfl, hone⟩ := spare_form hsp
   obtain ⟨WA, hWA⟩ : ∃ WA, w2.alloc (.cells #[d0, d1, d2, d3, d4, d5] 26) = WA := ⟨_, rfl⟩
   have hba : Below w2.heap.size w2 WA := hWA ▸ (Below.refl _ _).alloc (Nat.le_refl _) _
   have HBA : Hid (Below wr.heap.size wr WA) := hb2.trans (hba.mono hb2.size)
   have HSP : Hid (SpareP (fun b => wr.heap.size ≤ b ∧ b < WA.heap.size) WA (.agg #[d0, d1, d2, d3, d4, d5]) (.mk k b nn s ks us)) :=
    (hsp.keep (fun b i hb => hba.cell (p := ⟨b, i, none⟩) hb.2)).mono fun b hb => ⟨hb.1, Nat.lt_of_lt_of_le hb.2 hba.size⟩
   have HOA : Hid (WA.ownsRow w0.heap.size 26 6 u3 j xs) := own_keep HOWN.out HBA.out
   have HNW : Hid (∀ q u, [d0, d1, d2, d3, d4, d5][q]? = some u → WA.cell? ((⟨w2.heap.size, 0, none⟩ : Addr).add q) = some u) := fun q u hq => by
    rw [add_plain, Nat.zero_add, ← hWA]; exact cell_new _ _ _ q _ (by simpa using hq)
   have HON := hidE hone
   have HWA := hidE hWA
   obtain ⟨i0, hi, hz0, hz1, hz2⟩ := info_parts Tryz.info26
   clear hsp hb2 hba hone hWA HC c0 c1 c2 c3 c4 c5
   go_wp2_with (at_builtin; rw [HWA.out]; refine wpList_append_lies WA rfl _ _ 24 rfl w0.heap.size 26 i0 (.agg #[.int .i64 0, .bool false, .int .i64 0, .string ⟨#[]⟩, .slice none 0 0, .slice none 0 0]) 6 88 Tryz.underlying24 hi hz0 hz1 hz2 rfl (by decide) u3 j xs rfl HOA.out ⟨w2.heap.size, 0, none⟩ 1 1 [d0, d1, d2, d3, d4, d5] rfl rfl HNW.out HON.out (by decide) (by unfold maxLen; omega) (by omega) (Nat.le_trans HBR.out.size HBA.out.size) WA.heap.size rfl ?_; intro g2 cap2 w4 q1 q2 q3 q4)
   go_roundw
   case rel =>
    refine ⟨j + 1, by omega, by go_num, ?_, ?_⟩
    ·exact (HBR.out.trans (HBA.out.mono HBR.out.size)).grown q2 (Nat.le_trans HBR.out.size HBA.out.size) fun q h => (HOA.out.lt q h).1
    ·exact copying_step HX.out HOWN.out HROW.out HBR.out.size HBA.out HSP.out q1 q2 (q3.imp id fun h => by omega)
   case measure => simp [intOf]; omega
  obtain rfl : j = ts.length := by omega
  obtain ⟨w4, rfl⟩ : ∃ x, x = wr := ⟨_, rfl⟩
  obtain ⟨W5, hW5⟩ : ∃ W5, w4.alloc (.cells #[.int .i64 77, .bool false, .int .i64 0, .string ⟨#[]⟩, .slice none 0 0, .slice none 0 0] 26) = W5 := ⟨_, rfl⟩
  have hb45 : Below w4.heap.size w4 W5 := hW5 ▸ (Below.refl _ _).alloc (Nat.le_refl _) _
  have r15 := own_keep HOWN.out hb45
  have hc5 : ∀ i u, six77[i]? = some u → W5.cell? ((⟨w4.heap.size, 0, none⟩ : Addr).add i) = some u := fun i u hi => by
   rw [← hW5, Lib.add_plain, Nat.zero_add]
   exact cell_new _ _ _ _ _ (by simpa using hi)
  have hone : ∀ u ∈ six77, u.oneCell' = true := by
   intro u hu
   simp only [six77, List.mem_cons, List.not_mem_nil, or_false] at hu
   rcases hu with rfl | rfl | rfl | rfl | rfl | rfl <;> rfl
  have h05 : w0.heap.size ≤ W5.heap.size := Nat.le_trans HBR.out.size hb45.size
  have HW5 := hidE hW5
  have HB45 := hidE hb45
  have hxl : xs.length = ts.length * 6 := HOWN.out.1
  clear hW5 hb45
  go_wp2_with (at_builtin; rw [HW5.out]; refine append_six W5 rfl _ _ rfl w0.heap.size _ u3 xs rfl r15 ⟨w4.heap.size, 0, none⟩ six77 rfl rfl hc5 hone (by omega) h05 ?_; intro v8 w8 ho8 hg8 hp8; obtain ⟨ad8, cap8, rfl, had8⟩ := row_slice ho8; obtain ⟨g8, rfl⟩ := had8 (by omega); have hcap8 : ts.length + 1 ≤ cap8 := (ownsRow_caps ho8 rfl).1; have hcap9 : cap8 ≤ maxLen := (ownsRow_caps ho8 rfl).2; have HMT := hidE (made_list ⟨xs, HOWN.out, HROW.out⟩ HB45.out xs ho8 hg8 HROW.out hxl); have HB8 : Hid (Below w.heap.size w w8) := HB1.out.trans ((HB45.out.mono HB1.out.size).trans ((Below.refl _ _).grown hg8 (Nat.le_trans HB1.out.size HB45.out.size) fun q hq => Nat.le_trans HB0.out.size (r15.lt q hq).1)); clear ho8 hg8 hp8 had8 r15 hc5 hone h05)
  clear HOWN HROW HBR HB45 HW5 hxl
  have hc8 : ts.length ≤ cap8 := by omega
  have HSX := hidE (sorted_any ts w8.heap.size (some ⟨g8, 0, none⟩) cap8 w8 (Nat.le_refl _) HMT.out.lies hc8 hcap9 HTL.out (HLA.out w8 HB8.out).2.2 (fun t ht => (HMA.out t ht).1))
  have HSY : Hid (∀ W, Below w8.heap.size w8 W → Calls Tryz.prog 47 #[.slice (some ⟨g8, 0, none⟩) ts.length cap8] W fun e w' => (((∀ t ∈ ts, checkN t = 0) ∧ ∃ v xs, e = .returned v ∧ w'.ownsRow (W.heap.size + 1) 26 6 v (outL ts).length xs ∧ RowO (W.heap.size + 1) v.ownBlock w' xs (outL ts)) ∨ ((¬ ∀ t ∈ ts, checkN t = 0) ∧ e = .returned (.slice none 0 0))) ∧ Below W.heap.size W w') := fun W hb =>
   once_anyO ts w8.heap.size (some ⟨g8, 0, none⟩) cap8 W hb.size (HMT.out.lies.below hb) hc8 (by omega) (fun t ht => ⟨(HMA.out t ht).2.1, (HMA.out t ht).1, (HMA.out t ht).2.2⟩) (HLA.out W (below_on HB8.out hb)).2.2 (HP2.out W (below_on HB8.out hb)).1 (HP2.out W (below_on HB8.out hb)).2.1 (HP2.out W (below_on HB8.out hb)).2.2
  unfold maxLen at hcap9
  refine HSX.out.mono ?_
  rintro e w9 ⟨hsd, hb9⟩
  have HB9 := hidE hb9
  clear hb9 HSX
  by_cases hch : ∀ t ∈ ts, checkN t = 0
  rotate_left
  ·have hfb : fineB ts = false := fine_not hch
   have e1 : e = .returned (.slice none 0 0) := by
    rcases hsd with ⟨h, -⟩ | ⟨-, h⟩
    ·exact absurd h hch
    ·exact h
   subst e1
   have HCH := hidE hch
   clear hsd hch
   go_wp2_with fail
   refine (HSY.out w9 HB9.out).mono ?_
   rintro e w10 ⟨hoe, hb10⟩
   have HB10 : Hid (Below w8.heap.size w8 w10) := below_on HB9.out hb10
   have e1 : e = .returned (.slice none 0 0) := by
    rcases hoe with ⟨h, -⟩ | ⟨-, h⟩
    ·exact absurd h HCH.out
    ·exact h
   subst e1
   clear hoe hb10
   go_wp2_with fail
   refine (HFN.out w10 (below_on HB8.out HB10.out)).mono ?_
   rintro e w11 ⟨rfl, hb11⟩
   rw [hfb]
   have HB11 : Hid (Below w8.heap.size w8 w11) := below_on HB10.out hb11
   clear hb11 hfb
   have hlast : w11.cell? ⟨g8, ts.length * 6, none⟩ = some (.int .i64 77) := (HMT.out.below HB11.out).last
   go_wp2_with fail
   clear hlast
   go_loopw [9] (fun i wr => i = .int .i64 0 ∧ Below w8.heap.size w8 wr) (fun _ _ => 0)
   case atStart => exact ⟨rfl, HB11.out⟩
   case round =>
    obtain ⟨rfl, hbr⟩ := hrel
    have HB12 := hidE hbr
    clear hbr
    go_wp2_with fail
    go_loopw [10] (fun i wr => i = .int .i64 0 ∧ Below w8.heap.size w8 wr) (fun _ _ => 0)
    case atStart => exact ⟨rfl, HB12.out⟩
    case round =>
     obtain ⟨rfl, hbr⟩ := hrel
     have HB13 := hidE hbr
     clear hbr
     go_wp2_with fail
     go_loopw [11] (fun i wr => ∃ q : Nat, q ≤ ts.length ∧ i = .int .i64 q ∧ Below w8.heap.size w8 wr) (fun i _ => ts.length - (intOf i).toNat)
     case atStart => exact ⟨0, Nat.zero_le _, rfl, HB13.out⟩
     case round =>
      obtain ⟨q, hq, rfl, hbq⟩ := hrel
      obtain ⟨w20, rfl⟩ : ∃ x, x = wr := ⟨_, rfl⟩
      have HB20 := hidE hbq
      have HBW20 : Hid (Below w.heap.size w w20) := HB8.out.trans (hbq.mono HB8.out.size)
      clear hbq
      by_cases hlq : q < ts.length
      ·obtain ⟨T, hx⟩ : ∃ t, ts[q]? = some t := ⟨_, List.getElem?_eq_getElem hlq⟩
       obtain ⟨bl, off, rfl, hbl, hkk⟩ := (HLA.out w20 HBW20.out).1.resolve_left (by intro e; rw [e] at hlq; simp at hlq)
       obtain ⟨k, b, nn, s, ks, us⟩ := T
       obtain ⟨ja, jc, jl, jd, ⟨c0, c1, c2, c3, c4, c5⟩, hlx⟩ := hkk.cells hx
       obtain ⟨m0, m1, m2, m3, m4, m5, ⟨d0, d1, d2, d3, d4, d5⟩, hsp⟩ := (HMT.out.below HB20.out).kids.at hx
       simp only [Nat.zero_add] at d0 d1 d2 d3 d4 d5
       have HKP : Hid (∀ W, Below w20.heap.size w20 W → Calls Tryz.prog 29 #[.agg #[m0, m1, m2, m3, m4, m5], .agg #[.int .i64 k, .bool b, .int .i64 nn, .string s, .slice ja ks.length jc, .slice jl us.length jd]] W fun e w' => e = .returned (.bool true) ∧ Below W.heap.size W w') := fun W hb =>
        kept_any _ w8.heap.size _ _ W (Nat.le_trans HB20.out.size hb.size) (Spare.below (hb.mono HB20.out.size) hsp) ((hlx.mono (HLA.out w8 HB8.out).2.1).below (hb.mono HB20.out.size))
       clear hx hkk hlx hsp hbl
       go_wp2_with fail
       have HC1 := hidE (HKP.out w20.drew (Below.refl _ w20).drew)
       go_region_with (go_at_call 29; refine HC1.out.mono ?_; rintro e w21 ⟨rfl, hb21⟩)
       all_goals
        have HB21 : Hid (Below w8.heap.size w8 w21) := HB20.out.trans (((Below.refl _ w20).drew.trans hb21).mono HB20.out.size)
        clear hb21 HC1 c0 c1 c2 c3 c4 c5 d0 d1 d2 d3 d4 d5
        go_wp2_with fail
        go_roundw
        case rel => exact ⟨q + 1, by omega, by go_num, HB21.out⟩
        case measure => simp [intOf]; omega
      ·go_wp2_with fail
       refine (HWK.out w20 HBW20.out).mono ?_
       rintro e w21 ⟨rfl, hb21⟩
       have HB21 : Hid (Below w.heap.size w w21) := below_on HBW20.out hb21
       clear hb21
       go_wp2_with fail
       go_ret
       exact ⟨rfl, HB21.out⟩
  have HCH := hidE hch
  have hfb : fineB ts = true := fine_so hch
  obtain ⟨la1, lc1, es1, rfl, ⟨q1, q2⟩, hes1, hcr1⟩ : ∃ la lc es, e = .returned (.slice la ts.length lc) ∧ (ts.length ≤ lc ∧ lc ≤ maxLen) ∧ es.map Ent.t = srtL ts ∧ CopyRow w8.heap.size w9 la es := by
   rcases hsd with ⟨-, h⟩ | ⟨h, -⟩
   ·exact h
   ·exact absurd hch h
  have HX1 := hidE (And.intro hes1 hcr1)
  clear hsd hch hes1 hcr1
  unfold maxLen at q2
  go_wp2_with fail
  refine (HSY.out w9 HB9.out).mono ?_
  rintro e w10 ⟨hoe, hb10⟩
  have HB10 := hidE hb10
  obtain ⟨v, xs2, rfl, r1, r2⟩ : ∃ v xs, e = .returned v ∧ w10.ownsRow (w9.heap.size + 1) 26 6 v (outL ts).length xs ∧ RowO (w9.heap.size + 1) v.ownBlock w10 xs (outL ts) := by
   rcases hoe with ⟨-, h⟩ | ⟨h, -⟩
   ·exact h
   ·exact absurd HCH.out h
  obtain ⟨la2, lc2, es2, rfl, q3, q4, hes2, hcr2⟩ := once_copies r1 r2 rfl
  have HX2 := hidE (And.intro hes2 hcr2)
  clear hoe hb10 r1 r2 hes2 hcr2 HSY
  unfold maxLen at q4
  go_wp2_with fail
  have HBW10 : Hid (Below w.heap.size w w10) := below_on (below_on HB8.out HB9.out) HB10.out
  refine (HFN.out w10 HBW10.out).mono ?_
  rintro e w11 ⟨rfl, hb11⟩
  rw [hfb]
  have HB11 := hidE hb11
  have HBW11 : Hid (Below w.heap.size w w11) := below_on HBW10.out hb11
  clear hb11 hfb
  have HRS := hidE (refSorted_any ts D la lc w11 (HLA.out w11 HBW11.out).2.1 (HLA.out w11 HBW11.out).1 h1 (by omega) HCH.out)
  have HRO : Hid (∀ W, Below w.heap.size w W → Calls Tryz.prog 49 #[.slice la ts.length lc] W fun e w' => ∃ v xs, e = .returned v ∧ w'.ownsRow W.heap.size 26 6 v (outL ts).length xs ∧ RowL D w' xs (outL ts) ∧ Below W.heap.size W w') := fun W hb => refOnce_any ts D la lc W (HLA.out W hb).2.1 (HLA.out W hb).1 h1 (by omega) HCH.out
  go_wp2_with fail
  refine HRS.out.mono ?_
  rintro e w12 ⟨v, xs3, rfl, r1, r2, hb12⟩
  have HB12 := hidE hb12
  have HBW12 : Hid (Below w.heap.size w w12) := below_on HBW11.out hb12
  obtain ⟨la3, lc3, rfl, q5, q6, hl3⟩ := owned_row r1 rfl r2
  have HX3 := hidE hl3
  clear hb12 r1 r2 hl3 HRS
  unfold maxLen at q6
  go_wp2_with fail
  refine (HRO.out w12 HBW12.out).mono ?_
  rintro e w13 ⟨v, xs4, rfl, r1, r2, hb13⟩
  have HB13 := hidE hb13
  have HBW13 : Hid (Below w.heap.size w w13) := below_on HBW12.out hb13
  obtain ⟨la4, lc4, rfl, q7, q8, hl4⟩ := owned_row r1 rfl r2
  have HX4 := hidE hl4
  clear hb13 r1 r2 hl4 HRO
  unfold maxLen at q8
  have hsl := srtL_length ts
  rw [hsl] at q5
  rw [hsl]
  have HSL := hidE hsl
  clear hsl
  have HB813 : Hid (Below w8.heap.size w8 w13) := below_on (below_on (below_on (below_on HB9.out HB10.out) HB11.out) HB12.out) HB13.out
  have hlast : w13.cell? ⟨g8, ts.length * 6, none⟩ = some (.int .i64 77) := (HMT.out.below HB813.out).last
  obtain ⟨ny, hny⟩ : ∃ x, (outL ts).length = x := ⟨_, rfl⟩
  rw [hny] at q3 q7
  rw [hny]
  have HNY := hidE hny
  have hnys : ny ≤ 60 := by have := outL_len ts ts.length (Nat.le_refl _); rw [List.take_of_length_le (Nat.le_refl _), hny] at this; omega
  clear hny
  have HBs : Hid (w8.heap.size ≤ w9.heap.size ∧ w9.heap.size ≤ w10.heap.size ∧ w10.heap.size ≤ w11.heap.size ∧ w11.heap.size ≤ w12.heap.size ∧ w12.heap.size ≤ w13.heap.size ∧ D ≤ w8.heap.size) := ⟨HB9.out.size, HB10.out.size, HB11.out.size, HB12.out.size, HB13.out.size, (HLA.out w8 HB8.out).2.1⟩
  go_wp2_with fail
  go_loopw [9] (fun i wr => ∃ j : Nat, j ≤ ts.length ∧ i = .int .i64 j ∧ KeepX w8.heap.size es1 j w13 wr) (fun i _ => ts.length - (intOf i).toNat)
  case atStart => exact ⟨0, Nat.zero_le _, rfl, KeepX.start _ _ _⟩
  case round =>
   obtain ⟨j, hj, rfl, hkx⟩ := hrel
   obtain ⟨w14, rfl⟩ : ∃ x, x = wr := ⟨_, rfl⟩
   have HKX := hidE hkx
   clear hkx hlast
   by_cases hlt : j < ts.length
   ·obtain ⟨A, hA⟩ : ∃ t, (srtL ts)[j]? = some t := ⟨_, List.getElem?_eq_getElem (by rw [HSL.out]; exact hlt)⟩
    obtain ⟨e, he, het⟩ : ∃ e, es1[j]? = some e ∧ e.t = A := by
     rw [← HX1.out.1, List.getElem?_map] at hA
     obtain ⟨e, h1, h2⟩ := Option.map_eq_some_iff.1 hA
     exact ⟨e, h1, h2⟩
    obtain ⟨g1, rfl, hg1, hg1l, hrow1, hent1⟩ := HX1.out.2.resolve_left (by intro h; rw [h] at he; simp at he)
    have hb913 : Below w9.heap.size w9 w13 := below_on (below_on (below_on HB10.out HB11.out) HB12.out) HB13.out
    have hE13 : Ents w8.heap.size (some g1) w13 es1 := hent1.step (fun b _ h _ => hb913.block b h) hb913.size (.inl rfl)
    have hok := HKX.out.ent hE13 he
    have hrg := (HKX.out.row hE13 (Nat.lt_of_lt_of_le hg1l hb913.size)).trans (hb913.block g1 hg1l)
    obtain ⟨x0, x1, x2, x3, x4, x5, T, lo, hi⟩ := e
    subst het
    have y0 := (World.cell?_of_block (a := ⟨g1, j * 6 + 0, none⟩) hrg).trans (hrow1 j _ he 0 _ rfl)
    have y1 := (World.cell?_of_block (a := ⟨g1, j * 6 + 1, none⟩) hrg).trans (hrow1 j _ he 1 _ rfl)
    have y2 := (World.cell?_of_block (a := ⟨g1, j * 6 + 2, none⟩) hrg).trans (hrow1 j _ he 2 _ rfl)
    have y3 := (World.cell?_of_block (a := ⟨g1, j * 6 + 3, none⟩) hrg).trans (hrow1 j _ he 3 _ rfl)
    have y4 := (World.cell?_of_block (a := ⟨g1, j * 6 + 4, none⟩) hrg).trans (hrow1 j _ he 4 _ rfl)
    have y5 := (World.cell?_of_block (a := ⟨g1, j * 6 + 5, none⟩) hrg).trans (hrow1 j _ he 5 _ rfl)
    simp only [Nat.add_zero] at y0
    have hfar : ∀ b, w9.heap.size ≤ b → b < w13.heap.size → w14.heap[b]? = w13.heap[b]? := fun b h1 h2 => HKX.out.far (C := w9.heap.size) (fun e he => (hent1.ok e he).upto) h1 h2
    obtain ⟨g3, rfl, hg3, hk3⟩ := HX3.out.at (w' := w14) (by intro e; rw [e] at hA; simp at hA) ((HB13.out.mono (Nat.le_trans HBs.out.2.2.2.2.2 (by have := HBs.out; omega))).trans (HKX.out.below.mono HBs.out.2.2.2.2.2)) (fun b h1 h2 => (hfar b (by have := HBs.out; omega) (by have := HBs.out; omega)).trans (HB13.out.block b h2))
    obtain ⟨k, b, nn, s, ks, us⟩ := T
    obtain ⟨ja, jc, jl, jd, ⟨c0, c1, c2, c3, c4, c5⟩, hlx⟩ := hk3.cells hA
    simp only [Nat.zero_add] at c0 c1 c2 c3 c4 c5
    have hgl : g1 < w14.heap.size := lt_of_cell y0
    have hDs : D ≤ w14.heap.size := Nat.le_trans HBs.out.2.2.2.2.2 (Nat.le_trans (Nat.le_trans HBs.out.1 (Nat.le_trans HBs.out.2.1 (Nat.le_trans HBs.out.2.2.1 (Nat.le_trans HBs.out.2.2.2.1 HBs.out.2.2.2.2.1)))) HKX.out.below.size)
    have HAL : Hid (∀ W, Below w14.heap.size w14 W → Calls Tryz.prog 27 #[.agg #[x0, x1, x2, x3, x4, x5], .agg #[.int .i64 k, .bool b, .int .i64 nn, .string s, .slice ja ks.length jc, .slice jl us.length jd]] W fun e w' => e = .returned (.bool true) ∧ Below W.heap.size W w') := fun W hb =>
     alike_any _ w14.heap.size _ _ W hb.size (((hok.lies.mono (Nat.le_refl _) hok.upto).lie).below hb) ((hlx.mono hDs).below hb)
    have HOE := hidE hok
    have HE := hidE he
    have HY := hidE (And.intro y0 (And.intro y1 (And.intro y2 (And.intro y3 (And.intro y4 y5)))))
    clear hok he hA hrg hlx hk3 hrow1 hent1 hE13 hb913 hg1 hg1l hfar hg3
    go_wp2_with fail
    have HC1 := hidE (HAL.out w14.drew (Below.refl _ w14).drew)
    go_region_with (go_at_call 27; refine HC1.out.mono ?_; rintro e' w16 ⟨rfl, hb16⟩)
    all_goals
     have HB16 : Hid (Below w14.heap.size w14 w16) := (Below.refl _ w14).drew.trans hb16
     clear hb16 HC1 c0 c1 c2 c3 c4 c5 y0 y1 y2 y3 y4 y5
     obtain ⟨y0, y1, y2, y3, y4, y5⟩ := HY.out
     replace y0 := (HB16.out.cell (p := ⟨g1, _, none⟩) hgl).trans y0
     replace y1 := (HB16.out.cell (p := ⟨g1, _, none⟩) hgl).trans y1
     replace y2 := (HB16.out.cell (p := ⟨g1, _, none⟩) hgl).trans y2
     replace y3 := (HB16.out.cell (p := ⟨g1, _, none⟩) hgl).trans y3
     replace y4 := (HB16.out.cell (p := ⟨g1, _, none⟩) hgl).trans y4
     replace y5 := (HB16.out.cell (p := ⟨g1, _, none⟩) hgl).trans y5
     have HSPO := hidE (spoil_any _ lo hi _ w16 HOE.out.le (Nat.le_trans HOE.out.upto HB16.out.size) (LiesF.sp (HOE.out.lies.keep (keepsF_of fun b _ h2 => HB16.out.block b (Nat.lt_of_lt_of_le h2 HOE.out.upto)))))
     go_wp2_with fail
     refine HSPO.out.mono ?_
     rintro e' w17 ⟨⟨vv, rfl⟩, hsoft⟩
     have HNEW : Hid (KeepX w8.heap.size es1 (j + 1) w13 w17) := (HKX.out.on HB16.out (by have := HBs.out; omega)).soft HE.out hsoft HOE.out.start
     clear hsoft y0 y1 y2 y3 y4 y5 HSPO
     go_wp2_with fail
     go_roundw
     case rel => exact ⟨j + 1, by omega, by go_num, HNEW.out⟩
     case measure => simp [intOf]; omega
   ·have hjn : j = ts.length := by omega
    subst hjn
    go_wp2_with fail
    go_loopw [10] (fun i wr => ∃ q : Nat, q ≤ ny ∧ i = .int .i64 q ∧ KeepX (w9.heap.size + 1) es2 q w14 wr) (fun i _ => ny - (intOf i).toNat)
    case atStart => exact ⟨0, Nat.zero_le _, rfl, KeepX.start _ _ _⟩
    case round =>
     obtain ⟨j, hj, rfl, hkx⟩ := hrel
     obtain ⟨w15, rfl⟩ : ∃ x, x = wr := ⟨_, rfl⟩
     have HKY := hidE hkx
     clear hkx
     by_cases hlt : j < ny
     ·obtain ⟨A, hA⟩ : ∃ t, (outL ts)[j]? = some t := ⟨_, List.getElem?_eq_getElem (by rw [HNY.out]; exact hlt)⟩
      obtain ⟨e, he, het⟩ : ∃ e, es2[j]? = some e ∧ e.t = A := by
       rw [← HX2.out.1, List.getElem?_map] at hA
       obtain ⟨e, h1, h2⟩ := Option.map_eq_some_iff.1 hA
       exact ⟨e, h1, h2⟩
      obtain ⟨g2, rfl, hg2, hg2l, hrow2, hent2⟩ := HX2.out.2.resolve_left (by intro h; rw [h] at he; simp at he)
      have hb1013 : Below w10.heap.size w10 w13 := below_on (below_on HB11.out HB12.out) HB13.out
      have hfar1 : ∀ b, w9.heap.size ≤ b → b < w13.heap.size → w14.heap[b]? = w13.heap[b]? := fun b h1 h2 => HKX.out.far (C := w9.heap.size) (fun e he => by
       rcases HX1.out.2 with h | ⟨g1, _, _, _, _, hent1⟩
       ·rw [h] at he; simp at he
       ·exact (hent1.ok e he).upto) h1 h2
      have hk1014 : ∀ b, w9.heap.size + 1 ≤ b → b < w10.heap.size → w14.heap[b]? = w10.heap[b]? := fun b h1 h2 => (hfar1 b (by omega) (by have := HBs.out; omega)).trans (hb1013.block b h2)
      have hs14 : w13.heap.size ≤ w14.heap.size := HKX.out.below.size
      have hE14 : Ents (w9.heap.size + 1) (some g2) w14 es2 := hent2.step (fun b h1 h2 _ => hk1014 b h1 h2) (by have := HBs.out; omega) (.inl rfl)
      have hA0 : w9.heap.size + 1 ≤ w14.heap.size := by have := HBs.out; omega
      have hok := HKY.out.ent hE14 he
      have hrg := (HKY.out.row hE14 (by have := HBs.out; omega)).trans (hk1014 g2 hg2 hg2l)
      obtain ⟨x0, x1, x2, x3, x4, x5, T, lo, hi⟩ := e
      subst het
      have y0 := (World.cell?_of_block (a := ⟨g2, j * 6 + 0, none⟩) hrg).trans (hrow2 j _ he 0 _ rfl)
      have y1 := (World.cell?_of_block (a := ⟨g2, j * 6 + 1, none⟩) hrg).trans (hrow2 j _ he 1 _ rfl)
      have y2 := (World.cell?_of_block (a := ⟨g2, j * 6 + 2, none⟩) hrg).trans (hrow2 j _ he 2 _ rfl)
      have y3 := (World.cell?_of_block (a := ⟨g2, j * 6 + 3, none⟩) hrg).trans (hrow2 j _ he 3 _ rfl)
      have y4 := (World.cell?_of_block (a := ⟨g2, j * 6 + 4, none⟩) hrg).trans (hrow2 j _ he 4 _ rfl)
      have y5 := (World.cell?_of_block (a := ⟨g2, j * 6 + 5, none⟩) hrg).trans (hrow2 j _ he 5 _ rfl)
      simp only [Nat.add_zero] at y0
      have hfar2 : ∀ b, w10.heap.size ≤ b → b < w14.heap.size → w15.heap[b]? = w14.heap[b]? := fun b h1 h2 => HKY.out.far (C := w10.heap.size) (fun e he => (hent2.ok e he).upto) h1 h2
      obtain ⟨g4, rfl, hg4, hk3⟩ := HX4.out.at (w' := w15) (by intro e; rw [e] at hA; simp at hA) ((HKX.out.below.mono HBs.out.2.2.2.2.2).trans (HKY.out.below.mono (by have := HBs.out; omega))) (fun b h1 h2 => (hfar2 b (by have := HBs.out; omega) (by omega)).trans (hfar1 b (by have := HBs.out; omega) h2))
      obtain ⟨k, b, nn, s, ks, us⟩ := T
      obtain ⟨ja, jc, jl, jd, ⟨c0, c1, c2, c3, c4, c5⟩, hlx⟩ := hk3.cells hA
      simp only [Nat.zero_add] at c0 c1 c2 c3 c4 c5
      have hgl : g2 < w15.heap.size := lt_of_cell y0
      have hDs : D ≤ w15.heap.size := Nat.le_trans HBs.out.2.2.2.2.2 (Nat.le_trans (Nat.le_trans HBs.out.1 (Nat.le_trans HBs.out.2.1 (Nat.le_trans HBs.out.2.2.1 (Nat.le_trans HBs.out.2.2.2.1 HBs.out.2.2.2.2.1)))) (Nat.le_trans HKX.out.below.size HKY.out.below.size))
      have HAL : Hid (∀ W, Below w15.heap.size w15 W → Calls Tryz.prog 27 #[.agg #[x0, x1, x2, x3, x4, x5], .agg #[.int .i64 k, .bool b, .int .i64 nn, .string s, .slice ja ks.length jc, .slice jl us.length jd]] W fun e w' => e = .returned (.bool true) ∧ Below W.heap.size W w') := fun W hb =>
       alike_any _ w15.heap.size _ _ W hb.size (((hok.lies.mono (Nat.le_refl _) hok.upto).lie).below hb) ((hlx.mono hDs).below hb)
      have HOE := hidE hok
      have HE := hidE he
      have HY := hidE (And.intro y0 (And.intro y1 (And.intro y2 (And.intro y3 (And.intro y4 y5)))))
      clear hok he hA hrg hlx hk3 hrow2 hent2 hE14 hb1013 hg2 hg2l hfar1 hfar2 hk1014 hs14 hg4
      go_wp2_with fail
      have HC1 := hidE (HAL.out w15.drew (Below.refl _ w15).drew)
      go_region_with (go_at_call 27; refine HC1.out.mono ?_; rintro e' w16 ⟨rfl, hb16⟩)
      all_goals
       have HB16 : Hid (Below w15.heap.size w15 w16) := (Below.refl _ w15).drew.trans hb16
       clear hb16 HC1 c0 c1 c2 c3 c4 c5 y0 y1 y2 y3 y4 y5
       obtain ⟨y0, y1, y2, y3, y4, y5⟩ := HY.out
       replace y0 := (HB16.out.cell (p := ⟨g2, _, none⟩) hgl).trans y0
       replace y1 := (HB16.out.cell (p := ⟨g2, _, none⟩) hgl).trans y1
       replace y2 := (HB16.out.cell (p := ⟨g2, _, none⟩) hgl).trans y2
       replace y3 := (HB16.out.cell (p := ⟨g2, _, none⟩) hgl).trans y3
       replace y4 := (HB16.out.cell (p := ⟨g2, _, none⟩) hgl).trans y4
       replace y5 := (HB16.out.cell (p := ⟨g2, _, none⟩) hgl).trans y5
       have HSPO := hidE (spoil_any _ lo hi _ w16 HOE.out.le (Nat.le_trans HOE.out.upto HB16.out.size) (LiesF.sp (HOE.out.lies.keep (keepsF_of fun b _ h2 => HB16.out.block b (Nat.lt_of_lt_of_le h2 HOE.out.upto)))))
       go_wp2_with fail
       refine HSPO.out.mono ?_
       rintro e' w17 ⟨⟨vv, rfl⟩, hsoft⟩
       have HNEW : Hid (KeepX (w9.heap.size + 1) es2 (j + 1) w14 w17) := (HKY.out.on HB16.out hA0).soft HE.out hsoft HOE.out.start
       clear hsoft y0 y1 y2 y3 y4 y5 HSPO
       go_wp2_with fail
       go_roundw
       case rel => exact ⟨j + 1, by omega, by go_num, HNEW.out⟩
       case measure => simp [intOf]; omega
     ·have HBL : Hid (Below w8.heap.size w8 w15) := (HB813.out.trans (HKX.out.below.mono (Nat.le_refl _))).trans (HKY.out.below.mono (by have := HBs.out; omega))
      go_wp2_with fail
      go_loopw [11] (fun i wr => ∃ q : Nat, q ≤ ts.length ∧ i = .int .i64 q ∧ Below w8.heap.size w8 wr) (fun i _ => ts.length - (intOf i).toNat)
      case atStart => exact ⟨0, Nat.zero_le _, rfl, HBL.out⟩
      case round =>
       obtain ⟨q, hq, rfl, hbq⟩ := hrel
       obtain ⟨w20, rfl⟩ : ∃ x, x = wr := ⟨_, rfl⟩
       have HB20 := hidE hbq
       have HBW20 : Hid (Below w.heap.size w w20) := HB8.out.trans (hbq.mono HB8.out.size)
       clear hbq
       by_cases hlq : q < ts.length
       ·obtain ⟨T, hx⟩ : ∃ t, ts[q]? = some t := ⟨_, List.getElem?_eq_getElem hlq⟩
        obtain ⟨bl, off, rfl, hbl, hkk⟩ := (HLA.out w20 HBW20.out).1.resolve_left (by intro e; rw [e] at hlq; simp at hlq)
        obtain ⟨k, b, nn, s, ks, us⟩ := T
        obtain ⟨ja, jc, jl, jd, ⟨c0, c1, c2, c3, c4, c5⟩, hlx⟩ := hkk.cells hx
        obtain ⟨m0, m1, m2, m3, m4, m5, ⟨d0, d1, d2, d3, d4, d5⟩, hsp⟩ := (HMT.out.below HB20.out).kids.at hx
        simp only [Nat.zero_add] at d0 d1 d2 d3 d4 d5
        have HKP : Hid (∀ W, Below w20.heap.size w20 W → Calls Tryz.prog 29 #[.agg #[m0, m1, m2, m3, m4, m5], .agg #[.int .i64 k, .bool b, .int .i64 nn, .string s, .slice ja ks.length jc, .slice jl us.length jd]] W fun e w' => e = .returned (.bool true) ∧ Below W.heap.size W w') := fun W hb =>
         kept_any _ w8.heap.size _ _ W (Nat.le_trans HB20.out.size hb.size) (Spare.below (hb.mono HB20.out.size) hsp) ((hlx.mono (HLA.out w8 HB8.out).2.1).below (hb.mono HB20.out.size))
        clear hx hkk hlx hsp hbl
        go_wp2_with fail
        have HC1 := hidE (HKP.out w20.drew (Below.refl _ w20).drew)
        go_region_with (go_at_call 29; refine HC1.out.mono ?_; rintro e w21 ⟨rfl, hb21⟩)
        all_goals
         have HB21 : Hid (Below w8.heap.size w8 w21) := HB20.out.trans (((Below.refl _ w20).drew.trans hb21).mono HB20.out.size)
         clear hb21 HC1 c0 c1 c2 c3 c4 c5 d0 d1 d2 d3 d4 d5
         go_wp2_with fail
         go_roundw
         case rel => exact ⟨q + 1, by omega, by go_num, HB21.out⟩
         case measure => simp [intOf]; omega
       ·go_wp2_with fail
        refine (HWK.out w20 HBW20.out).mono ?_
        rintro e w21 ⟨rfl, hb21⟩
        have HB21 : Hid (Below w.heap.size w w21) := below_on HBW20.out hb21
        clear hb21
        go_wp2_with fail
        go_ret
        exact ⟨rfl, HB21.out⟩
end Go.Proofs.YtbpmhgcjefpigaaGreatDoor
