/- The document's own: values in order. -/
import Derived.Test.YtbpmhgcjefpigaaGreatDoorRsort6t
import Derived.Test.YtbpmhgcjefpigaaGreatDoorJoin22
import Derived.Test.YtbpmhgcjefpigaaGreatDoorJoin24
namespace Go.Proofs.YtbpmhgcjefpigaaGreatDoor
open Go.RowKit Go.Shelf Go.WideShapes Go.Lib
set_option linter.unusedVariables false
set_option linter.unusedSimpArgs false
def upN (out : List Tree) (t : Tree) : Nat := (out.takeWhile fun u => decide (ordT u t ≤ 0)).length
def insT (out : List Tree) (t : Tree) : List Tree := out.take (upN out t) ++ [t] ++ out.drop (upN out t)
def srtL (ts : List Tree) : List Tree := ts.foldl insT []
theorem srtL_take {ts : List Tree} {j : Nat} {t : Tree} (h : ts[j]? = some t) : srtL (ts.take (j + 1)) = insT (srtL (ts.take j)) t := by
 rw [List.take_add_one, h]
 show srtL (ts.take j ++ [t]) = _
 unfold srtL
 rw [List.foldl_append]
 rfl
theorem insT_len (out : List Tree) (t : Tree) : (insT out t).length = out.length + 1 := by
 have : upN out t ≤ out.length := (List.takeWhile_sublist _).length_le
 simp [insT]; omega
theorem srtL_len (ts : List Tree) (j : Nat) (hj : j ≤ ts.length) : (srtL (ts.take j)).length = j := by
 induction j with
 | zero => simp [srtL]
 | succ j ih =>
  rw [srtL_take (List.getElem?_eq_getElem (by omega : j < ts.length)), insT_len, ih (by omega)]
theorem insT_mem {out : List Tree} {t u : Tree} (h : u ∈ insT out t) : u ∈ out ∨ u = t := by
 simp only [insT, List.mem_append, List.mem_cons, List.not_mem_nil, or_false] at h
 rcases h with (h | h) | h
 ·exact .inl (List.mem_of_mem_take h)
 ·exact .inr h
 ·exact .inl (List.mem_of_mem_drop h)
theorem srtL_mem {ts : List Tree} : ∀ j, j ≤ ts.length → ∀ t ∈ srtL (ts.take j), t ∈ ts := by
 intro j
 induction j with
 | zero => intro _ t ht; simp [srtL] at ht
 | succ j ih =>
  intro hj t ht
  rw [srtL_take (List.getElem?_eq_getElem (by omega : j < ts.length))] at ht
  rcases insT_mem ht with h | h
  ·exact ih (by omega) t h
  ·rw [h]; exact List.getElem_mem _
theorem upN_at : ∀ {out : List Tree} {t : Tree} {q : Nat}, q ≤ out.length → (∀ i u, i < q → out[i]? = some u → ordT u t ≤ 0) → (∀ u, out[q]? = some u → ¬ ordT u t ≤ 0) → upN out t = q
 | [], t, q, hq, _, _ => by simp at hq; subst hq; rfl
 | u :: out, t, 0, _, _, h2 => by
  have := h2 u rfl
  simp [upN, List.takeWhile, this]
 | u :: out, t, q + 1, hq, h1, h2 => by
  have h0 := h1 0 u (by omega) rfl
  have := upN_at (out := out) (t := t) (q := q) (by simpa using hq) (fun i v hi hv => h1 (i + 1) v (by omega) (by simpa using hv)) (fun v hv => h2 v (by simpa using hv))
  unfold upN at this ⊢
  rw [List.takeWhile_cons, if_pos (by simpa using h0), List.length_cons, this]
theorem RowL.takeL {B : Nat} {w : World} : ∀ {xs : List Value} {ts : List Tree} (h : RowL B w xs ts) (q : Nat), RowL B w (xs.take (q * 6)) (ts.take q)
 | _, _, .nil, q => by simp; exact .nil
 | _, _, .cons h k, 0 => by simp; exact .nil
 | _, _, .cons h k, q + 1 => by
  rw [show (q + 1) * 6 = q * 6 + 1 + 1 + 1 + 1 + 1 + 1 by omega]
  simp only [List.take_succ_cons]
  exact .cons h (RowL.takeL k q)
theorem RowL.dropL {B : Nat} {w : World} : ∀ {xs : List Value} {ts : List Tree} (h : RowL B w xs ts) (q : Nat), RowL B w (xs.drop (q * 6)) (ts.drop q)
 | _, _, .nil, q => by simp; exact .nil
 | _, _, .cons h k, 0 => by simp; exact .cons h k
 | _, _, .cons h k, q + 1 => by
  rw [show (q + 1) * 6 = q * 6 + 1 + 1 + 1 + 1 + 1 + 1 by omega]
  simp only [List.drop_succ_cons]
  exact RowL.dropL k q
theorem append_cells {ops : Array Oper} {rest : List Oper} {o : Oper} {a : Act} {Q : Exit → Act → World → Prop} (w : World) (hgd : o.guard = none) (sl x : Operand)
  (ho : o.op = .call { callee := .builtin .append, args := #[sl, x], argTypes := #[24, 24] }) (base n : Nat) (v : Value) (xs : List Value) (hs : a.eval sl = v) (hown : w.ownsRow base 26 6 v n xs) (ad : Addr) (m c : Nat) (ys : List Value) (hx : a.eval x = .slice (some ad) m c)
  (hm : ys.length = m * 6) (hc : ∀ j u, ys[j]? = some u → w.cell? (ad.add j) = some u) (hone : ∀ u ∈ ys, u.oneCell' = true) (hn : n + m ≤ 1000000) (hB : base ≤ w.heap.size)
  (h : ∀ v' w', w'.ownsRow base 26 6 v' (n + m) (xs ++ ys) → w.grownBy w' v.ownBlock → (v'.ownBlock = v.ownBlock ∨ v'.ownBlock = some w.heap.size) → wpList Tryz.prog ops Q rest (a.put o.dst v') w') : wpList Tryz.prog ops Q (o :: rest) a w := by
 refine wpList_plain hgd fun K hK => ?_
 obtain ⟨i0, hi, hz0, hz1, hz2⟩ := info_parts Tryz.info26
 obtain ⟨v', w', hr, h2, h3, _, h5⟩ := run_append_own_at (P := Tryz.prog) w base 24 o.type 26 i0 _ 6 88 Tryz.underlying24 hi hz0 hz1 hz2 rfl (by decide) v n xs hown ad m c ys hm hc hone (by unfold maxLen; omega) (by omega) hB
 unfold Oper.wp execOp
 simp only [ho, resolve, invoke, builtin, Sem.run_bind, Sem.run_pure, Result.andThen_ok, List.map_toArray, List.map_cons, List.map_nil, hs, hx, hr]
 exact hK _ _ (h v' w' h2 h3 h5)
theorem append_nilL {ops : Array Oper} {rest : List Oper} {o : Oper} {a : Act} {Q : Exit → Act → World → Prop} (w : World) (hgd : o.guard = none) (sl x : Operand)
  (ho : o.op = .call { callee := .builtin .append, args := #[sl, x], argTypes := #[24, 24] }) (base n : Nat) (v : Value) (xs : List Value) (hs : a.eval sl = v) (hown : w.ownsRow base 26 6 v n xs) (hx : a.eval x = .slice none 0 0) (hn : n ≤ 1000000) (hB : base ≤ w.heap.size)
  (h : ∀ v' w', w'.ownsRow base 26 6 v' n xs → w.grownBy w' v.ownBlock → (v'.ownBlock = v.ownBlock ∨ v'.ownBlock = some w.heap.size) → wpList Tryz.prog ops Q rest (a.put o.dst v') w') : wpList Tryz.prog ops Q (o :: rest) a w := by
 refine wpList_plain hgd fun K hK => ?_
 obtain ⟨v', w', ys, hr, h1, h2, h3, h4⟩ := append_values (B := 0) (ts := []) (la := none) (ty := o.type) (lc := 0) hown (.inl rfl) (by simpa using hn) hB
 cases h1
 unfold Oper.wp execOp
 simp only [ho, resolve, invoke, builtin, Sem.run_bind, Sem.run_pure, Result.andThen_ok, List.map_toArray, List.map_cons, List.map_nil, hs, hx]
 have hr' : (Builtin.append_ #[24, 24] o.type #[v, .slice none 0 0]).run Tryz.prog w = .ok v' w' := hr
 simp only [hr', Result.andThen_ok]
 exact hK _ _ (h v' w' (by simpa using h2) h3 h4)
structure RSortAt (w : World) (B : Nat) (ts : List Tree) (j : Nat) (o : Value) (wr : World) : Prop where
 row : ∃ xs, wr.ownsRow w.heap.size 26 6 o (srtL (ts.take j)).length xs ∧ RowL B wr xs (srtL (ts.take j))
 below : Below w.heap.size w wr
set_option maxRecDepth 100000 in
set_option maxHeartbeats 4000000 in
theorem refSorted_any (ts : List Tree) (B : Nat) (la : Option Addr) (lc : Nat) (w : World) (hB : B ≤ w.heap.size) (hl : ListLies B w la ts) (h1 : ts.length ≤ lc) (hn : ts.length ≤ 1000) (hc : ∀ t ∈ ts, checkN t = 0) :
  Calls Tryz.prog 48 #[.slice la ts.length lc] w fun e w' => ∃ v xs, e = .returned v ∧ w'.ownsRow w.heap.size 26 6 v (srtL ts).length xs ∧ RowL B w' xs (srtL ts) ∧ Below w.heap.size w w' := by
 have HC := hidE hc
 have HL := hidE hl
 clear hc hl
 go_enter Tryz.func48, Tryz.ntmps48
 go_wp2_with fail
 go_loopw [4, 3] (fun i o wr => ∃ j : Nat, j ≤ ts.length ∧ i = .int .i64 j ∧ RSortAt w B ts j o wr) (fun i _ _ => ts.length - (intOf i).toNat)
 case atStart => exact ⟨0, Nat.zero_le _, rfl, ⟨[], World.ownsRow_nil _ _ _ _, .nil⟩, Below.refl _ _⟩
 case round =>
  obtain ⟨j, hj, rfl, hgo⟩ := hrel
  obtain ⟨w4, rfl⟩ : ∃ x, x = wr := ⟨_, rfl⟩
  obtain ⟨xs, r1, r2⟩ := hgo.row
  obtain ⟨ad, cap, rfl, had⟩ := row_slice r1
  have hlen := srtL_len ts j hj
  have HR := hidE (And.intro r1 r2)
  have HGB := hidE hgo.below
  by_cases hlt : j < ts.length
  ·obtain ⟨t, hx⟩ : ∃ t, ts[j]? = some t := ⟨_, List.getElem?_eq_getElem hlt⟩
   have hct := HC.out t (List.mem_of_getElem? hx)
   have hstep := srtL_take hx
   have hco : ∀ u ∈ srtL (ts.take j), checkN u = 0 := fun u hu => HC.out u (srtL_mem j hj u hu)
   obtain ⟨out, hout⟩ : ∃ out, srtL (ts.take j) = out := ⟨_, rfl⟩
   rw [hout] at hstep hco HR hlen had ⊢
   obtain ⟨bl, off, rfl, hbl, hkl⟩ := HL.out.resolve_left (by intro e; rw [e] at hlt; simp at hlt)
   have HT := hidE (And.intro hx (And.intro hct (And.intro hstep (And.intro hco (And.intro hbl (And.intro hkl (And.intro had hout)))))))
   obtain ⟨nl, hnl⟩ : ∃ nl, out.length = nl := ⟨_, rfl⟩
   rw [hnl] at hlen ⊢
   have HNL := hidE hnl
   have hnj : nl = j := hlen
   have HNJ := hidE hnj
   have hnb : nl ≤ 1000 := by omega
   clear hx hct hstep hco hkl had hout hgo r1 r2 hnl hlen hnj
   go_wp2_with fail
   go_loopw [5] (fun k wi => ∃ q : Nat, q ≤ nl ∧ k = .int .i64 q ∧ (∀ i u, i < q → out[i]? = some u → ordT u t ≤ 0) ∧ Below w4.heap.size w4 wi) (fun k _ => nl - (intOf k).toNat)
   case atStart => exact ⟨0, Nat.zero_le _, rfl, fun i u h => by omega, Below.refl _ _⟩
   case round =>
    obtain ⟨q, hq, rfl, hled, hbi⟩ := hrel
    obtain ⟨wi, rfl⟩ : ∃ x, x = wr := ⟨_, rfl⟩
    have HBI := hidE hbi
    have HLED := hidE hled
    clear hbi hled
    by_cases hql : q < nl
    ·obtain ⟨hx, hct, hstep, hco, hbl', hkl, had, hout⟩ := HT.out
     obtain ⟨g, rfl⟩ := had (by rw [HNL.out]; omega)
     obtain ⟨u, hu⟩ : ∃ u, out[q]? = some u := ⟨_, List.getElem?_eq_getElem (by rw [HNL.out]; exact hql)⟩
     have hcu := hco u (List.mem_of_getElem? hu)
     have hbwi : Below w.heap.size w wi := below_on HGB.out HBI.out
     have HU := hidE hu
     obtain ⟨k, b, nn, s, ks, us⟩ := t
     obtain ⟨ja, jc, jl, jd, ⟨c0, c1, c2, c3, c4, c5⟩, hlx⟩ := (hkl.below (hbwi.mono hB) hbl').cells hx
     have hown := own_keep HR.out.1 HBI.out
     have hrow := HR.out.2.stay (HBI.out.mono (Nat.le_trans hB HGB.out.size))
     have hkg : KidsLie B wi g 0 out := hrow.kids (fun i v hv => by
      have hcc := hown.cells (g := g) rfl i v hv
      rwa [Lib.add_plain] at hcc) hrow
     obtain ⟨k', b', nn', s', ks', us'⟩ := u
     obtain ⟨ja', jc', jl', jd', ⟨d0, d1, d2, d3, d4, d5⟩, hlu⟩ := hkg.cells hu
     simp only [Nat.zero_add] at d0 d1 d2 d3 d4 d5
     have hBi : B ≤ wi.heap.size := Nat.le_trans hB hbwi.size
     have hgl : g < wi.heap.size := lt_of_cell d0
     have hbll : bl < wi.heap.size := lt_of_cell c0
     obtain ⟨cm, hcm⟩ : ∃ cm, ordT (.mk k' b' nn' s' ks' us') (.mk k b nn s ks us) = cm := ⟨_, rfl⟩
     have HCM := hidE hcm
     have HW : Hid (∀ W, Below wi.heap.size wi W → WorldZ6t g nl cap q bl off ts.length lc j cm _ _ _ _ _ _ _ _ _ _ _ _ W) := fun W hb => ⟨(hb.cell (p := ⟨g, _, none⟩) hgl).trans d0, (hb.cell (p := ⟨g, _, none⟩) hgl).trans d1, (hb.cell (p := ⟨g, _, none⟩) hgl).trans d2, (hb.cell (p := ⟨g, _, none⟩) hgl).trans d3, (hb.cell (p := ⟨g, _, none⟩) hgl).trans d4, (hb.cell (p := ⟨g, _, none⟩) hgl).trans d5,
       (hb.cell (p := ⟨bl, _, none⟩) hbll).trans c0, (hb.cell (p := ⟨bl, _, none⟩) hbll).trans c1, (hb.cell (p := ⟨bl, _, none⟩) hbll).trans c2, (hb.cell (p := ⟨bl, _, none⟩) hbll).trans c3, (hb.cell (p := ⟨bl, _, none⟩) hbll).trans c4, (hb.cell (p := ⟨bl, _, none⟩) hbll).trans c5,
       hcm ▸ refcmp_any _ B _ _ _ W (Nat.le_trans hBi hb.size) (hlu.below (hb.mono hBi)) (hlx.below (hb.mono hBi)) (known_check hcu) (known_check hct), hql, hlt⟩
     clear hx hct hstep hco hbl' hkl had hout hbwi c0 c1 c2 c3 c4 c5 hlx hown hrow hkg d0 d1 d2 d3 d4 d5 hlu hBi hgl hbll hcu hu hcm
     go_upto_region 6 with fail
     show (Code.region 6 RZ6t true).wp _ _ _ _
     refine regionZ6t g nl cap q bl off ts.length lc j cm _ _ _ _ _ _ _ _ _ _ _ _ _ _ wi rfl ⟨rfl, rfl, rfl, rfl⟩ HW.out ?_
     intro c w10 hS hb10 h28
     have HB10 := hidE (below_on HBI.out hb10)
     have hl : c = ⟨#[Value.slice (some { block := bl, off := off }) ts.length lc, undef, Value.slice none 0 0, Value.slice (some { block := g, off := 0 }) nl cap, Value.int IntKind.i64 ↑j, Value.int IntKind.i64 ↑q, u6, Value.int IntKind.i64 ↑j, Value.slice (some { block := bl, off := off }) ts.length lc, Value.int IntKind.i64 ↑ts.length, Value.bool true, u11, u12, c.eval (.tmp 13), c.eval (.tmp 14), c.eval (.tmp 15), c.eval (.tmp 16), c.eval (.tmp 17), c.eval (.tmp 18), c.eval (.tmp 19), c.eval (.tmp 20), c.eval (.tmp 21), c.eval (.tmp 22), c.eval (.tmp 23), c.eval (.tmp 24), c.eval (.tmp 25), c.eval (.tmp 26), c.eval (.tmp 27), c.eval (.tmp 28), u29, u30, u31, u32, u33, u34, u35, u36, u37, u38, u39, u40, u41, u42, u43, u44, u45, u46, undef], []⟩ := (same_lay hS).trans (by kernel_rfl)
     rw [h28] at hl
     generalize c.eval (.tmp 13) = z13, c.eval (.tmp 14) = z14, c.eval (.tmp 15) = z15, c.eval (.tmp 16) = z16, c.eval (.tmp 17) = z17, c.eval (.tmp 18) = z18, c.eval (.tmp 19) = z19, c.eval (.tmp 20) = z20, c.eval (.tmp 21) = z21, c.eval (.tmp 22) = z22, c.eval (.tmp 23) = z23, c.eval (.tmp 24) = z24, c.eval (.tmp 25) = z25, c.eval (.tmp 26) = z26, c.eval (.tmp 27) = z27 at hl
     clear hS h28 hb10
     subst hl
     clear HW
     by_cases hle : cm ≤ 0
     ·have hd : decide (cm ≤ 0) = true := by simp [hle]
      rw [hd]
      have HNEW : Hid (∀ i u, i < q + 1 → out[i]? = some u → ordT u (.mk k b nn s ks us) ≤ 0) := fun i u hi hu => by
       by_cases e : i = q
       ·subst e
        rw [HU.out] at hu
        obtain rfl := Option.some.inj hu
        rw [HCM.out]; exact hle
       ·exact HLED.out i u (by omega) hu
      clear hd
      go_wp2_with fail
      go_roundw
      case rel => exact ⟨q + 1, by omega, by go_num, HNEW.out, HB10.out⟩
      case measure => simp [intOf]; omega
     ·have hd : decide (cm ≤ 0) = false := by simp [hle]
      rw [hd]
      clear hd
      have hbwi : Below w.heap.size w w10 := below_on HGB.out HB10.out
      have hown := own_keep HR.out.1 HB10.out
      rw [HNL.out] at hown
      have hcap : nl ≤ cap := by
       rcases hown.2 with ⟨h, _⟩ | ⟨g', cap', cur, h, _, _, hnc, _⟩
       ·cases h
       ·simp only [Value.slice.injEq, Option.some.injEq] at h
        rw [h.2.2]; exact hnc
      have hrow := HR.out.2.stay (HB10.out.mono (Nat.le_trans hB HGB.out.size))
      have hxl := hrow.length
      rw [HNL.out] at hxl
      have hcl : ∀ i v, xs[i]? = some v → w10.cell? ⟨g, i, none⟩ = some v := fun i v hv => by
       have hcc := hown.cells (g := g) rfl i v hv
       rwa [Lib.add_plain, Nat.zero_add] at hcc
      have hc1 : ∀ i v, (xs.take (q * 6))[i]? = some v → w10.cell? ((⟨g, 0, none⟩ : Addr).add i) = some v := fun i v hv => by
       rw [Lib.add_plain, Nat.zero_add]
       rw [List.getElem?_take] at hv
       split at hv
       ·exact hcl i v hv
       ·cases hv
      have hm1 : (xs.take (q * 6)).length = q * 6 := by rw [List.length_take]; omega
      have ho1 : ∀ v ∈ xs.take (q * 6), v.oneCell' = true := fun v hv => hrow.one v (List.mem_of_mem_take hv)
      have hbs := hbwi.size
      have hqc : q ≤ cap := by omega
      go_upto_region 9 with (at_builtin; refine append_cells w10 rfl _ _ rfl w.heap.size 0 (.slice none 0 0) [] rfl (World.ownsRow_nil _ _ _ _) ⟨g, 0, none⟩ q cap _ rfl hm1 hc1 ho1 (by omega) hbs ?_; intro v11 w11 ho11 hg11 hp11)
      have HO11 := hidE (And.intro ho11 (And.intro hg11 hp11))
      have hb1011 : Below w10.heap.size w10 w11 := (Below.refl _ _).grown hg11 (Nat.le_refl _) (fun q h => by cases h)
      have hbw11 : Below w.heap.size w w11 := below_on hbwi hb1011
      obtain ⟨hx, hct, hstep, hco, hbl', hkl, -, hout⟩ := HT.out
      obtain ⟨ja, jc, jl, jd, ⟨c0, c1, c2, c3, c4, c5⟩, hlx⟩ := (hkl.below (hbw11.mono hB) hbl').cells hx
      obtain ⟨W12, hW12⟩ : ∃ W12, w11.alloc (.cells #[.int .i64 k, .bool b, .int .i64 nn, .string s, .slice ja ks.length jc, .slice jl us.length jd] 26) = W12 := ⟨_, rfl⟩
      have hb1112 : Below w11.heap.size w11 W12 := hW12 ▸ (Below.refl _ _).alloc (Nat.le_refl _) _
      have r12 := own_keep ho11 hb1112
      have hc7 : ∀ i u, ([.int .i64 k, .bool b, .int .i64 nn, .string s, .slice ja ks.length jc, .slice jl us.length jd] : List Value)[i]? = some u → W12.cell? ((⟨w11.heap.size, 0, none⟩ : Addr).add i) = some u := fun i u hi => by
       rw [← hW12, Lib.add_plain, Nat.zero_add]
       exact cell_new _ _ _ _ _ (by simpa using hi)
      have hone : ∀ u ∈ ([.int .i64 k, .bool b, .int .i64 nn, .string s, .slice ja ks.length jc, .slice jl us.length jd] : List Value), u.oneCell' = true := by
       intro u hu
       simp only [List.mem_cons, List.not_mem_nil, or_false] at hu
       rcases hu with rfl | rfl | rfl | rfl | rfl | rfl <;> rfl
      have hbs12 : w.heap.size ≤ W12.heap.size := Nat.le_trans hbw11.size hb1112.size
      have HW12 := hidE hW12
      have HST := hidE (And.intro hstep (And.intro hlx hb1112))
      have HB11 := hidE (And.intro hb1011 (And.intro hbw11 hp11))
      have hnq : 0 + q + 1 ≤ 1000000 := by omega
      clear hx hct hstep hco hbl' hkl hout hlx hb1112 hW12 hg11 hp11 hb1011 hbw11 HO11 ho11 hc1 hm1 ho1
      go_upto_region 10 with (at_builtin; rw [HW12.out]; refine append_six W12 rfl _ _ rfl w.heap.size _ v11 _ rfl r12 ⟨w11.heap.size, 0, none⟩ _ rfl rfl hc7 hone hnq hbs12 ?_; intro v13 w13 ho13 hg13 hp13)
      have hb13 : Below w10.heap.size w10 w13 := (HB11.out.1.trans (HST.out.2.2.mono HB11.out.1.size)).trans ((Below.refl _ W12).grown hg13 (Nat.le_trans HB11.out.1.size HST.out.2.2.size) (fun p hp => by
       rcases HB11.out.2.2 with e | e
       ·rw [e] at hp; cases hp
       ·rw [e] at hp
        have : w10.heap.size = p := by simpa using hp
        omega))
      have hgl : nl - q > 0 → g < w10.heap.size := fun h => by
       have hx0 : 0 < xs.length := by omega
       exact lt_of_cell (hcl 0 xs[0] (List.getElem?_eq_getElem hx0))
      have hbs13 : w.heap.size ≤ w13.heap.size := Nat.le_trans hbs hb13.size
      have r12k : ∀ p, v11.ownBlock = some p → w.heap.size ≤ p := fun p hp => (r12.lt p hp).1
      clear c0 c1 c2 c3 c4 c5 hc7 hone r12 HW12
      have hc3 : ∀ i v, (xs.drop (q * 6))[i]? = some v → w13.cell? ((⟨g, q * 6, none⟩ : Addr).add i) = some v := fun i v hv => by
       rw [Lib.add_plain]
       rw [List.getElem?_drop] at hv
       have h0 := hcl _ v hv
       exact (hb13.cell (p := ⟨g, q * 6 + i, none⟩) (lt_of_cell h0)).trans h0
      have hm3 : (xs.drop (q * 6)).length = (nl - q) * 6 := by rw [List.length_drop]; omega
      have ho3 : ∀ v ∈ xs.drop (q * 6), v.oneCell' = true := fun v hv => hrow.one v (List.mem_of_mem_drop hv)
      have hn3 : 0 + q + 1 + (nl - q) ≤ 1000000 := by omega
      go_wp2_with (at_builtin; refine append_cells w13 rfl _ _ rfl w.heap.size _ v13 _ rfl ho13 ⟨g, q * 6, none⟩ (nl - q) (cap - q) _ rfl hm3 hc3 ho3 hn3 hbs13 ?_; intro v14 w14 ho14 hg14 hp14)
      have HNEW : Hid (RSortAt w B ts (j + 1) v14 w14) := by
       obtain ⟨hstep, hlx, hb1112⟩ := HST.out
       have hup : upN out (.mk k b nn s ks us) = q := upN_at (by rw [HNL.out]; omega) HLED.out (fun u hu => by rw [HU.out] at hu; obtain rfl := Option.some.inj hu; rw [HCM.out]; exact hle)
       have hb14 : Below w.heap.size w10 w14 := (hb13.mono hbs).trans ((Below.refl _ w13).grown hg14 hbs13 fun p hp => (ho13.lt p hp).1)
       have hr14 : RowL B w14 xs out := hrow.stay (hb14.mono hB)
       have hl14 : Lies B w14 (.agg #[.int .i64 k, .bool b, .int .i64 nn, .string s, .slice ja ks.length jc, .slice jl us.length jd]) (.mk k b nn s ks us) :=
        hlx.below ((((hb1112.mono HB11.out.2.1.size).trans ((Below.refl _ W12).grown hg13 hbs12 fun p hp => (r12k p hp))).trans ((Below.refl _ w13).grown hg14 hbs13 fun p hp => (ho13.lt p hp).1)).mono hB)
       refine ⟨⟨_, by rw [hstep, insT_len, HNL.out, show nl + 1 = 0 + q + 1 + (nl - q) by omega]; exact ho14, ?_⟩, hbwi.trans hb14⟩
       rw [hstep]
       unfold insT
       rw [hup]
       exact ((hr14.takeL q).append (.cons hl14 .nil)).append (hr14.dropL q)
      clear ho14 hg14 hp14 ho13 hg13 hp13 hrow hown hcl hc3 hm3 ho3 r12k
      go_roundw
      case rel => exact ⟨j + 1, by omega, by go_num, HNEW.out⟩
      case measure => simp [intOf]; omega
    ·go_upto_region 6 with fail
     show (Code.region 6 RZ6f true).wp _ _ _ _
     refine regionZ6f ad nl cap q bl off ts.length lc j _ _ wi rfl ⟨rfl, rfl, rfl, rfl⟩ (fun W hb => ⟨hql⟩) ?_
     intro c w10 hS hb10 h28
     have HB10 := hidE (below_on HBI.out hb10)
     have hl : c = ⟨#[Value.slice (some { block := bl, off := off }) ts.length lc, undef, Value.slice none 0 0, Value.slice ad nl cap, Value.int IntKind.i64 ↑j, Value.int IntKind.i64 ↑q, u6, Value.int IntKind.i64 ↑j, Value.slice (some { block := bl, off := off }) ts.length lc, Value.int IntKind.i64 ↑ts.length, Value.bool true, u11, u12, c.eval (.tmp 13), c.eval (.tmp 14), c.eval (.tmp 15), c.eval (.tmp 16), c.eval (.tmp 17), c.eval (.tmp 18), c.eval (.tmp 19), c.eval (.tmp 20), c.eval (.tmp 21), c.eval (.tmp 22), c.eval (.tmp 23), c.eval (.tmp 24), c.eval (.tmp 25), c.eval (.tmp 26), c.eval (.tmp 27), c.eval (.tmp 28), u29, u30, u31, u32, u33, u34, u35, u36, u37, u38, u39, u40, u41, u42, u43, u44, u45, u46, undef], []⟩ := (same_lay hS).trans (by kernel_rfl)
     rw [h28] at hl
     generalize c.eval (.tmp 13) = z13, c.eval (.tmp 14) = z14, c.eval (.tmp 15) = z15, c.eval (.tmp 16) = z16, c.eval (.tmp 17) = z17, c.eval (.tmp 18) = z18, c.eval (.tmp 19) = z19, c.eval (.tmp 20) = z20, c.eval (.tmp 21) = z21, c.eval (.tmp 22) = z22, c.eval (.tmp 23) = z23, c.eval (.tmp 24) = z24, c.eval (.tmp 25) = z25, c.eval (.tmp 26) = z26, c.eval (.tmp 27) = z27 at hl
     clear hS h28 hb10
     subst hl
     have hqn : q = nl := by omega
     obtain ⟨k, b, nn, s, ks, us⟩ := t
     rcases HR.out.1.2 with ⟨h11, h12⟩ | ⟨g, cap', cur, h11, _⟩
     ·simp only [Value.slice.injEq] at h11
      obtain ⟨rfl, -, rfl⟩ := h11
      have hnl0 : nl = 0 := by rw [← HNL.out]; exact h12
      clear h12
      subst hqn hnl0
      have hbwi : Below w.heap.size w w10 := below_on HGB.out HB10.out
      have hxs : xs = [] := by have h9 := HR.out.2.length; rw [HNL.out] at h9; exact List.eq_nil_of_length_eq_zero (by omega)
      have hrow := HR.out.2.stay (HB10.out.mono (Nat.le_trans hB HGB.out.size))
      have hbs := hbwi.size
      go_upto_region 9 with (at_builtin; refine append_nilL w10 rfl _ _ rfl w.heap.size 0 (.slice none 0 0) [] rfl (World.ownsRow_nil _ _ _ _) rfl (by decide) hbs ?_; intro v11 w11 ho11 hg11 hp11)
      have HO11 := hidE (And.intro ho11 (And.intro hg11 hp11))
      have hb1011 : Below w10.heap.size w10 w11 := (Below.refl _ _).grown hg11 (Nat.le_refl _) (fun q h => by cases h)
      have hbw11 : Below w.heap.size w w11 := below_on hbwi hb1011
      obtain ⟨hx, hct, hstep, hco, hbl', hkl, -, hout⟩ := HT.out
      obtain ⟨ja, jc, jl, jd, ⟨c0, c1, c2, c3, c4, c5⟩, hlx⟩ := (hkl.below (hbw11.mono hB) hbl').cells hx
      obtain ⟨W12, hW12⟩ : ∃ W12, w11.alloc (.cells #[.int .i64 k, .bool b, .int .i64 nn, .string s, .slice ja ks.length jc, .slice jl us.length jd] 26) = W12 := ⟨_, rfl⟩
      have hb1112 : Below w11.heap.size w11 W12 := hW12 ▸ (Below.refl _ _).alloc (Nat.le_refl _) _
      have r12 := own_keep ho11 hb1112
      have hc7 : ∀ i u, ([.int .i64 k, .bool b, .int .i64 nn, .string s, .slice ja ks.length jc, .slice jl us.length jd] : List Value)[i]? = some u → W12.cell? ((⟨w11.heap.size, 0, none⟩ : Addr).add i) = some u := fun i u hi => by
       rw [← hW12, Lib.add_plain, Nat.zero_add]
       exact cell_new _ _ _ _ _ (by simpa using hi)
      have hone : ∀ u ∈ ([.int .i64 k, .bool b, .int .i64 nn, .string s, .slice ja ks.length jc, .slice jl us.length jd] : List Value), u.oneCell' = true := by
       intro u hu
       simp only [List.mem_cons, List.not_mem_nil, or_false] at hu
       rcases hu with rfl | rfl | rfl | rfl | rfl | rfl <;> rfl
      have hbs12 : w.heap.size ≤ W12.heap.size := Nat.le_trans hbw11.size hb1112.size
      have HW12 := hidE hW12
      have HST := hidE (And.intro hstep (And.intro hlx hb1112))
      have HB11 := hidE (And.intro hb1011 (And.intro hbw11 hp11))
      have hnq : 0 + 1 ≤ 1000000 := by decide
      clear hx hct hstep hco hbl' hkl hout hlx hb1112 hW12 hg11 hp11 hb1011 hbw11 HO11 ho11
      go_upto_region 10 with (at_builtin; rw [HW12.out]; refine append_six W12 rfl _ _ rfl w.heap.size _ v11 _ rfl r12 ⟨w11.heap.size, 0, none⟩ _ rfl rfl hc7 hone hnq hbs12 ?_; intro v13 w13 ho13 hg13 hp13)
      have hb13 : Below w10.heap.size w10 w13 := (HB11.out.1.trans (HST.out.2.2.mono HB11.out.1.size)).trans ((Below.refl _ W12).grown hg13 (Nat.le_trans HB11.out.1.size HST.out.2.2.size) (fun p hp => by
       rcases HB11.out.2.2 with e | e
       ·rw [e] at hp; cases hp
       ·rw [e] at hp
        have : w10.heap.size = p := by simpa using hp
        omega))
      have hbs13 : w.heap.size ≤ w13.heap.size := Nat.le_trans hbs hb13.size
      have r12k : ∀ p, v11.ownBlock = some p → w.heap.size ≤ p := fun p hp => (r12.lt p hp).1
      clear c0 c1 c2 c3 c4 c5 hc7 hone r12 HW12
      go_wp2_with (at_builtin; refine append_nilL w13 rfl _ _ rfl w.heap.size _ v13 _ rfl ho13 rfl (by omega) hbs13 ?_; intro v14 w14 ho14 hg14 hp14)
      have HNEW : Hid (RSortAt w B ts (j + 1) v14 w14) := by
       obtain ⟨hstep, hlx, hb1112⟩ := HST.out
       have hup : upN out (.mk k b nn s ks us) = 0 := upN_at (by rw [HNL.out]; omega) HLED.out (fun u hu => by have h9 := (List.getElem?_eq_some_iff.1 hu).1; rw [HNL.out] at h9; omega)
       have hb14 : Below w.heap.size w10 w14 := (hb13.mono hbs).trans ((Below.refl _ w13).grown hg14 hbs13 fun p hp => (ho13.lt p hp).1)
       have hr14 : RowL B w14 xs out := hrow.stay (hb14.mono hB)
       have hl14 : Lies B w14 (.agg #[.int .i64 k, .bool b, .int .i64 nn, .string s, .slice ja ks.length jc, .slice jl us.length jd]) (.mk k b nn s ks us) :=
        hlx.below ((((hb1112.mono HB11.out.2.1.size).trans ((Below.refl _ W12).grown hg13 hbs12 fun p hp => (r12k p hp))).trans ((Below.refl _ w13).grown hg14 hbs13 fun p hp => (ho13.lt p hp).1)).mono hB)
       refine ⟨⟨_, by rw [hstep, insT_len, HNL.out]; exact ho14, ?_⟩, hbwi.trans hb14⟩
       rw [hstep]
       unfold insT
       rw [hup]
       have h10 := ((hr14.takeL 0).append (.cons hl14 .nil)).append (hr14.dropL 0)
       rw [hxs] at h10
       simpa using h10
      clear ho14 hg14 hp14 ho13 hg13 hp13 hrow r12k
      go_roundw
      case rel => exact ⟨j + 1, by omega, by go_num, HNEW.out⟩
      case measure => simp [intOf]; omega
     ·simp only [Value.slice.injEq] at h11
      obtain ⟨rfl, -, -⟩ := h11
      clear hqn
      have hbwi : Below w.heap.size w w10 := below_on HGB.out HB10.out
      have hown := own_keep HR.out.1 HB10.out
      rw [HNL.out] at hown
      have hcap : nl ≤ cap := by
       rcases hown.2 with ⟨h, _⟩ | ⟨g', cap', cur, h, _, _, hnc, _⟩
       ·cases h
       ·simp only [Value.slice.injEq, Option.some.injEq] at h
        rw [h.2.2]; exact hnc
      have hrow := HR.out.2.stay (HB10.out.mono (Nat.le_trans hB HGB.out.size))
      have hxl := hrow.length
      rw [HNL.out] at hxl
      have hcl : ∀ i v, xs[i]? = some v → w10.cell? ⟨g, i, none⟩ = some v := fun i v hv => by
       have hcc := hown.cells (g := g) rfl i v hv
       rwa [Lib.add_plain, Nat.zero_add] at hcc
      have hc1 : ∀ i v, (xs.take (q * 6))[i]? = some v → w10.cell? ((⟨g, 0, none⟩ : Addr).add i) = some v := fun i v hv => by
       rw [Lib.add_plain, Nat.zero_add]
       rw [List.getElem?_take] at hv
       split at hv
       ·exact hcl i v hv
       ·cases hv
      have hm1 : (xs.take (q * 6)).length = q * 6 := by rw [List.length_take]; omega
      have ho1 : ∀ v ∈ xs.take (q * 6), v.oneCell' = true := fun v hv => hrow.one v (List.mem_of_mem_take hv)
      have hbs := hbwi.size
      have hqc : q ≤ cap := by omega
      go_upto_region 9 with (at_builtin; refine append_cells w10 rfl _ _ rfl w.heap.size 0 (.slice none 0 0) [] rfl (World.ownsRow_nil _ _ _ _) ⟨g, 0, none⟩ q cap _ rfl hm1 hc1 ho1 (by omega) hbs ?_; intro v11 w11 ho11 hg11 hp11)
      have HO11 := hidE (And.intro ho11 (And.intro hg11 hp11))
      have hb1011 : Below w10.heap.size w10 w11 := (Below.refl _ _).grown hg11 (Nat.le_refl _) (fun q h => by cases h)
      have hbw11 : Below w.heap.size w w11 := below_on hbwi hb1011
      obtain ⟨hx, hct, hstep, hco, hbl', hkl, -, hout⟩ := HT.out
      obtain ⟨ja, jc, jl, jd, ⟨c0, c1, c2, c3, c4, c5⟩, hlx⟩ := (hkl.below (hbw11.mono hB) hbl').cells hx
      obtain ⟨W12, hW12⟩ : ∃ W12, w11.alloc (.cells #[.int .i64 k, .bool b, .int .i64 nn, .string s, .slice ja ks.length jc, .slice jl us.length jd] 26) = W12 := ⟨_, rfl⟩
      have hb1112 : Below w11.heap.size w11 W12 := hW12 ▸ (Below.refl _ _).alloc (Nat.le_refl _) _
      have r12 := own_keep ho11 hb1112
      have hc7 : ∀ i u, ([.int .i64 k, .bool b, .int .i64 nn, .string s, .slice ja ks.length jc, .slice jl us.length jd] : List Value)[i]? = some u → W12.cell? ((⟨w11.heap.size, 0, none⟩ : Addr).add i) = some u := fun i u hi => by
       rw [← hW12, Lib.add_plain, Nat.zero_add]
       exact cell_new _ _ _ _ _ (by simpa using hi)
      have hone : ∀ u ∈ ([.int .i64 k, .bool b, .int .i64 nn, .string s, .slice ja ks.length jc, .slice jl us.length jd] : List Value), u.oneCell' = true := by
       intro u hu
       simp only [List.mem_cons, List.not_mem_nil, or_false] at hu
       rcases hu with rfl | rfl | rfl | rfl | rfl | rfl <;> rfl
      have hbs12 : w.heap.size ≤ W12.heap.size := Nat.le_trans hbw11.size hb1112.size
      have HW12 := hidE hW12
      have HST := hidE (And.intro hstep (And.intro hlx hb1112))
      have HB11 := hidE (And.intro hb1011 (And.intro hbw11 hp11))
      have hnq : 0 + q + 1 ≤ 1000000 := by omega
      clear hx hct hstep hco hbl' hkl hout hlx hb1112 hW12 hg11 hp11 hb1011 hbw11 HO11 ho11 hc1 hm1 ho1
      go_upto_region 10 with (at_builtin; rw [HW12.out]; refine append_six W12 rfl _ _ rfl w.heap.size _ v11 _ rfl r12 ⟨w11.heap.size, 0, none⟩ _ rfl rfl hc7 hone hnq hbs12 ?_; intro v13 w13 ho13 hg13 hp13)
      have hb13 : Below w10.heap.size w10 w13 := (HB11.out.1.trans (HST.out.2.2.mono HB11.out.1.size)).trans ((Below.refl _ W12).grown hg13 (Nat.le_trans HB11.out.1.size HST.out.2.2.size) (fun p hp => by
       rcases HB11.out.2.2 with e | e
       ·rw [e] at hp; cases hp
       ·rw [e] at hp
        have : w10.heap.size = p := by simpa using hp
        omega))
      have hgl : nl - q > 0 → g < w10.heap.size := fun h => by
       have hx0 : 0 < xs.length := by omega
       exact lt_of_cell (hcl 0 xs[0] (List.getElem?_eq_getElem hx0))
      have hbs13 : w.heap.size ≤ w13.heap.size := Nat.le_trans hbs hb13.size
      have r12k : ∀ p, v11.ownBlock = some p → w.heap.size ≤ p := fun p hp => (r12.lt p hp).1
      clear c0 c1 c2 c3 c4 c5 hc7 hone r12 HW12
      have hc3 : ∀ i v, (xs.drop (q * 6))[i]? = some v → w13.cell? ((⟨g, q * 6, none⟩ : Addr).add i) = some v := fun i v hv => by
       rw [Lib.add_plain]
       rw [List.getElem?_drop] at hv
       have h0 := hcl _ v hv
       exact (hb13.cell (p := ⟨g, q * 6 + i, none⟩) (lt_of_cell h0)).trans h0
      have hm3 : (xs.drop (q * 6)).length = (nl - q) * 6 := by rw [List.length_drop]; omega
      have ho3 : ∀ v ∈ xs.drop (q * 6), v.oneCell' = true := fun v hv => hrow.one v (List.mem_of_mem_drop hv)
      have hn3 : 0 + q + 1 + (nl - q) ≤ 1000000 := by omega
      by_cases hcq : q < cap
      ·go_wp2_with (at_builtin; refine append_cells w13 rfl _ _ rfl w.heap.size _ v13 _ rfl ho13 ⟨g, q * 6, none⟩ (nl - q) (cap - q) _ rfl hm3 hc3 ho3 hn3 hbs13 ?_; intro v14 w14 ho14 hg14 hp14)
       have HNEW : Hid (RSortAt w B ts (j + 1) v14 w14) := by
        obtain ⟨hstep, hlx, hb1112⟩ := HST.out
        have hup : upN out (.mk k b nn s ks us) = q := upN_at (by rw [HNL.out]; omega) HLED.out (fun u hu => by have h9 := (List.getElem?_eq_some_iff.1 hu).1; rw [HNL.out] at h9; omega)
        have hb14 : Below w.heap.size w10 w14 := (hb13.mono hbs).trans ((Below.refl _ w13).grown hg14 hbs13 fun p hp => (ho13.lt p hp).1)
        have hr14 : RowL B w14 xs out := hrow.stay (hb14.mono hB)
        have hl14 : Lies B w14 (.agg #[.int .i64 k, .bool b, .int .i64 nn, .string s, .slice ja ks.length jc, .slice jl us.length jd]) (.mk k b nn s ks us) :=
         hlx.below ((((hb1112.mono HB11.out.2.1.size).trans ((Below.refl _ W12).grown hg13 hbs12 fun p hp => (r12k p hp))).trans ((Below.refl _ w13).grown hg14 hbs13 fun p hp => (ho13.lt p hp).1)).mono hB)
        refine ⟨⟨_, by rw [hstep, insT_len, HNL.out, show nl + 1 = 0 + q + 1 + (nl - q) by omega]; exact ho14, ?_⟩, hbwi.trans hb14⟩
        rw [hstep]
        unfold insT
        rw [hup]
        exact ((hr14.takeL q).append (.cons hl14 .nil)).append (hr14.dropL q)
       clear ho14 hg14 hp14 ho13 hg13 hp13 hrow hown hcl hc3 hm3 ho3 r12k
       go_roundw
       case rel => exact ⟨j + 1, by omega, by go_num, HNEW.out⟩
       case measure => simp [intOf]; omega
      ·have hz : xs.drop (q * 6) = [] := List.eq_nil_of_length_eq_zero (by rw [hm3]; omega)
       have hc4 : ∀ i v, (xs.drop (q * 6))[i]? = some v → w13.cell? ((⟨g, 0, none⟩ : Addr).add i) = some v := fun i v hv => by
        rw [hz] at hv; simp at hv
       clear hz
       go_wp2_with (at_builtin; refine append_cells w13 rfl _ _ rfl w.heap.size _ v13 _ rfl ho13 ⟨g, 0, none⟩ (nl - q) (cap - q) _ rfl hm3 hc4 ho3 hn3 hbs13 ?_; intro v14 w14 ho14 hg14 hp14)
       have HNEW : Hid (RSortAt w B ts (j + 1) v14 w14) := by
        obtain ⟨hstep, hlx, hb1112⟩ := HST.out
        have hup : upN out (.mk k b nn s ks us) = q := upN_at (by rw [HNL.out]; omega) HLED.out (fun u hu => by have h9 := (List.getElem?_eq_some_iff.1 hu).1; rw [HNL.out] at h9; omega)
        have hb14 : Below w.heap.size w10 w14 := (hb13.mono hbs).trans ((Below.refl _ w13).grown hg14 hbs13 fun p hp => (ho13.lt p hp).1)
        have hr14 : RowL B w14 xs out := hrow.stay (hb14.mono hB)
        have hl14 : Lies B w14 (.agg #[.int .i64 k, .bool b, .int .i64 nn, .string s, .slice ja ks.length jc, .slice jl us.length jd]) (.mk k b nn s ks us) :=
         hlx.below ((((hb1112.mono HB11.out.2.1.size).trans ((Below.refl _ W12).grown hg13 hbs12 fun p hp => (r12k p hp))).trans ((Below.refl _ w13).grown hg14 hbs13 fun p hp => (ho13.lt p hp).1)).mono hB)
        refine ⟨⟨_, by rw [hstep, insT_len, HNL.out, show nl + 1 = 0 + q + 1 + (nl - q) by omega]; exact ho14, ?_⟩, hbwi.trans hb14⟩
        rw [hstep]
        unfold insT
        rw [hup]
        exact ((hr14.takeL q).append (.cons hl14 .nil)).append (hr14.dropL q)
       clear ho14 hg14 hp14 ho13 hg13 hp13 hrow hown hcl hc3 hc4 hm3 ho3 r12k
       go_roundw
       case rel => exact ⟨j + 1, by omega, by go_num, HNEW.out⟩
       case measure => simp [intOf]; omega
  ·have hjs : ts.take j = ts := List.take_of_length_le (by omega)
   have HE : Hid (w4.ownsRow w.heap.size 26 6 (.slice ad (srtL (ts.take j)).length cap) (srtL ts).length xs ∧ RowL B w4 xs (srtL ts)) := by
    have := HR.out
    rw [hjs] at this ⊢
    exact this
   clear hjs had hgo r1 r2
   obtain ⟨nl, hnl⟩ : ∃ nl, (srtL (ts.take j)).length = nl := ⟨_, rfl⟩
   rw [hnl] at HE ⊢
   clear hnl hlen HR
   go_wp2_with fail
   go_ret
   exact ⟨_, xs, rfl, HE.out.1, HE.out.2, HGB.out⟩
end Go.Proofs.YtbpmhgcjefpigaaGreatDoor
