/- Once, at any list of values that may be. Two values that may be have one text just if they are one: about rows of bytes alone. -/
import Derived.Test.YtbpmhgcjefpigaaGreatDoorJoin27
import Derived.Test.YtbpmhgcjefpigaaGreatDoorJoin14
import Derived.Test.YtbpmhgcjefpigaaGreatDoorJoin10
namespace Go.Proofs.YtbpmhgcjefpigaaGreatDoor
open Go.RowKit Go.Shelf Go.WideShapes Go.Lib
set_option linter.unusedVariables false
set_option linter.unusedSimpArgs false

def txt (t : Tree) : ByteArray := ⟨(tellG t).toArray⟩
def hasT (out : List Tree) (t : Tree) : Bool := (out.map tellG).contains (tellG t)
theorem hasT_iff (out : List Tree) (t : Tree) : hasT out t = true ↔ txt t ∈ out.map txt := by
  unfold hasT
  rw [List.contains_iff_mem, List.mem_map, List.mem_map]
  constructor
  · rintro ⟨u, hu, e⟩; exact ⟨u, hu, by unfold txt; rw [e]⟩
  · rintro ⟨u, hu, e⟩
    refine ⟨u, hu, ?_⟩
    have := congrArg (fun b : ByteArray => b.data.toList) e
    simpa [txt] using this
/-- Each where it comes first. -/
def outL (ts : List Tree) : List Tree := ts.foldl (fun out t => if hasT out t = true then out else out ++ [t]) []
theorem outL_take {ts : List Tree} {j : Nat} {t : Tree} (h : ts[j]? = some t) : outL (ts.take (j + 1)) = if hasT (outL (ts.take j)) t = true then outL (ts.take j) else outL (ts.take j) ++ [t] := by
  rw [List.take_add_one, h]
  show outL (ts.take j ++ [t]) = _
  unfold outL
  rw [List.foldl_append]
  rfl
theorem outL_len (ts : List Tree) (j : Nat) (hj : j ≤ ts.length) : (outL (ts.take j)).length ≤ j := by
  induction j with
  | zero => simp [outL]
  | succ j ih =>
    have := ih (by omega)
    rw [outL_take (List.getElem?_eq_getElem (by omega : j < ts.length))]
    split
    · omega
    · rw [List.length_append]; simp; omega
theorem own_keep' {base e size n : Nat} {xs : List Value} {v : Value} {w w1 : World} (hown : w.ownsRow base e size v n xs) (hk : ∀ q, base ≤ q → q < w.heap.size → w1.heap[q]? = w.heap[q]?) : w1.ownsRow base e size v n xs := by
  obtain ⟨g1, ⟨g2, g3⟩ | ⟨g, cap, cur, g2, g3, g4, g5⟩⟩ := hown
  · exact ⟨g1, .inl ⟨g2, g3⟩⟩
  · exact ⟨g1, .inr ⟨g, cap, cur, g2, g3, (hk g g3 (Array.getElem?_eq_some_iff.1 g4).1).trans g4, g5⟩⟩
theorem own_keep {base e size n : Nat} {xs : List Value} {v : Value} {w w1 : World} (hown : w.ownsRow base e size v n xs) (hb : Below w.heap.size w w1) : w1.ownsRow base e size v n xs := own_keep' hown fun q _ hq => hb.block q hq
structure OnceAt (w : World) (ts : List Tree) (j : Nat) (o : Value) (wr : World) : Prop where
  row : ∃ xs, wr.ownsRow (w.heap.size + 1) 26 6 o (outL (ts.take j)).length xs ∧ RowF (w.heap.size + 1) o.ownBlock wr xs (outL (ts.take j))
  seen : SeenAt wr w.heap.size ((outL (ts.take j)).map txt)
  below : Below w.heap.size w wr

set_option maxRecDepth 100000 in
set_option maxHeartbeats 4000000 in
theorem once_any (ts : List Tree) (B : Nat) (la : Option Addr) (lc : Nat) (w : World) (hB : B ≤ w.heap.size) (hl : ListLies B w la ts) (h1 : ts.length ≤ lc) (hn : ts.length ≤ 1000) (hc : ∀ t ∈ ts, checkN t = 0 ∧ Ranged t ∧ Modest t ∧ t.total ≤ 800000)
    (hT : Tabs w) (hP : TabBelow Tryz.prog w.heap.size w "internal/strconv.uint64pow10" .u64 pow10Tab) (hM : ML w) (h2 : 2 < w.heap.size) :
    Calls Tryz.prog 47 #[.slice la ts.length lc] w fun e w' => ∃ v xs, e = .returned v ∧ w'.ownsRow (w.heap.size + 1) 26 6 v (outL ts).length xs ∧ RowF (w.heap.size + 1) v.ownBlock w' xs (outL ts) ∧ Below w.heap.size w w' := by
  have hmm : ∀ W : World, (Instr.makeMap 87 none).run Tryz.prog W = .ok (.map (some W.heap.size)) (W.alloc (.map #[] 0)) := fun W => rfl
  obtain ⟨W1, hW1⟩ : ∃ W1, w.alloc (.map #[] 0) = W1 := ⟨_, rfl⟩
  have hb1 : Below w.heap.size w W1 := hW1 ▸ (Below.refl _ _).alloc (Nat.le_refl _) _
  have HS : Hid (OnceAt w ts 0 (.slice none 0 0) W1) := ⟨⟨[], World.ownsRow_nil _ _ _ _, .nil⟩, hW1 ▸ seen_none w, hb1⟩
  have HX : Hid (∀ w', Below w.heap.size w w' → Tabs w' ∧ TabBelow Tryz.prog w'.heap.size w' "internal/strconv.uint64pow10" .u64 pow10Tab ∧ ML w' ∧ 2 < w'.heap.size ∧ B ≤ w'.heap.size) := fun w' hb => by
    obtain ⟨m, hm⟩ := hM
    exact ⟨hT.below hb, fun w2 h => hP w2 (hb.trans (h.mono hb.size)), ⟨m, (hb.cell (p := ⟨2, 0, none⟩) h2).trans hm⟩, Nat.lt_of_lt_of_le h2 hb.size, Nat.le_trans hB hb.size⟩
  have HW1 := hidE hW1
  have HC := hidE hc
  have HL := hidE hl
  clear hW1 hb1 hc hl hT hP hM h2
  go_enter Tryz.func47, Tryz.ntmps47
  go_wp2_with fail
  rw [HW1.out]
  clear hmm
  go_loopw [14, 4] (fun i o wr => ∃ j : Nat, j ≤ ts.length ∧ i = .int .i64 j ∧ OnceAt w ts j o wr) (fun i _ _ => ts.length - (intOf i).toNat)
  case atStart => exact ⟨0, Nat.zero_le _, rfl, HS.out⟩
  case round =>
    obtain ⟨j, hj, rfl, hgo⟩ := hrel
    have HGO := hidE hgo
    by_cases hlt : j < ts.length
    · obtain ⟨t, hx⟩ : ∃ t, ts[j]? = some t := ⟨_, List.getElem?_eq_getElem hlt⟩
      obtain ⟨hck, hran, hmo, htot⟩ := HC.out t (List.mem_of_getElem? hx)
      have hbr := hgo.below
      obtain ⟨bl, off, rfl, hbl, hkl⟩ := HL.out.resolve_left (by intro e; rw [e] at hlt; simp at hlt)
      have hstep := outL_take hx
      have HSTEP := hidE hstep
      have hlen := outL_len ts j hj
      have htl := tellG_len t hran
      have hts : (txt t).size ≤ maxLen := by
        show (tellG t).toArray.size ≤ maxLen
        rw [List.size_toArray]; unfold maxLen; omega
      obtain ⟨k, b, nn, s, ks, us⟩ := t
      obtain ⟨ja, jc, jl, jd, ⟨c0, c1, c2, c3, c4, c5⟩, hlx⟩ := (hkl.below (hbr.mono hB) hbl).cells hx
      obtain ⟨WA, hWA⟩ : ∃ WA, wr.alloc (.cells #[.int .i64 k, .bool b, .int .i64 nn, .string s, .slice ja ks.length jc, .slice jl us.length jd] 26) = WA := ⟨_, rfl⟩
      have hba : Below wr.heap.size wr WA := hWA ▸ (Below.refl _ _).alloc (Nat.le_refl _) _
      have hqa : WA.heap[wr.heap.size]? = some (.cells #[.int .i64 k, .bool b, .int .i64 nn, .string s, .slice ja ks.length jc, .slice jl us.length jd] 26 (0, 0)) := hWA ▸ World.alloc_heap_new _ _
      have hbwa : Below w.heap.size w WA := below_on hbr hba
      obtain ⟨x1, x2, x3, x4, x5⟩ := HX.out WA hbwa
      have HTX := hidE (Text_anyG _ hck hran (by omega) hmo B _ WA x5 (hlx.below (hba.mono (HX.out wr hbr).2.2.2.2)) x1 x2 x3 x4)
      have HA := hidE (And.intro hba (And.intro hqa (And.intro hbwa hlx)))
      have HWA := hidE hWA
      clear hstep hqa hba hWA hbwa x1 x2 x3 x4 x5 hlx hkl hgo hbr hx hck hran hmo htl
      go_upto_region 6 with fail
      rw [HWA.out]
      have z0 := box_cell HA.out.2.1 (i := 0) rfl
      have z1 := box_cell HA.out.2.1 (i := 1) rfl
      have z2 := box_cell HA.out.2.1 (i := 2) rfl
      have z3 := box_cell HA.out.2.1 (i := 3) rfl
      have z4 := box_cell HA.out.2.1 (i := 4) rfl
      have z5 := box_cell HA.out.2.1 (i := 5) rfl
      go_wp2_with fail
      refine HTX.out.mono ?_
      rintro e w3 ⟨rfl, hb3⟩
      have HB3 := hidE hb3
      obtain ⟨S, hS⟩ : ∃ S, txt (.mk k b nn s ks us) = S := ⟨_, rfl⟩
      have hSt : (⟨(tellG (.mk k b nn s ks us)).toArray⟩ : ByteArray) = S := hS
      rw [hSt]
      rw [hS] at hts
      obtain ⟨x, hx⟩ : ∃ x, hasT (outL (ts.take j)) (.mk k b nn s ks us) = x := ⟨_, rfl⟩
      have hsn : SeenAt w3 w.heap.size ((outL (ts.take j)).map txt) := by
        refine HGO.out.seen.block ?_
        have hlt := HGO.out.seen.lt
        exact (hb3.block _ (Nat.lt_of_lt_of_le hlt HA.out.1.size)).trans (HA.out.1.block _ hlt)
      have hlk := seen_look hsn S hts x (by rw [← hx, hasT_iff, hS])
      have HSN := hidE hsn
      have HSS := hidE (And.intro hS hx)
      clear hb3 hS hSt hsn HTX z0 z1 z2 z3 z4 z5 c0 c1 c2 c3 c4 c5 HWA hx
      go_upto_region 10 with fail
      obtain ⟨W4, hW4⟩ : ∃ W4, w3.alloc (.cells #[] 88) = W4 := ⟨_, rfl⟩
      rw [hW4]
      have hb34 : Below w3.heap.size w3 W4 := hW4 ▸ (Below.refl _ _).alloc (Nat.le_refl _) _
      have hsn4 : SeenAt W4 w.heap.size ((outL (ts.take j)).map txt) := HSN.out.block (hb34.block _ HSN.out.lt)
      have hba4 : Below WA.heap.size WA W4 := below_on HB3.out hb34
      have hbr4 : Below wr.heap.size wr W4 := below_on HA.out.1 hba4
      have HB4 := hidE (And.intro hsn4 (And.intro hba4 hbr4))
      clear hlk hW4 hb34 hba4 hbr4 HSN HB3
      cases x with
      | true =>
        have HNEW : Hid (OnceAt w ts (j + 1) u4 W4) := by
          obtain ⟨xs, r1, r2⟩ := HGO.out.row
          have e : outL (ts.take (j + 1)) = outL (ts.take j) := by rw [HSTEP.out, if_pos HSS.out.2]
          refine ⟨⟨xs, ?_, ?_⟩, ?_, below_on HGO.out.below HB4.out.2.2⟩
          · rw [e]; exact own_keep r1 HB4.out.2.2
          · rw [e]; exact r2.step (fun b _ hb _ => HB4.out.2.2.block b hb) HB4.out.2.2.size (.inl rfl)
          · rw [e]; exact HB4.out.1
        clear hsn4
        go_wp2_with fail
        go_roundw
        case rel => exact ⟨j + 1, by omega, by go_num, HNEW.out⟩
        case measure => simp [intOf]; omega
      | false =>
        have hnm : S ∉ (outL (ts.take j)).map txt := fun hm => by
          have := (hasT_iff (outL (ts.take j)) (.mk k b nn s ks us)).2 (by rw [HSS.out.1]; exact hm)
          rw [HSS.out.2] at this
          cases this
        obtain ⟨W5, hup, hsn5, hsz5, hk5, hb5⟩ := seen_put hsn4 S hts hnm
        have hwr : w.heap.size < wr.heap.size := HGO.out.seen.lt
        have hbx5 : W5.heap[wr.heap.size]? = some (.cells #[.int .i64 k, .bool b, .int .i64 nn, .string s, .slice ja ks.length jc, .slice jl us.length jd] 26 (0, 0)) :=
          (hk5 _ (by omega)).trans ((HB4.out.2.1.block _ (Array.getElem?_eq_some_iff.1 HA.out.2.1).1).trans HA.out.2.1)
        have y0 := box_cell hbx5 (i := 0) rfl
        have y1 := box_cell hbx5 (i := 1) rfl
        have y2 := box_cell hbx5 (i := 2) rfl
        have y3 := box_cell hbx5 (i := 3) rfl
        have y4 := box_cell hbx5 (i := 4) rfl
        have y5 := box_cell hbx5 (i := 5) rfl
        have hbw5 : Below w.heap.size w W5 := (below_on HGO.out.below HB4.out.2.2).trans hb5
        have hl5 : Lies B W5 (.agg #[.int .i64 k, .bool b, .int .i64 nn, .string s, .slice ja ks.length jc, .slice jl us.length jd]) (.mk k b nn s ks us) :=
          HA.out.2.2.2.below (((HB4.out.2.2.mono (HX.out wr HGO.out.below).2.2.2.2)).trans (hb5.mono hB))
        have HCP := hidE (copy_anyF _ B _ W5 (HX.out W5 hbw5).2.2.2.2 hl5 (by omega))
        have HR5 : Hid ((∃ xs, W5.ownsRow (w.heap.size + 1) 26 6 u4 (outL (ts.take j)).length xs ∧ RowF (w.heap.size + 1) u4.ownBlock W5 xs (outL (ts.take j))) ∧ w.heap.size + 1 ≤ W5.heap.size) := by
          obtain ⟨xs, r1, r2⟩ := HGO.out.row
          have hk : ∀ q, w.heap.size + 1 ≤ q → q < wr.heap.size → W5.heap[q]? = wr.heap[q]? := fun q h1 h2 => (hk5 q (by omega)).trans (HB4.out.2.2.block q h2)
          have hs : wr.heap.size ≤ W5.heap.size := by rw [hsz5]; exact HB4.out.2.2.size
          refine ⟨⟨xs, own_keep' r1 hk, r2.step (fun q h1 h2 _ => hk q h1 h2) hs (.inl rfl)⟩, by omega⟩
        have H5 := hidE (And.intro hsn5 hbw5)
        clear hsn5 hk5 hb5 hbx5 hl5 hsz5 hsn4 hnm hwr
        go_wp2_with fail
        refine HCP.out.mono ?_
        rintro e w6 ⟨vc, rfl, hlf, hb6⟩
        obtain ⟨ck, cb, cn, cx, ca, cm, cc, cl, co, cd, rfl⟩ := lies_form hlf.lie
        obtain ⟨⟨xs, r1, r2⟩, hA5⟩ := HR5.out
        obtain ⟨W7, hW7⟩ : ∃ W7, w6.alloc (.cells #[.int .i64 ck, .bool cb, .int .i64 cn, .string cx, .slice ca cm cc, .slice cl co cd] 26) = W7 := ⟨_, rfl⟩
        have hb67 : Below w6.heap.size w6 W7 := hW7 ▸ (Below.refl _ _).alloc (Nat.le_refl _) _
        have hb57 : Below W5.heap.size W5 W7 := below_on hb6 hb67
        have r17 := own_keep r1 hb57
        have hc7 : ∀ i u, ([.int .i64 ck, .bool cb, .int .i64 cn, .string cx, .slice ca cm cc, .slice cl co cd] : List Value)[i]? = some u → W7.cell? ((⟨w6.heap.size, 0, none⟩ : Addr).add i) = some u := fun i u hi => by
          rw [← hW7, Lib.add_plain, Nat.zero_add]
          exact cell_new _ _ _ _ _ (by simpa using hi)
        have hone : ∀ u ∈ ([.int .i64 ck, .bool cb, .int .i64 cn, .string cx, .slice ca cm cc, .slice cl co cd] : List Value), u.oneCell' = true := by
          intro u hu
          simp only [List.mem_cons, List.not_mem_nil, or_false] at hu
          rcases hu with rfl | rfl | rfl | rfl | rfl | rfl <;> rfl
        have h57 : w.heap.size + 1 ≤ W7.heap.size := Nat.le_trans hA5 hb57.size
        have HW7 := hidE hW7
        have H7 := hidE (And.intro hlf (And.intro hb6 (And.intro hb67 r2)))
        clear hlf hb6 hb67 hW7 r1 r2 HCP y0 y1 y2 y3 y4 y5 hb57 hup
        go_wp2_with (at_builtin; rw [HW7.out]; refine append_six W7 rfl _ _ rfl (w.heap.size + 1) _ u4 xs rfl r17 ⟨w6.heap.size, 0, none⟩ _ rfl rfl hc7 hone (by omega) h57 ?_; intro v8 w8 ho8 hg8 hp8)
        have HNEW : Hid (OnceAt w ts (j + 1) v8 w8) := by
          have e : outL (ts.take (j + 1)) = outL (ts.take j) ++ [.mk k b nn s ks us] := by rw [HSTEP.out, if_neg (by rw [HSS.out.2]; decide)]
          obtain ⟨hlf, hb6, hb67, r2⟩ := H7.out
          have hb57 : Below W5.heap.size W5 W7 := below_on hb6 hb67
          have hown : ∀ q, u4.ownBlock = some q → w.heap.size + 1 ≤ q ∧ q < W5.heap.size := fun q hq => by
            have h1 := r17.lt q hq
            obtain ⟨⟨xs', r1', _⟩, _⟩ := HR5.out
            exact ⟨h1.1, (r1'.lt q hq).2⟩
          have hmb : w8.heap[w.heap.size]? = W5.heap[w.heap.size]? := by
            have hlt := H5.out.1.lt
            refine (hg8.block _ (Nat.lt_of_lt_of_le hlt hb57.size) fun e => ?_).trans (hb57.block _ hlt)
            have := hown _ e.symm
            omega
          have hrow7 : RowF (w.heap.size + 1) u4.ownBlock W7 xs (outL (ts.take j)) := r2.step (fun q _ hq _ => hb57.block q hq) hb57.size (.inl rfl)
          have hnew7 : RowF (w.heap.size + 1) u4.ownBlock W7 [.int .i64 ck, .bool cb, .int .i64 cn, .string cx, .slice ca cm cc, .slice cl co cd] [.mk k b nn s ks us] :=
            .cons (hlf.keep (keeps_belowF hb67 (Nat.le_refl _))) hA5 hb67.size (fun q hq => .inl (hown q hq).2) .nil
          refine ⟨⟨_, by rw [e, List.length_append]; exact ho8, ?_⟩, ?_, H5.out.2.trans ?_⟩
          · rw [e]
            refine (hrow7.append hnew7).step (fun q _ hq hne => hg8.block q hq hne) hg8.size ?_
            rcases hp8 with h | h
            · exact .inl h
            · exact .inr ⟨_, h, Nat.le_refl _⟩
          · rw [e, List.map_append]
            show SeenAt _ _ (_ ++ [txt (.mk k b nn s ks us)])
            rw [HSS.out.1]
            exact H5.out.1.block hmb
          · refine (hb57.mono ?_).trans ((Below.refl _ W7).grown hg8 (by omega) fun q hq => by have := hown q hq; omega)
            have := H5.out.2.size
            omega
        clear ho8 hg8 hp8 r17 hc7 hone h57 hA5
        go_roundw
        case rel => exact ⟨j + 1, by omega, by go_num, HNEW.out⟩
        case measure => simp [intOf]; omega
    · have hjs : ts.take j = ts := List.take_of_length_le (by omega)
      have HE : Hid (∃ xs, wr.ownsRow (w.heap.size + 1) 26 6 u4 (outL ts).length xs ∧ RowF (w.heap.size + 1) u4.ownBlock wr xs (outL ts)) := by
        have := hgo.row
        rw [hjs] at this
        exact this
      have HBL := hidE hgo.below
      clear hgo hjs
      go_wp2_with fail
      go_ret
      obtain ⟨xs, r1, r2⟩ := HE.out
      exact ⟨_, xs, rfl, r1, r2, HBL.out⟩
end Go.Proofs.YtbpmhgcjefpigaaGreatDoor

namespace Go.Proofs.YtbpmhgcjefpigaaGreatDoor
open Go.Lib
set_option linter.unusedVariables false
set_option linter.unusedSimpArgs false

/-! Runs -/
theorem run_inj {p : UInt8 → Prop} : ∀ {l l' r r' : List UInt8}, (∀ c ∈ l, p c) → (∀ c ∈ l', p c) → (∀ c ∈ r.head?, ¬ p c) → (∀ c ∈ r'.head?, ¬ p c) → l ++ r = l' ++ r' → l = l' ∧ r = r'
  | [], [], r, r', _, _, _, _, h => ⟨rfl, h⟩
  | [], c :: l', r, r', _, h2, h3, _, h => by
    rw [List.nil_append, List.cons_append] at h
    rw [h] at h3
    exact absurd (h2 c (by simp)) (h3 c (by simp))
  | c :: l, [], r, r', h1, _, _, h4, h => by
    rw [List.nil_append, List.cons_append] at h
    rw [← h] at h4
    exact absurd (h1 c (by simp)) (h4 c (by simp))
  | c :: l, d :: l', r, r', h1, h2, h3, h4, h => by
    rw [List.cons_append, List.cons_append, List.cons.injEq] at h
    obtain ⟨e1, e2⟩ := run_inj (fun x hx => h1 x (by simp [hx])) (fun x hx => h2 x (by simp [hx])) h3 h4 h.2
    exact ⟨by rw [h.1, e1], e2⟩

/-! Numbers -/
def valD (l : List UInt8) : Nat := l.foldl (fun a c => 10 * a + (c.toNat - 48)) 0
theorem valD_snoc (l : List UInt8) (c : UInt8) : valD (l ++ [c]) = 10 * valD l + (c.toNat - 48) := by simp [valD]
theorem dig_nat {i : Nat} (h : i < 10) : (UInt8.ofNat (48 + i)).toNat = 48 + i := by
  rw [UInt8.toNat_ofNat']; omega
theorem valD_digits (u : Nat) : valD (decDigits u) = u := by
  induction u using Nat.strongRecOn with
  | _ u ih =>
    rw [decDigits]
    by_cases h : u < 10
    · rw [dif_pos h]
      show 10 * 0 + ((UInt8.ofNat (48 + u)).toNat - 48) = u
      rw [dig_nat h]; omega
    · rw [dif_neg h, valD_snoc, ih _ (by omega), dig_nat (by omega)]; omega
def isDig (c : UInt8) : Prop := 48 ≤ c.toNat ∧ c.toNat ≤ 57
theorem digits_dig (u : Nat) : ∀ c ∈ decDigits u, isDig c := by
  induction u using Nat.strongRecOn with
  | _ u ih =>
    intro c hc
    rw [decDigits] at hc
    by_cases h : u < 10
    · rw [dif_pos h] at hc
      simp only [List.mem_cons, List.not_mem_nil, or_false] at hc
      subst hc
      unfold isDig; rw [dig_nat h]; omega
    · rw [dif_neg h] at hc
      rcases List.mem_append.1 hc with hc | hc
      · exact ih _ (by omega) c hc
      · simp only [List.mem_cons, List.not_mem_nil, or_false] at hc
        subst hc
        unfold isDig; rw [dig_nat (by omega)]; omega
theorem digits_inj {u v : Nat} {r r' : List UInt8} (h1 : ∀ c ∈ r.head?, ¬ isDig c) (h2 : ∀ c ∈ r'.head?, ¬ isDig c) (h : decDigits u ++ r = decDigits v ++ r') : u = v ∧ r = r' := by
  obtain ⟨e1, e2⟩ := run_inj (digits_dig u) (digits_dig v) h1 h2 h
  have := valD_digits u
  rw [e1, valD_digits v] at this
  exact ⟨this.symm, e2⟩
theorem digits_head (u : Nat) : ∃ c l, decDigits u = c :: l ∧ isDig c := by
  have h := digits_pos u
  cases e : decDigits u with
  | nil => rw [e] at h; simp at h
  | cons c l => exact ⟨c, l, rfl, digits_dig u c (by rw [e]; simp)⟩
theorem itoa_inj {n m : Int} {r r' : List UInt8} (h1 : ∀ c ∈ r.head?, ¬ isDig c) (h2 : ∀ c ∈ r'.head?, ¬ isDig c) (h : itoa n ++ r = itoa m ++ r') : n = m ∧ r = r' := by
  unfold itoa at h
  by_cases hn : n < 0
  · by_cases hm : m < 0
    · rw [if_pos hn, if_pos hm, List.cons_append, List.cons_append, List.cons.injEq] at h
      obtain ⟨e1, e2⟩ := digits_inj h1 h2 h.2
      exact ⟨by omega, e2⟩
    · rw [if_pos hn, if_neg hm] at h
      obtain ⟨c, l, e, hc⟩ := digits_head m.toNat
      rw [e, List.cons_append, List.cons_append, List.cons.injEq] at h
      rw [← h.1] at hc
      exact absurd hc (by unfold isDig; decide)
  · by_cases hm : m < 0
    · rw [if_neg hn, if_pos hm] at h
      obtain ⟨c, l, e, hc⟩ := digits_head n.toNat
      rw [e, List.cons_append, List.cons_append, List.cons.injEq] at h
      rw [h.1] at hc
      exact absurd hc (by unfold isDig; decide)
    · rw [if_neg hn, if_neg hm] at h
      obtain ⟨e1, e2⟩ := digits_inj h1 h2 h
      exact ⟨by omega, e2⟩

/-! Texts -/
def hexV (c : UInt8) : Nat := if c.toNat < 58 then c.toNat - 48 else c.toNat - 87
/-- What a byte was, read back. -/
def decB : List UInt8 → UInt8 × List UInt8
  | [] => (0, [])
  | c :: X => if c = 92 then (match X with
      | [] => (0, [])
      | d :: Y => if d = 110 then (10, Y) else if d = 116 then (9, Y) else if d = 114 then (13, Y) else if d = 117 then (UInt8.ofNat (16 * hexV (Y.getD 2 0) + hexV (Y.getD 3 0)), Y.drop 4) else (d, Y)) else (c, X)
theorem hex_back : ∀ n : Nat, n < 128 → UInt8.ofNat (16 * hexV (hexB (n / 16)) + hexV (hexB (n % 16))) = UInt8.ofNat n := by decide
theorem dec_esc (c : UInt8) (X : List UInt8) : decB (escB c ++ X) = (c, X) := by
  unfold escB
  split
  · rename_i h
    rcases h with rfl | rfl <;> rfl
  · split
    · rename_i h; subst h; rfl
    · split
      · rename_i h; subst h; rfl
      · split
        · rename_i h; subst h; rfl
        · split
          · rename_i h
            have hc : c.toNat < 128 := by
              rcases h with h | h
              · have := UInt8.lt_iff_toNat_lt.1 h
                have e : (32 : UInt8).toNat = 32 := rfl
                omega
              · rw [h]; decide
            have := hex_back c.toNat hc
            have e : UInt8.ofNat c.toNat = c := by simp
            rw [e] at this
            show (UInt8.ofNat (16 * hexV (hexB (c.toNat / 16)) + hexV (hexB (c.toNat % 16))), X) = (c, X)
            rw [this]
          · rename_i h _ _ _ _
            have h92 : c ≠ 92 := fun e => h (.inr e)
            show (if c = 92 then _ else (c, X)) = (c, X)
            rw [if_neg h92]
theorem esc_inj {c d : UInt8} {X Y : List UInt8} (h : escB c ++ X = escB d ++ Y) : c = d ∧ X = Y := by
  have h1 := dec_esc c X
  rw [h, dec_esc d Y] at h1
  simp only [Prod.mk.injEq] at h1
  exact ⟨h1.1.symm, h1.2.symm⟩
theorem esc_head (c : UInt8) (X : List UInt8) : ∃ d Y, escB c ++ X = d :: Y ∧ d ≠ 39 := by
  unfold escB
  split
  · exact ⟨_, _, rfl, by decide⟩
  · rename_i h
    split
    · exact ⟨_, _, rfl, by decide⟩
    · split
      · exact ⟨_, _, rfl, by decide⟩
      · split
        · exact ⟨_, _, rfl, by decide⟩
        · split
          · exact ⟨_, _, rfl, by decide⟩
          · exact ⟨_, _, rfl, fun e => h (.inl e)⟩
theorem escAll_cons (c : UInt8) (l : List UInt8) : escAll (c :: l) = escB c ++ escAll l := by simp [escAll]
theorem escAll_inj : ∀ {l l' r r' : List UInt8}, escAll l ++ 39 :: r = escAll l' ++ 39 :: r' → l = l' ∧ r = r'
  | [], [], r, r', h => by
    simp only [escAll, List.map_nil, List.flatten_nil, List.nil_append, List.cons.injEq, true_and] at h
    exact ⟨rfl, h⟩
  | [], c :: l', r, r', h => by
    rw [escAll_cons, List.append_assoc] at h
    obtain ⟨d, Y, e, hd⟩ := esc_head c (escAll l' ++ 39 :: r')
    rw [e] at h
    simp only [escAll, List.map_nil, List.flatten_nil, List.nil_append, List.cons.injEq] at h
    exact absurd h.1.symm hd
  | c :: l, [], r, r', h => by
    rw [escAll_cons, List.append_assoc] at h
    obtain ⟨d, Y, e, hd⟩ := esc_head c (escAll l ++ 39 :: r)
    rw [e] at h
    simp only [escAll, List.map_nil, List.flatten_nil, List.nil_append, List.cons.injEq] at h
    exact absurd h.1 hd
  | c :: l, d :: l', r, r', h => by
    rw [escAll_cons, escAll_cons, List.append_assoc, List.append_assoc] at h
    obtain ⟨e1, e2⟩ := esc_inj h
    obtain ⟨e3, e4⟩ := escAll_inj e2
    exact ⟨by rw [e1, e3], e4⟩
theorem bytes_inj {s s' : ByteArray} (h : s.data.toList = s'.data.toList) : s = s' := by
  apply ByteArray.ext
  exact Array.toList_inj.1 h
theorem quote_inj {s s' : ByteArray} {r r' : List UInt8} (h : quoteB s ++ r = quoteB s' ++ r') : s = s' ∧ r = r' := by
  unfold quoteB at h
  simp only [List.append_assoc, List.cons_append, List.nil_append, List.cons.injEq, true_and] at h
  obtain ⟨e1, e2⟩ := escAll_inj h
  exact ⟨bytes_inj e1, e2⟩

/-! Keys -/
theorem dbl_inj : ∀ {l l' r r' : List UInt8}, dblB l ++ 96 :: 58 :: r = dblB l' ++ 96 :: 58 :: r' → l = l' ∧ r = r'
  | [], [], r, r', h => by
    simp only [dblB, List.map_nil, List.flatten_nil, List.nil_append, List.cons.injEq, true_and] at h
    exact ⟨rfl, h⟩
  | [], c :: l', r, r', h => by
    rw [dblB_cons] at h
    by_cases hc : c = 96
    · rw [if_pos hc] at h
      simp [dblB] at h
    · rw [if_neg hc] at h
      simp [dblB] at h
      exact absurd h.1.symm hc
  | c :: l, [], r, r', h => by
    rw [dblB_cons] at h
    by_cases hc : c = 96
    · rw [if_pos hc] at h
      simp [dblB] at h
    · rw [if_neg hc] at h
      simp [dblB] at h
      exact absurd h.1 hc
  | c :: l, d :: l', r, r', h => by
    rw [dblB_cons, dblB_cons] at h
    by_cases hc : c = 96
    · by_cases hd : d = 96
      · rw [if_pos hc, if_pos hd] at h
        simp only [List.cons_append, List.nil_append, List.cons.injEq, true_and] at h
        obtain ⟨e3, e4⟩ := dbl_inj h
        exact ⟨by rw [hc, hd, e3], e4⟩
      · rw [if_pos hc, if_neg hd] at h
        simp only [List.cons_append, List.nil_append, List.cons.injEq] at h
        exact absurd h.1.symm hd
    · by_cases hd : d = 96
      · rw [if_neg hc, if_pos hd] at h
        simp only [List.cons_append, List.nil_append, List.cons.injEq] at h
        exact absurd h.1 hc
      · rw [if_neg hc, if_neg hd] at h
        simp only [List.cons_append, List.nil_append, List.cons.injEq] at h
        obtain ⟨e3, e4⟩ := dbl_inj h.2
        exact ⟨by rw [h.1, e3], e4⟩
theorem bare_bytes {s : ByteArray} (h : bareB s = true) : s.data.toList ≠ [] ∧ ∀ c ∈ s.data.toList, c ≠ 58 ∧ c ≠ 96 := by
  unfold bareB at h
  rw [Bool.and_eq_true] at h
  refine ⟨fun e => ?_, fun c hc => ?_⟩
  · have h2 := of_decide_eq_true h.2
    have : s.size = s.data.toList.length := rfl
    rw [this, e] at h2
    simp at h2
  · obtain ⟨i, hi, rfl⟩ := List.mem_iff_getElem.1 hc
    have h1 := List.all_eq_true.1 h.1 i (List.mem_range.2 hi)
    have hb : s.get! i = s.data.toList[i] := by
      have : i < s.size := hi
      simp [ByteArray.get!, this]
    unfold bareAt letterB at h1
    rw [hb] at h1
    refine ⟨fun e => ?_, fun e => ?_⟩
    · rw [e] at h1; simp at h1
    · rw [e] at h1; simp at h1
theorem name_inj {s s' : ByteArray} {r r' : List UInt8} (h : (nameG s).data.toList ++ 58 :: r = (nameG s').data.toList ++ 58 :: r') : s = s' ∧ r = r' := by
  unfold nameG at h
  have qd : ∀ x : ByteArray, (⟨#[96]⟩ ++ ⟨(dblB x.data.toList).toArray⟩ ++ ⟨#[96]⟩ : ByteArray).data.toList = 96 :: dblB x.data.toList ++ [96] := fun x => by simp
  by_cases h1 : bareB s = true
  · by_cases h2 : bareB s' = true
    · rw [if_pos h1, if_pos h2] at h
      obtain ⟨e1, e2⟩ := run_inj (p := fun c => c ≠ 58) (fun c hc => ((bare_bytes h1).2 c hc).1) (fun c hc => ((bare_bytes h2).2 c hc).1) (by simp) (by simp) h
      simp only [List.cons.injEq, true_and] at e2
      exact ⟨bytes_inj e1, e2⟩
    · rw [if_pos h1, if_neg h2, qd] at h
      obtain ⟨g1, g2⟩ := bare_bytes h1
      cases e : s.data.toList with
      | nil => exact absurd e g1
      | cons c l =>
        rw [e] at h g2
        simp only [List.cons_append, List.cons.injEq] at h
        exact absurd h.1 (g2 c (by simp)).2
  · by_cases h2 : bareB s' = true
    · rw [if_neg h1, if_pos h2, qd] at h
      obtain ⟨g1, g2⟩ := bare_bytes h2
      cases e : s'.data.toList with
      | nil => exact absurd e g1
      | cons c l =>
        rw [e] at h g2
        simp only [List.cons_append, List.cons.injEq] at h
        exact absurd h.1.symm (g2 c (by simp)).2
    · rw [if_neg h1, if_neg h2, qd, qd] at h
      simp only [List.cons_append, List.append_assoc, List.nil_append, List.cons.injEq, true_and] at h
      obtain ⟨e1, e2⟩ := dbl_inj h
      exact ⟨bytes_inj e1, e2⟩
end Go.Proofs.YtbpmhgcjefpigaaGreatDoor

