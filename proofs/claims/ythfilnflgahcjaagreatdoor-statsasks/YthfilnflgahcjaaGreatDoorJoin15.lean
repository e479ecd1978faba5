/- What is reckoned from counts: one type, one key. A graph's types, counted. A graph's labels, counted. Maps by numbers: what they hold, and what is done to them. -/
import Derived.Test.YthfilnflgahcjaaGreatDoorJoin10
import Derived.Test.YthfilnflgahcjaaGreatDoorJoin14
import Derived.Test.YthfilnflgahcjaaGreatDoorJoin11
import Derived.Deep.RegionWith
import Derived.Test.YthfilnflgahcjaaGreatDoorJoin4
import Derived.Maps.Keyed
import Derived.MapKept
namespace Go.Proofs.YthfilnflgahcjaaGreatDoor
open Go.RowKit Go.Shelf Go.Maps
set_option linter.unusedVariables false
set_option linter.unusedSimpArgs false
attribute [local go_sem] Oper.semAt_some
structure SBox (b : Nat) (v0 v1 v2 v3 v4 v5 : Value) (w : World) : Prop where
  lt : b < w.heap.size
  c0 : w.cell? ⟨b, 0, none⟩ = some v0
  c1 : w.cell? ⟨b, 1, none⟩ = some v1
  c2 : w.cell? ⟨b, 2, none⟩ = some v2
  c3 : w.cell? ⟨b, 3, none⟩ = some v3
  c4 : w.cell? ⟨b, 4, none⟩ = some v4
  c5 : w.cell? ⟨b, 5, none⟩ = some v5
theorem SBox.keep {b : Nat} {v0 v1 v2 v3 v4 v5 : Value} {w w' : World} (h : SBox b v0 v1 v2 v3 v4 v5 w) (hb : Below w.heap.size w w') : SBox b v0 v1 v2 v3 v4 v5 w' :=
  ⟨Nat.lt_of_lt_of_le h.lt hb.size, (hb.cell (p := ⟨b, 0, none⟩) h.lt).trans h.c0, (hb.cell (p := ⟨b, 1, none⟩) h.lt).trans h.c1, (hb.cell (p := ⟨b, 2, none⟩) h.lt).trans h.c2, (hb.cell (p := ⟨b, 3, none⟩) h.lt).trans h.c3, (hb.cell (p := ⟨b, 4, none⟩) h.lt).trans h.c4, (hb.cell (p := ⟨b, 5, none⟩) h.lt).trans h.c5⟩
theorem sbox_new (w : World) (v0 v1 v2 v3 v4 v5 : Value) (ty : Nat) : SBox w.heap.size v0 v1 v2 v3 v4 v5 (w.alloc (.cells #[v0, v1, v2, v3, v4, v5] ty)) :=
  ⟨by simp, cell_new _ _ _ _ _ rfl, cell_new _ _ _ _ _ rfl, cell_new _ _ _ _ _ rfl, cell_new _ _ _ _ _ rfl, cell_new _ _ _ _ _ rfl, cell_new _ _ _ _ _ rfl⟩
theorem StatL.up {B : Nat} {w w' : World} {vl vt ve vk : Value} {s : StatP} (h : StatL B w vl vt ve vk s) (hb : Below B w w') (hB : B ≤ w'.heap.size) : StatL w'.heap.size w' vl vt ve vk s := ⟨(h.hl.keep hb).mono hB, (h.ht.keep hb).mono hB, (h.he.keep hb).mono hB, (h.hk.keep hb).mono hB, h.ol, h.ot, h.oe, h.ok, h.nl, h.nt, h.ne, h.nk⟩
theorem below_new (w : World) (o : Obj) : Below w.heap.size w (w.alloc o) := (Below.refl _ _).alloc (Nat.le_refl _) _
theorem Below.on {w a b : World} (h : Below w.heap.size w a) (k : Below a.heap.size a b) : Below w.heap.size w b := h.trans (k.mono h.size)
set_option maxRecDepth 100000 in
set_option maxHeartbeats 4000000 in
theorem ended_any (s : StatP) (vl vt ve vk : Value) (kind lab : ByteArray) (out : Bool) (B : Nat) (w : World) (hB : B ≤ w.heap.size) (h : StatL B w vl vt ve vk s) (hkind : okS kind) (hlab : okS lab) : Calls Tryz.prog 22 #[statV s vl vt ve vk, .string kind, .string lab, .bool out] w fun e w' => e = .returned (.int .i64 (endedI s lab out [kind])) ∧ Below w.heap.size w w' := by
  have HE : Hid (∀ W, Below w.heap.size w W → Calls Tryz.prog 61 #[statV s vl vt ve vk, .string lab, .bool out, .slice (some ⟨W.heap.size, 0, none⟩) 1 1] (W.alloc (.cells #[.string kind] 9)) fun e w' => e = .returned (.int .i64 (endedI s lab out [kind])) ∧ Below (W.alloc (.cells #[.string kind] 9)).heap.size (W.alloc (.cells #[.string kind] 9)) w') := fun W hb => endedAll_any s vl vt ve vk _ lab out [kind] _ _ (Nat.le_refl _) ((h.up (hb.mono hB) (Nat.le_trans hB hb.size)).up (below_new _ _) (below_new W _).size) (srow_new (k := 1) (enc := strE) (fun _ => rfl) W [kind] #[.string kind] 9 rfl (show 1 ≤ 9223372036854775807 by decide)) hlab (fun x hx => by simp only [List.mem_cons, List.not_mem_nil, or_false] at hx; rw [hx]; exact hkind) (show 1 ≤ 100000 by decide)
  obtain ⟨E, hE⟩ : ∃ E, endedI s lab out [kind] = E := ⟨_, rfl⟩
  rw [hE] at HE ⊢
  clear hE
  obtain ⟨la, lc, rfl, _⟩ := h.hl
  obtain ⟨ta, tc, rfl, _⟩ := h.ht
  obtain ⟨ea, ec, rfl, _⟩ := h.he
  obtain ⟨ka, kc, rfl, _⟩ := h.hk
  unfold statV at *
  generalize s.nodes = n at *
  generalize s.rels = r at *
  generalize s.labels.length = l1 at *
  generalize s.types.length = l2 at *
  generalize s.ends.length = l3 at *
  generalize s.keys.length = l4 at *
  clear h
  go_enter Tryz.func22, Tryz.ntmps22
  go_upto_region 1 with fail
  have HW0 := hidE (below_new w (.cells #[.int .i64 n, .int .i64 r, .slice la l1 lc, .slice ta l2 tc, .slice ea l3 ec, .slice ka l4 kc] 33))
  have HX0 := hidE (sbox_new w (.int .i64 n) (.int .i64 r) (.slice la l1 lc) (.slice ta l2 tc) (.slice ea l3 ec) (.slice ka l4 kc) 33)
  obtain ⟨W1, hW1⟩ : ∃ W, w.alloc (.cells #[.int .i64 n, .int .i64 r, .slice la l1 lc, .slice ta l2 tc, .slice ea l3 ec, .slice ka l4 kc] 33) = W := ⟨_, rfl⟩
  rw [hW1] at HW0 HX0 ⊢
  clear hW1
  obtain ⟨_, e0, e1, e2, e3, e4, e5⟩ := HX0.out
  go_wp2_with (go_at_call 61; refine (HE.out _ HW0.out).mono ?_; rintro e W2 ⟨rfl, hb2⟩; have HB2 := hidE (Below.on (Below.on HW0.out (below_new _ _)) hb2); clear hb2)
  go_ret
  exact ⟨rfl, HB2.out⟩
theorem firsts_one {R K : Type} [DecidableEq K] (key : R → K) (zero : R) (rows : List R) (k : K) : ∃ r, firstsL key zero rows [k] = [r] := by
  have h1 := goFirst_len (key := key) rows ([k].foldl putS [])
  have h2 : ([k].foldl putS [] : List K).length = 1 := by simp [putS]
  have h3 : (firstsL key zero rows [k]).length = 1 := by
    unfold firstsL
    simp only [List.length_append, List.length_replicate]
    omega
  match hl : firstsL key zero rows [k], h3 with
  | [r], _ => exact ⟨r, rfl⟩
def seekI (s : StatP) (lab key : ByteArray) : Int := match firstsL keyK (⟨#[]⟩, ⟨#[]⟩, 0, 0) s.keys [(lab, key, 0, 0)] with | r :: _ => shareI r.2.2.1 r.2.2.2 | [] => 0
set_option maxRecDepth 100000 in
set_option maxHeartbeats 4000000 in
theorem seek_any (s : StatP) (vl vt ve vk : Value) (lab key : ByteArray) (B : Nat) (w : World) (hB : B ≤ w.heap.size) (h : StatL B w vl vt ve vk s) (hlab : okS lab) (hkey : okS key) : Calls Tryz.prog 24 #[statV s vl vt ve vk, .string lab, .string key] w fun e w' => e = .returned (.int .i64 (seekI s lab key)) ∧ Below w.heap.size w w' := by
  obtain ⟨⟨ra, rb, p, q⟩, hr⟩ := firsts_one keyK (⟨#[]⟩, ⟨#[]⟩, 0, 0) s.keys (lab, key, 0, 0)
  have HSK : seekI s lab key = shareI p q := by unfold seekI; rw [hr]
  rw [HSK]
  have HF : Hid (∀ W, Below w.heap.size w W → Calls Tryz.prog 63 #[vk, .func (.func 62) #[] #[], .slice (some ⟨W.heap.size, 0, none⟩) 1 1] (W.alloc (.cells #[.string lab, .string key, .int .i64 0, .int .i64 0] 66)) fun e w' => ∃ v, e = .returned v ∧ ORow 66 4 keyC (W.alloc (.cells #[.string lab, .string key, .int .i64 0, .int .i64 0] 66)).heap.size w' v [(ra, rb, p, q)] ∧ Below (W.alloc (.cells #[.string lab, .string key, .int .i64 0, .int .i64 0] 66)).heap.size (W.alloc (.cells #[.string lab, .string key, .int .i64 0, .int .i64 0] 66)) w') := by
    intro W hb
    have hst := (h.up (hb.mono hB) (Nat.le_trans hB hb.size)).up (below_new W (.cells #[.string lab, .string key, .int .i64 0, .int .i64 0] 66)) (below_new W _).size
    have := f63_any s.keys [(lab, key, 0, 0)] vk _ _ _ (Nat.le_refl _) hst.hk (srow_new (k := 4) (enc := keyC) (fun _ => rfl) W [(lab, key, 0, 0)] #[.string lab, .string key, .int .i64 0, .int .i64 0] 66 rfl (show 1 ≤ 9223372036854775807 by decide)) hst.ok (fun x hx => by simp only [List.mem_cons, List.not_mem_nil, or_false] at hx; rw [hx]; exact ⟨hlab, hkey, w64_zero, w64_zero⟩) hst.nk (show 1 ≤ 100000 by decide)
    rw [hr] at this
    exact this
  have HSH := hidE (fun W => share_any p q W)
  clear HSK hr
  obtain ⟨la, lc, rfl, _⟩ := h.hl
  obtain ⟨ta, tc, rfl, _⟩ := h.ht
  obtain ⟨ea, ec, rfl, _⟩ := h.he
  obtain ⟨ka, kc, rfl, _⟩ := h.hk
  unfold statV at *
  generalize s.nodes = n at *
  generalize s.rels = r at *
  generalize s.labels.length = l1 at *
  generalize s.types.length = l2 at *
  generalize s.ends.length = l3 at *
  generalize s.keys.length = l4 at *
  clear h
  go_enter Tryz.func24, Tryz.ntmps24
  go_upto_region 1 with fail
  have HW0 := hidE (below_new w (.cells #[.int .i64 n, .int .i64 r, .slice la l1 lc, .slice ta l2 tc, .slice ea l3 ec, .slice ka l4 kc] 33))
  have HX0 := hidE (sbox_new w (.int .i64 n) (.int .i64 r) (.slice la l1 lc) (.slice ta l2 tc) (.slice ea l3 ec) (.slice ka l4 kc) 33)
  obtain ⟨W1, hW1⟩ : ∃ W, w.alloc (.cells #[.int .i64 n, .int .i64 r, .slice la l1 lc, .slice ta l2 tc, .slice ea l3 ec, .slice ka l4 kc] 33) = W := ⟨_, rfl⟩
  rw [hW1] at HW0 HX0 ⊢
  clear hW1
  obtain ⟨_, e0, e1, e2, e3, e4, e5⟩ := HX0.out
  have e5' := (Below.cell (below_new W1 (.cells #[.string lab, .string key, .int .i64 0, .int .i64 0] 66)) (p := ⟨w.heap.size, 5, none⟩) HX0.out.lt).trans e5
  go_upto_region 3 with (go_at_call 63; refine (HF.out _ HW0.out).mono ?_; rintro e W2 ⟨v, rfl, ho, hb2⟩; have HB2 := hidE (Below.on (Below.on HW0.out (below_new _ _)) hb2); obtain ⟨xa, xc, hv, x1, x2, x3⟩ := ORow.srow (enc := keyC) (k := 4) (fun _ => rfl) ho; subst hv; obtain ⟨bl, off, rfl, hbl, hc⟩ := x3.resolve_left (by simp); have d0 := hc 0 _ rfl 0 _ rfl; have d1 := hc 0 _ rfl 1 _ rfl; have d2 := hc 0 _ rfl 2 _ rfl; have d3 := hc 0 _ rfl 3 _ rfl; simp only [Nat.zero_mul, Nat.add_zero, List.length_cons, List.length_nil, Nat.zero_add] at d0 d1 d2 d3 x1 ⊢; clear hb2 ho hc)
  have f2 : (W2.alloc (.cells #[.string ra, .string rb, .int .i64 p, .int .i64 q] 66)).cell? ⟨W2.heap.size, 2, none⟩ = some (.int .i64 p) := cell_new _ _ _ _ _ rfl
  have f3 : (W2.alloc (.cells #[.string ra, .string rb, .int .i64 p, .int .i64 q] 66)).cell? ⟨W2.heap.size, 3, none⟩ = some (.int .i64 q) := cell_new _ _ _ _ _ rfl
  have HB3 := hidE (Below.on HB2.out (below_new W2 (.cells #[.string ra, .string rb, .int .i64 p, .int .i64 q] 66)))
  obtain ⟨W3, hW3⟩ : ∃ W, W2.alloc (.cells #[.string ra, .string rb, .int .i64 p, .int .i64 q] 66) = W := ⟨_, rfl⟩
  rw [hW3] at f2 f3 HB3 ⊢
  clear hW3
  go_wp2_with (go_at_call 32; refine (HSH.out _).mono ?_; rintro e _ ⟨rfl, rfl⟩)
  go_ret
  exact ⟨rfl, HB3.out⟩
end Go.Proofs.YthfilnflgahcjaaGreatDoor

namespace Go.Proofs.YthfilnflgahcjaaGreatDoor
open Go.RowKit Go.Shelf Go.Maps
set_option linter.unusedVariables false
set_option linter.unusedSimpArgs false
attribute [local go_sem] Oper.semAt_some
theorem map139 : Tryz.prog.underlying 139 = some (.map 62 2) := by kernel_rfl
theorem map134 : Tryz.prog.underlying 134 = some (.map 42 2) := by kernel_rfl
/-- Texts counted. -/
def tally (ts : List ByteArray) : List ((ByteArray × Int) × Int) := ts.foldl (fun cs t => bump (t, 0) 1 cs) []
theorem tally_snoc (ts : List ByteArray) (t : ByteArray) : tally (ts ++ [t]) = bump (t, 0) 1 (tally ts) := by simp [tally]
theorem tally_nodup (ts : List ByteArray) : ((tally ts).map Prod.fst).Nodup := by
  unfold tally
  suffices h : ∀ (ts : List ByteArray) (cs : List ((ByteArray × Int) × Int)), (cs.map Prod.fst).Nodup → ((ts.foldl (fun cs t => bump (t, 0) 1 cs) cs).map Prod.fst).Nodup from h ts [] List.nodup_nil
  intro ts
  induction ts with
  | nil => intro cs h; exact h
  | cons t r ih => intro cs h; exact ih _ (bump_nodup _ _ _ h)
theorem tally_count (ts : List ByteArray) (x : ByteArray × Int) : 0 ≤ countOf x (tally ts) ∧ countOf x (tally ts) ≤ ts.length := by
  unfold tally
  suffices h : ∀ (ts : List ByteArray) (cs : List ((ByteArray × Int) × Int)) (n : Nat), (0 ≤ countOf x cs ∧ countOf x cs ≤ n) → 0 ≤ countOf x (ts.foldl (fun cs t => bump (t, 0) 1 cs) cs) ∧ countOf x (ts.foldl (fun cs t => bump (t, 0) 1 cs) cs) ≤ (n + ts.length : Nat) by
    have := h ts [] 0 (by simp [countOf])
    simpa using this
  intro ts
  induction ts with
  | nil => intro cs n h; simpa using h
  | cons t r ih =>
    intro cs n h
    have := ih (bump (t, 0) 1 cs) (n + 1) (by rw [count_bump]; split <;> omega)
    simp only [List.foldl_cons, List.length_cons] at *
    omega
theorem tally_len (ts : List ByteArray) : (tally ts).length ≤ ts.length := by
  unfold tally
  suffices h : ∀ (ts : List ByteArray) (cs : List ((ByteArray × Int) × Int)), (ts.foldl (fun cs t => bump (t, 0) 1 cs) cs).length ≤ cs.length + ts.length by
    have := h ts []
    simpa using this
  intro ts
  induction ts with
  | nil => intro cs; simp
  | cons t r ih =>
    intro cs
    have h1 := ih (bump (t, 0) 1 cs)
    have h2 : (bump (t, 0) 1 cs).length ≤ cs.length + 1 := by
      clear h1 ih
      induction cs with
      | nil => simp [bump]
      | cons p q ih => rw [bump]; split <;> simp <;> omega
    simp only [List.foldl_cons, List.length_cons] at *
    omega
set_option maxRecDepth 100000 in
set_option maxHeartbeats 8000000 in
theorem types_cnt {le : ByteArray × Int → ByteArray × Int → Prop} {most : Nat} (hsort : Sorts88 le most) (hmost : most ≤ 100000) (g : GraphP) (v : Value) (B : Nat) (w : World) (hB : B ≤ w.heap.size) (h : GraphLies B w v g) (hl : g.rels.length ≤ 100000) (hm : (tally (g.rels.map fun r => r.type)).length ≤ most) :
    Calls Tryz.prog 44 #[v] w fun e w' => ∃ v L, e = .returned v ∧ L.Perm ((tally (g.rels.map fun r => r.type)).map (fun p : (ByteArray × Int) × Int => (p.1.1, p.2))) ∧ L.Pairwise le ∧ ORow 62 2 labC w.heap.size w' v L ∧ Below w.heap.size w w' := by
  obtain ⟨na, nc, ra, rc, rfl, hn, hr⟩ := h
  obtain ⟨ra', rc', e0, r1, r2, r3⟩ := hr
  obtain ⟨rfl, rfl⟩ : ra = ra' ∧ rc = rc' := by injection e0 with a b c; exact ⟨a, c⟩
  have HR3 := hidE r3
  have HMO := hidE hm
  obtain ⟨m, hm'⟩ : ∃ m, g.rels.length = m := ⟨_, rfl⟩
  have HM := hidE hm'
  rw [hm'] at r1 hl ⊢
  generalize g.nodes.length = l1 at *
  generalize g.nn = nn at *
  generalize g.nr = nr at *
  clear e0 r3 hn hm hm'
  have hmk : ∀ W : World, (Instr.makeMap 139 none).run Tryz.prog W = .ok (.map (some W.heap.size)) (W.alloc (.map #[] 0)) := fun W => rfl
  go_enter Tryz.func44, Tryz.ntmps44
  go_upto_region 2 with fail
  have HM1 : Hid (MC labV okL ((w.alloc (.cells #[.slice na l1 nc, .slice ra m rc, .int .i64 nn, .int .i64 nr] 25)).alloc (.map #[] 0)) (w.alloc (.cells #[.slice na l1 nc, .slice ra m rc, .int .i64 nn, .int .i64 nr] 25)).heap.size []) := mg_none _
  have HB1 : Hid (Below w.heap.size w ((w.alloc (.cells #[.slice na l1 nc, .slice ra m rc, .int .i64 nn, .int .i64 nr] 25)).alloc (.map #[] 0))) := ((Below.refl _ _).alloc (Nat.le_refl _) _).alloc (by simp) _
  have c1 : ((w.alloc (.cells #[.slice na l1 nc, .slice ra m rc, .int .i64 nn, .int .i64 nr] 25)).alloc (.map #[] 0)).cell? ⟨w.heap.size, 1, none⟩ = some (.slice ra m rc) := ((Below.refl _ _).alloc (Nat.le_refl _) _ : Below _ _ (World.alloc _ _)).cell (p := ⟨w.heap.size, 1, none⟩) (show w.heap.size < (w.alloc _).heap.size by simp) |>.trans (cell_new _ _ _ _ _ rfl)
  have hz1 : (w.alloc (.cells #[.slice na l1 nc, .slice ra m rc, .int .i64 nn, .int .i64 nr] 25)).heap.size = w.heap.size + 1 := by simp
  rw [hz1] at HM1
  obtain ⟨W1, hW1⟩ : ∃ W, (w.alloc (.cells #[.slice na l1 nc, .slice ra m rc, .int .i64 nn, .int .i64 nr] 25)).alloc (.map #[] 0) = W := ⟨_, rfl⟩
  rw [hW1] at HM1 HB1 c1 ⊢
  clear hW1 hz1
  go_wp2_with fail
  go_loopw [11] (fun i wr => ∃ j : Nat, j ≤ m ∧ i = .int .i64 j ∧ Below w.heap.size w wr ∧ MC labV okL wr (w.heap.size + 1) (tally ((g.rels.take j).map fun r => r.type))) (fun i _ => m - (intOf i).toNat)
  case atStart => exact ⟨0, Nat.zero_le _, rfl, HB1.out, HM1.out⟩
  case round =>
    obtain ⟨j, hj, rfl, hbr, hmc⟩ := hrel
    have HBR := hidE hbr
    have HMC := hidE hmc
    clear hbr hmc
    by_cases hlt : j < m
    · have hlt' : (j : Int) < m := by omega
      obtain ⟨x, hx⟩ : ∃ q, g.rels[j]? = some q := ⟨_, List.getElem?_eq_getElem (by have := HM.out; omega)⟩
      obtain ⟨bl, off, rfl, hbl, hc⟩ := HR3.out.resolve_left (by intro e; rw [e] at hx; simp at hx)
      obtain ⟨pv, ⟨d0, d1, d2, d3, d4⟩, hts, hps⟩ := (hc j x hx).below (HBR.out.mono hB) hbl
      have HX := hidE hx
      obtain ⟨pa, pc, hpv⟩ : ∃ pa pc, pv = .slice pa x.props.length pc := by obtain ⟨pa, pc, e, _⟩ := hps; exact ⟨pa, pc, e⟩
      subst hpv
      generalize x.props.length = l3 at *
      obtain ⟨s, hs⟩ : ∃ s, x.type = s := ⟨_, rfl⟩
      have HS := hidE hs
      rw [hs] at d3 hts
      generalize x.id = xi at *
      generalize x.fr = xf at *
      generalize x.tt = xt at *
      clear hx hc hps hs
      go_upto_region 5 with fail
      have k3 : (wr.alloc (.cells #[.int .i64 xi, .int .i64 xf, .int .i64 xt, .string s, .slice pa l3 pc] 71)).cell? ⟨wr.heap.size, 3, none⟩ = some (.string s) := cell_new _ _ _ _ _ rfl
      have hbA : Below wr.heap.size wr (wr.alloc (.cells #[.int .i64 xi, .int .i64 xf, .int .i64 xt, .string s, .slice pa l3 pc] 71)) := (Below.refl _ _).alloc (Nat.le_refl _) _
      obtain ⟨W2, hW2⟩ : ∃ W, wr.alloc (.cells #[.int .i64 xi, .int .i64 xf, .int .i64 xt, .string s, .slice pa l3 pc] 71) = W := ⟨_, rfl⟩
      rw [hW2] at k3 hbA ⊢
      have hmc2 : MC labV okL W2.drew (w.heap.size + 1) (tally ((g.rels.take j).map fun r => r.type)) := MG.block HMC.out (hbA.block _ (MG.lt HMC.out))
      obtain ⟨st, w1, w2, q1, q2, q3, q4, q5, q6, q7, q8⟩ := mc_bump typT map139 hmc2 (tally_nodup _) (s, 0) ⟨hts, w64_zero⟩ 1
      obtain ⟨cn, hcn⟩ : ∃ c, countOf ((s, 0) : ByteArray × Int) (tally ((g.rels.take j).map fun r => r.type)) = c := ⟨_, rfl⟩
      have hc1 := tally_count ((g.rels.take j).map fun r => r.type) (s, 0)
      rw [hcn] at q1 q2 q3 q4 hc1
      have hc2 : cn ≤ 100000 := by have h1 := hc1.2; simp only [List.length_map, List.length_take] at h1; omega
      have hc0 := hc1.1
      simp only [labV] at q1 q2 q3 q4
      have HQ := hidE (And.intro q5 (And.intro q6 (And.intro q7 q8)))
      have HA := hidE hbA
      clear hW2 hbA hmc2 q5 q6 q7 q8 hcn hc1 d0 d1 d2 d3 d4
      have hwp : IntKind.i64.wrap (cn + 1) = cn + 1 := by rw [IntKind.wrap_i64]; omega
      have HNEW : Hid (Below w.heap.size w w2 ∧ MC labV okL w2 (w.heap.size + 1) (tally ((g.rels.take (j + 1)).map fun r => r.type))) := by
        obtain ⟨q5, q6, q7, q8⟩ := HQ.out
        refine ⟨((Below.on HBR.out HA.out).drew).trans (q8.mono (Nat.le_succ w.heap.size)), ?_⟩
        rw [List.take_add_one, HX.out, List.map_append]
        show MC labV okL w2 (w.heap.size + 1) (tally (_ ++ [x.type]))
        rw [tally_snoc, HS.out]
        exact q5
      go_region_with fail
      all_goals
        go_wp2_with fail
        go_roundw
        case rel => exact ⟨j + 1, by omega, by go_num, HNEW.out.1, HNEW.out.2⟩
        case measure => simp [intOf]; omega
    · have hlt' : ¬ (j : Int) < m := by omega
      have HL := HMC.out
      rw [List.take_of_length_le (by have := HM.out; omega)] at HL
      have HRW := hidE (rows88_any hsort hmost HL HMO.out)
      clear HL
      go_wp2_with (go_at_call 88; refine HRW.out.mono ?_; rintro e W3 ⟨v3, L, rfl, y1, y2, y3, y4⟩; have HY := hidE (And.intro y1 (And.intro y2 (And.intro y3 y4))); clear y1 y2 y3 y4)
      go_ret
      obtain ⟨y1, y2, y3, y4⟩ := HY.out
      exact ⟨_, L, rfl, y1, y2, y3.base HBR.out.size, Below.on HBR.out y4⟩
end Go.Proofs.YthfilnflgahcjaaGreatDoor

namespace Go.Proofs.YthfilnflgahcjaaGreatDoor
open Go.RowKit Go.Shelf Go.Maps
set_option linter.unusedVariables false
set_option linter.unusedSimpArgs false
attribute [local go_sem] Oper.semAt_some
def labelsOf (ns : List NodeP) : List ByteArray := ns.flatMap fun n => n.labels
theorem labelsOf_at {ns : List NodeP} {j : Nat} {x : NodeP} (h : ns[j]? = some x) : labelsOf (ns.take (j + 1)) = labelsOf (ns.take j) ++ x.labels := by
  unfold labelsOf
  rw [List.take_add_one, h, List.flatMap_append]
  simp
theorem labelsOf_le {ns : List NodeP} {j : Nat} {x : NodeP} (h : ns[j]? = some x) : (labelsOf (ns.take j)).length + x.labels.length ≤ (labelsOf ns).length := by
  have h1 : labelsOf ns = labelsOf (ns.take (j + 1)) ++ labelsOf (ns.drop (j + 1)) := by
    unfold labelsOf
    rw [← List.flatMap_append, List.take_append_drop]
  rw [h1, labelsOf_at h]
  simp only [List.length_append]; omega
set_option maxRecDepth 100000 in
set_option maxHeartbeats 8000000 in
theorem labels_cnt {le : ByteArray × Int → ByteArray × Int → Prop} {most : Nat} (hsort : Sorts84 le most) (hmost : most ≤ 100000) (g : GraphP) (v : Value) (B : Nat) (w : World) (hB : B ≤ w.heap.size) (h : GraphLies B w v g) (hl : g.nodes.length ≤ 100000) (hll : (labelsOf g.nodes).length ≤ 1000000) (hm : (tally (labelsOf g.nodes)).length ≤ most) :
    Calls Tryz.prog 43 #[v] w fun e w' => ∃ v L, e = .returned v ∧ L.Perm ((tally (labelsOf g.nodes)).map (fun p : (ByteArray × Int) × Int => (p.1.1, p.2))) ∧ L.Pairwise le ∧ ORow 42 2 labC w.heap.size w' v L ∧ Below w.heap.size w w' := by
  obtain ⟨na, nc, ra, rc, rfl, hr, hn⟩ := h
  obtain ⟨na', nc', e0, r1, r2, r3⟩ := hr
  obtain ⟨rfl, rfl⟩ : na = na' ∧ nc = nc' := by injection e0 with a b c; exact ⟨a, c⟩
  have HR3 := hidE r3
  have HMO := hidE hm
  have HLL := hidE hll
  obtain ⟨m, hm'⟩ : ∃ m, g.nodes.length = m := ⟨_, rfl⟩
  have HM := hidE hm'
  rw [hm'] at r1 hl ⊢
  generalize g.rels.length = l1 at *
  generalize g.nn = nn at *
  generalize g.nr = nr at *
  clear e0 r3 hn hm hm' hll
  have hmk : ∀ W : World, (Instr.makeMap 134 none).run Tryz.prog W = .ok (.map (some W.heap.size)) (W.alloc (.map #[] 0)) := fun W => rfl
  go_enter Tryz.func43, Tryz.ntmps43
  go_upto_region 2 with fail
  have HM1 : Hid (MC labV okL ((w.alloc (.cells #[.slice na m nc, .slice ra l1 rc, .int .i64 nn, .int .i64 nr] 25)).alloc (.map #[] 0)) (w.alloc (.cells #[.slice na m nc, .slice ra l1 rc, .int .i64 nn, .int .i64 nr] 25)).heap.size []) := mg_none _
  have HB1 : Hid (Below w.heap.size w ((w.alloc (.cells #[.slice na m nc, .slice ra l1 rc, .int .i64 nn, .int .i64 nr] 25)).alloc (.map #[] 0))) := ((Below.refl _ _).alloc (Nat.le_refl _) _).alloc (by simp) _
  have c1 : ((w.alloc (.cells #[.slice na m nc, .slice ra l1 rc, .int .i64 nn, .int .i64 nr] 25)).alloc (.map #[] 0)).cell? ⟨w.heap.size, 0, none⟩ = some (.slice na m nc) := ((Below.refl _ _).alloc (Nat.le_refl _) _ : Below _ _ (World.alloc _ _)).cell (p := ⟨w.heap.size, 0, none⟩) (show w.heap.size < (w.alloc _).heap.size by simp) |>.trans (cell_new _ _ _ _ _ rfl)
  have hz1 : (w.alloc (.cells #[.slice na m nc, .slice ra l1 rc, .int .i64 nn, .int .i64 nr] 25)).heap.size = w.heap.size + 1 := by simp
  rw [hz1] at HM1
  obtain ⟨W1, hW1⟩ : ∃ W, (w.alloc (.cells #[.slice na m nc, .slice ra l1 rc, .int .i64 nn, .int .i64 nr] 25)).alloc (.map #[] 0) = W := ⟨_, rfl⟩
  rw [hW1] at HM1 HB1 c1 ⊢
  clear hW1 hz1
  go_wp2_with fail
  go_loopw [13] (fun i wr => ∃ j : Nat, j ≤ m ∧ i = .int .i64 j ∧ Below w.heap.size w wr ∧ MC labV okL wr (w.heap.size + 1) (tally (labelsOf (g.nodes.take j)))) (fun i _ => m - (intOf i).toNat)
  case atStart => exact ⟨0, Nat.zero_le _, rfl, HB1.out, HM1.out⟩
  case round =>
    obtain ⟨j, hj, rfl, hbr, hmc⟩ := hrel
    have HBR := hidE hbr
    have HMC := hidE hmc
    clear hbr hmc
    by_cases hlt : j < m
    · have hlt' : (j : Int) < m := by omega
      obtain ⟨x, hx⟩ : ∃ q, g.nodes[j]? = some q := ⟨_, List.getElem?_eq_getElem (by have := HM.out; omega)⟩
      obtain ⟨bl, off, rfl, hbl, hc⟩ := HR3.out.resolve_left (by intro e; rw [e] at hx; simp at hx)
      obtain ⟨la, lc, pv, ⟨d0, d1, d2⟩, ⟨s1, s2⟩, hks, hps⟩ := hc j x hx
      replace d0 := ((HBR.out.mono hB).cell (p := ⟨bl, off + j * 3, none⟩) hbl).trans d0
      replace d1 := ((HBR.out.mono hB).cell (p := ⟨bl, off + j * 3 + 1, none⟩) hbl).trans d1
      replace d2 := ((HBR.out.mono hB).cell (p := ⟨bl, off + j * 3 + 2, none⟩) hbl).trans d2
      have HX := hidE hx
      have HLE := hidE (labelsOf_le hx)
      have HAT := hidE (labelsOf_at hx)
      obtain ⟨pa, pc, hpv⟩ : ∃ pa pc, pv = .slice pa x.props.length pc := by obtain ⟨pa, pc, e, _⟩ := hps; exact ⟨pa, pc, e⟩
      subst hpv
      have HKS2 : Hid (∀ W, Below w.heap.size w W → KeysLie B W la x.labels) := fun W hb => hks.below (hb.mono hB)
      generalize x.props.length = l3 at *
      obtain ⟨xl, hxl⟩ : ∃ l, x.labels = l := ⟨_, rfl⟩
      rw [hxl] at d1 s1 HKS2 HLE HAT
      obtain ⟨n, hn⟩ : ∃ n, xl.length = n := ⟨_, rfl⟩
      have HN := hidE hn
      rw [hn] at d1 s1 HLE
      generalize x.id = xi at *
      clear hx hc hps hxl hks hn
      go_upto_region 5 with fail
      have k1 : (wr.alloc (.cells #[.int .i64 xi, .slice la n lc, .slice pa l3 pc] 73)).cell? ⟨wr.heap.size, 1, none⟩ = some (.slice la n lc) := cell_new _ _ _ _ _ rfl
      have hbA : Below wr.heap.size wr (wr.alloc (.cells #[.int .i64 xi, .slice la n lc, .slice pa l3 pc] 73)) := (Below.refl _ _).alloc (Nat.le_refl _) _
      obtain ⟨W2, hW2⟩ : ∃ W, wr.alloc (.cells #[.int .i64 xi, .slice la n lc, .slice pa l3 pc] 73) = W := ⟨_, rfl⟩
      rw [hW2] at k1 hbA ⊢
      have HM2 : Hid (MC labV okL W2 (w.heap.size + 1) (tally (labelsOf (g.nodes.take j)))) := MG.block HMC.out (hbA.block _ (MG.lt HMC.out))
      have HB2 : Hid (Below w.heap.size w W2) := Below.on HBR.out hbA
      obtain ⟨A, hA⟩ : ∃ A, labelsOf (g.nodes.take j) = A := ⟨_, rfl⟩
      rw [hA] at HM2 HLE HAT
      obtain ⟨X, hX⟩ : ∃ X, wr.heap.size = X := ⟨_, rfl⟩
      rw [hX] at k1 ⊢
      clear hW2 hbA hA hX HMC
      go_wp2_with fail
      go_loopw [20] (fun i wr => ∃ k : Nat, k ≤ n ∧ i = .int .i64 k ∧ Below w.heap.size w wr ∧ MC labV okL wr (w.heap.size + 1) (tally (A ++ xl.take k))) (fun i _ => n - (intOf i).toNat)
      case atStart => exact ⟨0, Nat.zero_le _, rfl, HB2.out, by simpa using HM2.out⟩
      case round =>
        obtain ⟨k, hk, rfl, hbr, hmc⟩ := hrel
        have HB3 := hidE hbr
        have HM3 := hidE hmc
        clear hbr hmc
        by_cases hlt2 : k < n
        · have hlt2' : (k : Int) < n := by omega
          obtain ⟨s, hs⟩ : ∃ q, xl[k]? = some q := ⟨_, List.getElem?_eq_getElem (by have := HN.out; omega)⟩
          obtain ⟨b2, o2, rfl, hb2, hc2⟩ := (HKS2.out _ HB3.out).resolve_left (by intro e; rw [e] at hs; simp at hs)
          obtain ⟨cx, hss⟩ := hc2 k (by have := HN.out; omega)
          have hgd : xl.getD k ⟨#[]⟩ = s := by rw [List.getD_eq_getElem?_getD, hs]; rfl
          rw [hgd] at cx hss
          have HSX := hidE hs
          have hmc2 : MC labV okL wr.drew (w.heap.size + 1) (tally (A ++ xl.take k)) := HM3.out
          obtain ⟨st, w1, w2, q1, q2, q3, q4, q5, q6, q7, q8⟩ := mc_bump labT map134 hmc2 (tally_nodup _) (s, 0) ⟨hss, w64_zero⟩ 1
          obtain ⟨cn, hcn⟩ : ∃ c, countOf ((s, 0) : ByteArray × Int) (tally (A ++ xl.take k)) = c := ⟨_, rfl⟩
          have hc1 := tally_count (A ++ xl.take k) (s, 0)
          rw [hcn] at q1 q2 q3 q4 hc1
          have hcb : cn ≤ 1000000 := by
            have h1 := hc1.2
            have h2 := HLE.out
            have h3 := HLL.out
            have h4 := HN.out
            simp only [List.length_append, List.length_take] at h1; omega
          have hc0 := hc1.1
          simp only [labV] at q1 q2 q3 q4
          have HNEW : Hid (Below w.heap.size w w2 ∧ MC labV okL w2 (w.heap.size + 1) (tally (A ++ xl.take (k + 1)))) := by
            refine ⟨(HB3.out.drew).trans (q8.mono (Nat.le_succ w.heap.size)), ?_⟩
            rw [List.take_add_one, hs, ← List.append_assoc]
            show MC labV okL w2 (w.heap.size + 1) (tally (_ ++ [s]))
            rw [tally_snoc]
            exact q5
          have hwp : IntKind.i64.wrap (cn + 1) = cn + 1 := by rw [IntKind.wrap_i64]; omega
          clear hmc2 q5 q6 q7 q8 hcn hc1 hgd hc2 hs
          go_upto_region 8 with fail
          go_region_with fail
          all_goals
            go_wp2_with fail
            go_roundw
            case rel => exact ⟨k + 1, by omega, by go_num, HNEW.out.1, HNEW.out.2⟩
            case measure => simp [intOf]; omega
        · have hlt2' : ¬ (k : Int) < n := by omega
          have HL := HM3.out
          rw [List.take_of_length_le (by have := HN.out; omega), ← HAT.out] at HL
          have HL := hidE HL
          go_wp2_with fail
          go_roundw
          case rel => exact ⟨j + 1, by omega, by go_num, HB3.out, HL.out⟩
          case measure => simp [intOf]; omega
    · have hlt' : ¬ (j : Int) < m := by omega
      have HL := HMC.out
      rw [List.take_of_length_le (by have := HM.out; omega)] at HL
      have HRW := hidE (rows84_any hsort hmost HL HMO.out)
      clear HL
      go_wp2_with (go_at_call 84; refine HRW.out.mono ?_; rintro e W3 ⟨v3, L, rfl, y1, y2, y3, y4⟩; have HY := hidE (And.intro y1 (And.intro y2 (And.intro y3 y4))); clear y1 y2 y3 y4)
      go_ret
      obtain ⟨y1, y2, y3, y4⟩ := HY.out
      exact ⟨_, L, rfl, y1, y2, y3.base HBR.out.size, Below.on HBR.out y4⟩
end Go.Proofs.YthfilnflgahcjaaGreatDoor

namespace Go.Proofs.YthfilnflgahcjaaGreatDoor
open Go.RowKit Go.Shelf Go.Maps
set_option linter.unusedVariables false
set_option linter.unusedSimpArgs false
/-- A number of 64 bits. -/
def I64 (k : Int) : Prop := (Lit.int .i64 k).wf = true
/-- The map at b holds just these, by their numbers. -/
def MI (w : World) (b : Nat) (es : List (Int × Value)) : Prop := ∃ ar clock, w.heap[b]? = some (.map ar clock) ∧ ar.toList.map (fun e => (e.key, e.val)) = es.map (fun p => (Value.int .i64 p.1, p.2)) ∧ (∀ p ∈ es, I64 p.1) ∧ MapKept.Stamped ar clock
theorem MI.block {w w' : World} {b : Nat} {es : List (Int × Value)} (h : MI w b es) (hb : w'.heap[b]? = w.heap[b]?) : MI w' b es := by
  obtain ⟨ar, c, h1, h2⟩ := h
  exact ⟨ar, c, hb.trans h1, h2⟩
theorem MI.lt {w : World} {b : Nat} {es : List (Int × Value)} (h : MI w b es) : b < w.heap.size := by
  obtain ⟨ar, c, h1, _⟩ := h
  exact (Array.getElem?_eq_some_iff.1 h1).1
theorem MI.below {B : Nat} {w w' : World} {b : Nat} {es : List (Int × Value)} (h : MI w b es) (hb : Below B w w') (hB : w.heap.size ≤ B) : MI w' b es := h.block (hb.block b (Nat.lt_of_lt_of_le h.lt hB))
theorem mi_none (w : World) : MI (w.alloc (.map #[] 0)) w.heap.size [] := ⟨#[], 0, World.alloc_heap_new _ _, rfl, by simp, MapKept.stamped_empty _⟩
theorem mi_keys {ar : Array MapEntry} {es : List (Int × Value)} (h : ar.toList.map (fun e => (e.key, e.val)) = es.map (fun p => (Value.int .i64 p.1, p.2))) (hs : ∀ p ∈ es, I64 p.1) : ∀ e ∈ ar.toList, ∃ l, Go.keyOf Tryz.prog 2 e.key = some l := by
  intro e he
  have : (e.key, e.val) ∈ es.map (fun p => (Value.int .i64 p.1, p.2)) := by rw [← h]; exact List.mem_map.2 ⟨e, he, rfl⟩
  obtain ⟨p, hm, e1⟩ := List.mem_map.1 this
  have e2 : Value.int .i64 p.1 = e.key := congrArg Prod.fst e1
  exact ⟨_, by rw [← e2]; exact keyOf_int_mk Tryz.underlying2 (hs p hm)⟩
theorem mi_mem {ar : Array MapEntry} {es : List (Int × Value)} (h : ar.toList.map (fun e => (e.key, e.val)) = es.map (fun p => (Value.int .i64 p.1, p.2))) {e : MapEntry} (he : e ∈ ar.toList) : ∃ p ∈ es, e.key = .int .i64 p.1 ∧ e.val = p.2 := by
  have : (e.key, e.val) ∈ es.map (fun p => (Value.int .i64 p.1, p.2)) := by rw [← h]; exact List.mem_map.2 ⟨e, he, rfl⟩
  obtain ⟨p, hm, e1⟩ := List.mem_map.1 this
  exact ⟨p, hm, (congrArg Prod.fst e1).symm, (congrArg Prod.snd e1).symm⟩
theorem mi_miss {t e : TypeId} {z : Value} (ht : Tryz.prog.underlying t = some (.map 2 e)) (hz : ∀ w, (zeroValue e).run Tryz.prog w = .ok z w) {w : World} {b : Nat} {es : List (Int × Value)} (h : MI w b es) (k : Int) (hk : I64 k) (hn : ∀ p ∈ es, p.1 ≠ k) :
    (Instr.lookup t (.map (some b)) (.int .i64 k) true).run Tryz.prog w = .ok (.tuple #[z, .bool false]) w ∧ (Instr.lookup t (.map (some b)) (.int .i64 k) false).run Tryz.prog w = .ok z w := by
  obtain ⟨ar, clock, h1, h2, h3, hS⟩ := h
  have K := int_keyed (P := Tryz.prog) Tryz.underlying2
  have hkey := keyOf_int_mk (P := Tryz.prog) Tryz.underlying2 hk
  rcases K.find w hkey ar.toList (mi_keys h2 h3) with ⟨f1, f2⟩ | ⟨j, e0, f1, f2, f3⟩
  · constructor <;> simp [Instr.lookup, run_underlying ht, MapKept.run_getObj_map h1, K.check w _ hkey, f1, hz, Result.andThen]
  · exfalso
    obtain ⟨p, hp, e1, _⟩ := mi_mem h2 (List.mem_of_getElem? f2)
    rw [f3] at e1
    have : k = p.1 := by injection e1
    exact hn p hp this.symm
theorem mi_hit {t e : TypeId} {z : Value} (ht : Tryz.prog.underlying t = some (.map 2 e)) {w : World} {b : Nat} {es : List (Int × Value)} (h : MI w b es) (k : Int) (v : Value) (hk : I64 k) (hm : (k, v) ∈ es) (hu : ∀ p ∈ es, p.1 = k → p.2 = v) :
    (Instr.lookup t (.map (some b)) (.int .i64 k) true).run Tryz.prog w = .ok (.tuple #[v, .bool true]) w ∧ (Instr.lookup t (.map (some b)) (.int .i64 k) false).run Tryz.prog w = .ok v w := by
  obtain ⟨ar, clock, h1, h2, h3, hS⟩ := h
  have K := int_keyed (P := Tryz.prog) Tryz.underlying2
  have hkey := keyOf_int_mk (P := Tryz.prog) Tryz.underlying2 hk
  rcases K.find w hkey ar.toList (mi_keys h2 h3) with ⟨f1, f2⟩ | ⟨j, e0, f1, f2, f3⟩
  · exfalso
    have : (Value.int .i64 k, v) ∈ ar.toList.map (fun e => (e.key, e.val)) := by rw [h2]; exact List.mem_map.2 ⟨_, hm, rfl⟩
    obtain ⟨e, he, e1⟩ := List.mem_map.1 this
    exact f2 e he (congrArg Prod.fst e1)
  · obtain ⟨p, hp, e1, e2⟩ := mi_mem h2 (List.mem_of_getElem? f2)
    rw [f3] at e1
    have e3' : k = p.1 := by injection e1
    have e3 : p.1 = k := e3'.symm
    have e4 : e0.val = v := e2.trans (hu p hp e3)
    rw [e4] at f1
    clear e4 e2 e3 e3' e1 hu hm hp
    constructor <;> simp [Instr.lookup, run_underlying ht, MapKept.run_getObj_map h1, K.check w _ hkey, f1, Result.andThen]
theorem mi_new {t e : TypeId} (ht : Tryz.prog.underlying t = some (.map 2 e)) {w : World} {b : Nat} {es : List (Int × Value)} (h : MI w b es) (k : Int) (v : Value) (hk : I64 k) (hn : ∀ p ∈ es, p.1 ≠ k) :
    ∃ w', (Instr.mapUpdate t (.map (some b)) (.int .i64 k) v).run Tryz.prog w = .ok () w' ∧ MI w' b (es ++ [(k, v)]) ∧ w'.heap.size = w.heap.size ∧ (∀ i, i ≠ b → w'.heap[i]? = w.heap[i]?) ∧ Below b w w' := by
  obtain ⟨ar, clock, h1, h2, h3, hS⟩ := h
  have hlt : b < w.heap.size := (Array.getElem?_eq_some_iff.1 h1).1
  have K := int_keyed (P := Tryz.prog) Tryz.underlying2
  have hkey := keyOf_int_mk (P := Tryz.prog) Tryz.underlying2 hk
  rcases K.find w hkey ar.toList (mi_keys h2 h3) with ⟨f1, f2⟩ | ⟨j, e0, f1, f2, f3⟩
  · refine ⟨{ w with heap := w.heap.setIfInBounds b (.map (ar.push ⟨.int .i64 k, v, clock⟩) (clock + 1)) }, ?_, ⟨ar.push ⟨.int .i64 k, v, clock⟩, clock + 1, ?_, ?_, ?_, MapKept.stamped_push hS f2⟩, ?_, ?_, ⟨rfl, rfl, rfl, ?_, ?_⟩⟩
    · simp [Instr.mapUpdate, run_underlying ht, MapKept.run_getObj_map h1, K.check w false hkey, f1, MapKept.run_setObj_map _ h1, Result.andThen]
    · simp [hlt]
    · simp [h2]
    · intro p hp
      rcases List.mem_append.1 hp with hp | hp
      · exact h3 p hp
      · simp only [List.mem_cons, List.not_mem_nil, or_false] at hp; rw [hp]; exact hk
    · simp
    · intro i hi
      simp [Array.getElem?_setIfInBounds_ne (Ne.symm hi)]
    · simp
    · intro i hi
      have : i ≠ b := by omega
      simp [Array.getElem?_setIfInBounds_ne (Ne.symm this)]
  · exfalso
    obtain ⟨p, hp, e1, _⟩ := mi_mem h2 (List.mem_of_getElem? f2)
    rw [f3] at e1
    have : k = p.1 := by injection e1
    exact hn p hp this.symm
end Go.Proofs.YthfilnflgahcjaaGreatDoor

