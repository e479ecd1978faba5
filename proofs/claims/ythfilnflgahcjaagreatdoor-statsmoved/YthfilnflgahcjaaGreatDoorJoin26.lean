/- A graph's counts (Count 11). The text of the number one. -/
import Derived.Test.YthfilnflgahcjaaGreatDoorJoin9
import Derived.Test.YthfilnflgahcjaaGreatDoorSkc
import Derived.Test.YthfilnflgahcjaaGreatDoorJoin24
import Derived.Test.YthfilnflgahcjaaGreatDoorJoin25
import Derived.Test.YthfilnflgahcjaaGreatDoorJoin17
import Derived.Test.YthfilnflgahcjaaGreatDoorJoin8
namespace Go.Proofs.YthfilnflgahcjaaGreatDoor
open Go.RowKit Go.Shelf Go.Maps
set_option linter.unusedVariables false
set_option linter.unusedSimpArgs false
attribute [local go_sem] Oper.semAt_some
/-- What is wanted of a graph that is counted. -/
structure CntFit (tx : Tree → ByteArray) (g : GraphP) (most K : Nat) : Prop where
  ln : g.nodes.length ≤ 100000
  lr : g.rels.length ≤ 100000
  fr : ∀ r ∈ g.rels, W64 r.fr ∧ W64 r.tt
  nd : (g.nodes.map NodeP.id).Nodup
  id : ∀ n ∈ g.nodes, W64 n.id
  ll : (labelsOf g.nodes).length ≤ 1000000
  kk : ∀ n ∈ g.nodes, n.labels.length ≤ K
  km : K ≤ 1000000000
  jn : (cnt (jointsOf g.rels)).length * K ≤ 1000000000
  it : (itemsOf tx g.nodes).length ≤ 1000000
  wl : wlen (itemsOf tx g.nodes) ≤ 100000000
  cl : (tally (labelsOf g.nodes)).length ≤ most
  ct : (tally (g.rels.map fun r => r.type)).length ≤ most
  ce : (gather (endsOf g.nodes (cnt (jointsOf g.rels)))).length ≤ most
  ck : (nodesK (kAll (itemsOf tx g.nodes)).2).length ≤ most
/-- What is counted. -/
structure CntIs (tx : Tree → ByteArray) (g : GraphP) (leL leT : ByteArray × Int → ByteArray × Int → Prop) (leE : EndR → EndR → Prop) (leK : KeyR → KeyR → Prop) (s : StatP) : Prop where
  n : s.nodes = g.nodes.length
  r : s.rels = g.rels.length
  l1 : s.labels.Perm ((tally (labelsOf g.nodes)).map (fun p : (ByteArray × Int) × Int => (p.1.1, p.2)))
  l2 : s.labels.Pairwise leL
  t1 : s.types.Perm ((tally (g.rels.map fun r => r.type)).map (fun p : (ByteArray × Int) × Int => (p.1.1, p.2)))
  t2 : s.types.Pairwise leT
  e1 : s.ends.Perm ((gather (endsOf g.nodes (cnt (jointsOf g.rels)))).map (fun p : EndR × Int => (p.1.1, p.1.2.1, p.1.2.2.1, p.2)))
  e2 : s.ends.Pairwise leE
  k1 : s.keys.Perm (keysK (kAll (itemsOf tx g.nodes)).2)
  k2 : s.keys.Pairwise leK
/-- Where the rows lie. -/
structure CntL (base : Nat) (w : World) (vl vt ve vk : Value) (s : StatP) : Prop where
  l : ORow 42 2 labC base w vl s.labels
  t : ORow 62 2 labC base w vt s.types
  e : ORow 64 4 endC base w ve s.ends
  k : ORow 66 4 keyC base w vk s.keys
def aftO (o : Option Oper) : Array Edge := match o with | some o => o.after | none => #[]
def posO (o : Option Oper) : String := match o with | some o => o.pos | none => ""
theorem pick11 : ∃ a1 a2 a3 q1 q2 q3, pickL L11 [14, 15, 16] = [⟨some 22, .build 33 #[(0, .tmp 10), (1, .tmp 13), (2, .tmp 15), (3, .tmp 17), (4, .tmp 19), (5, .tmp 21)], 33, q1, a1, none⟩, ⟨none, .store 33 (.tmp 2) (.tmp 22), 0, q2, a2, none⟩, ⟨some 3, .assign (.const (.int .i64 0)), 34, q3, a3, none⟩] := ⟨aftO (nthL L11 14), aftO (nthL L11 15), aftO (nthL L11 16), posO (nthL L11 14), posO (nthL L11 15), posO (nthL L11 16), by kernel_rfl⟩
set_option maxRecDepth 100000 in
set_option maxHeartbeats 16000000 in
theorem count_good {leL leT : ByteArray × Int → ByteArray × Int → Prop} {leE : EndR → EndR → Prop} {leK : KeyR → KeyR → Prop} {most : Nat} (hsl : Sorts84 leL most) (hst : Sorts88 leT most) (hse : Sorts92 leE most) (hsk : Sorts98 leK most) (hmost : most ≤ 900000)
    (tx : Tree → ByteArray) (K : Nat) (g : GraphP) (v : Value) (B : Nat) (w : World) (hB : B ≤ w.heap.size) (hE : Env w) (h : GraphLies B w v g) (hz : Mild g) (hn1 : -9223372036854775808 ≤ g.nn ∧ g.nn ≤ 9223372036854775807) (hn2 : -9223372036854775808 ≤ g.nr ∧ g.nr ≤ 9223372036854775807) (hf : CntFit tx g most K) (hok : checkPB g = true)
    (hT : ∀ n ∈ g.nodes, ∀ p ∈ n.props, okS (tx p.2) ∧ ∀ (W : World) (u : Value), Below w.heap.size w W → Lies B W u p.2 → Calls Tryz.prog 127 #[u] W fun e w' => e = .returned (.tuple #[.string (tx p.2), .int .i64 0]) ∧ Below W.heap.size W w') :
    Calls Tryz.prog 11 #[v] w fun e w' => ∃ s vl vt ve vk, e = .returned (.tuple #[statV s vl vt ve vk, .int .i64 0]) ∧ CntIs tx g leL leT leE leK s ∧ CntL w.heap.size w' vl vt ve vk s ∧ Below w.heap.size w w' := by
  have HG := hidE h
  obtain ⟨na, nc, ra, rc, rfl, _, _⟩ := h
  have HF := hidE hf
  have hln := hf.ln
  have hlr := hf.lr
  have HCK := hidE (fun (W : World) (hb : Below w.heap.size w W) => checkP_any g B _ W (Nat.le_trans hB hb.size) (hE.below hb hE.room) (HG.out.below (hb.mono hB)) hz hn1 hn2 hf.fr)
  rw [if_pos hok] at HCK
  have HT := hidE hT
  obtain ⟨l1, hl1⟩ : ∃ m, g.nodes.length = m := ⟨_, rfl⟩
  obtain ⟨l2, hl2⟩ : ∃ m, g.rels.length = m := ⟨_, rfl⟩
  have HL := hidE (And.intro hl1 hl2)
  rw [hl1] at hln
  rw [hl2] at hlr
  rw [hl1, hl2] at HG HCK ⊢
  generalize g.nn = nn at *
  generalize g.nr = nr at *
  clear hf hl1 hl2 hT hE hz
  obtain ⟨Wa, hWa⟩ : ∃ W, w.alloc (.cells #[.slice na l1 nc, .slice ra l2 rc, .int .i64 nn, .int .i64 nr] 25) = W := ⟨_, rfl⟩
  have ra0 : Rec Wa w.heap.size #[.slice na l1 nc, .slice ra l2 rc, .int .i64 nn, .int .i64 nr] 25 := by rw [← hWa]; exact rec_new _ _ _
  have hza : Wa.heap.size = w.heap.size + 1 := by rw [← hWa]; simp
  have hba : Below w.heap.size w Wa := by rw [← hWa]; exact (Below.refl _ _).alloc (Nat.le_refl _) _
  obtain ⟨Wb, hWb⟩ : ∃ W, Wa.alloc (.cells #[.int .i64 0, .int .i64 0, .slice none 0 0, .slice none 0 0, .slice none 0 0, .slice none 0 0] 33) = W := ⟨_, rfl⟩
  have hbb : Below Wa.heap.size Wa Wb := by rw [← hWb]; exact (Below.refl _ _).alloc (Nat.le_refl _) _
  have rb0 : Rec Wb (w.heap.size + 1) #[.int .i64 0, .int .i64 0, .slice none 0 0, .slice none 0 0, .slice none 0 0, .slice none 0 0] 33 := by rw [← hWb, ← hza]; exact rec_new _ _ _
  have hzb : Wb.heap.size = w.heap.size + 1 + 1 := by rw [← hWb, ← hza]; simp
  have ra1 : Rec Wb w.heap.size #[.slice na l1 nc, .slice ra l2 rc, .int .i64 nn, .int .i64 nr] 25 := ra0.below hbb (by omega)
  have hbw : Below w.heap.size w Wb := Below.on hba hbb
  have HB := hidE hbw
  have HRA := hidE ra1
  have HRB := hidE rb0
  have HZB := hidE hzb
  have HC := hidE (HCK.out Wb hbw)
  have c0 := ra1.cell 0 rfl
  have c1 := ra1.cell 1 rfl
  have c2 := ra1.cell 2 rfl
  have c3 := ra1.cell 3 rfl
  clear ra0 hba hbb ra1 rb0 hbw HCK
  go_enter Tryz.func11, Tryz.ntmps11
  go_upto_region 1 with fail
  try rw [hWa]
  try rw [hWb]
  clear hWa hWb hza hzb
  go_upto_region 3 with (go_at_call 13; refine HC.out.mono ?_; rintro e W2 ⟨rfl, y1⟩; have HY := hidE y1; clear y1)
  have hW2 := HY.out
  have hs2 := hW2.size
  have hra := HRA.out.below hW2 HRA.out.lt
  have hrb := HRB.out.below hW2 HRB.out.lt
  have HB2 := hidE (Below.on HB.out hW2)
  have HRA2 := hidE hra
  have HRB2 := hidE hrb
  have HZ2 : Hid (w.heap.size + 2 ≤ W2.heap.size) := by show _ ≤ _; have := HZB.out; omega
  clear hW2 hs2 hra hrb HY HRA HRB HZB HB HC c0 c1 c2 c3
  refine wp_cut (L := L11) 14 [14, 15, 16] (by kernel_rfl) (by kernel_rfl) ?_
  refine facts14 (F := factsAt (facts11 w.heap.size na l1 nc ra l2 rc nn nr
    (fun v W => ∃ L : List (ByteArray × Int), L.Perm ((tally (labelsOf g.nodes)).map (fun p : (ByteArray × Int) × Int => (p.1.1, p.2))) ∧ L.Pairwise leL ∧ ORow 42 2 labC (w.heap.size + 2) W v L)
    (fun v W => ∃ L : List (ByteArray × Int), L.Perm ((tally (g.rels.map fun r => r.type)).map (fun p : (ByteArray × Int) × Int => (p.1.1, p.2))) ∧ L.Pairwise leT ∧ ORow 62 2 labC (w.heap.size + 2) W v L)
    (fun v W => ∃ L : List EndR, L.Perm ((gather (endsOf g.nodes (cnt (jointsOf g.rels)))).map (fun p : EndR × Int => (p.1.1, p.1.2.1, p.1.2.2.1, p.2))) ∧ L.Pairwise leE ∧ ORow 64 4 endC (w.heap.size + 2) W v L)
    (fun v W => ∃ L : List KeyR, L.Perm (keysK (kAll (itemsOf tx g.nodes)).2) ∧ L.Pairwise leK ∧ ORow 66 4 keyC (w.heap.size + 2) W v L))) (by kernel_rfl) ?_ ?_ ?_
  · exact fun i v w w' h1 h2 => factsAt_stable (stable11 _ _ _ _ _ _ _ _ _ (fun v W W' ⟨L, a, b, c⟩ hb => ⟨L, a, b, c.below hb⟩) (fun v W W' ⟨L, a, b, c⟩ hb => ⟨L, a, b, c.below hb⟩) (fun v W W' ⟨L, a, b, c⟩ hb => ⟨L, a, b, c.below hb⟩) (fun v W W' ⟨L, a, b, c⟩ hb => ⟨L, a, b, c.below hb⟩)) i v w w' h1 h2
  · intro i hi a W hS hb hF
    have hbw : Below w.heap.size w W := Below.on HB2.out hb
    have hr := HRA2.out.below hb HRA2.out.lt
    have hg : GraphLies B W (.agg #[.slice na l1 nc, .slice ra l2 rc, .int .i64 nn, .int .i64 nr]) g := HG.out.below (hbw.mono hB)
    have hBW : B ≤ W.heap.size := Nat.le_trans hB hbw.size
    have hf := HF.out
    have hz2 : w.heap.size + 2 ≤ W.heap.size := Nat.le_trans HZ2.out hb.size
    refine ops11 w.heap.size na l1 nc ra l2 rc nn nr _ _ _ _ _ a W ((same_eval hS (by kernel_rfl)).trans rfl) (by omega) (by omega) ⟨hr.cell 0 rfl, hr.cell 1 rfl, hr.cell 2 rfl, hr.cell 3 rfl, ?_, ?_, ?_, ?_⟩ i hi hF
    · refine (labels_cnt hsl hmost g _ B W hBW hg hf.ln hf.ll hf.cl).mono ?_
      rintro e W' ⟨v, L, rfl, x1, x2, x3, x4⟩
      exact ⟨v, rfl, ⟨L, x1, x2, x3.base hz2⟩, x4⟩
    · refine (types_cnt hst hmost g _ B W hBW hg hf.lr hf.ct).mono ?_
      rintro e W' ⟨v, L, rfl, x1, x2, x3, x4⟩
      exact ⟨v, rfl, ⟨L, x1, x2, x3.base hz2⟩, x4⟩
    · refine (ends_cnt hse hmost g _ B W hBW hg hf.lr hf.ln hf.fr hf.nd hf.id K hf.kk hf.km hf.jn hf.ce).mono ?_
      rintro e W' ⟨v, L, rfl, x1, x2, x3, x4⟩
      exact ⟨v, rfl, ⟨L, x1, x2, x3.base hz2⟩, x4⟩
    · refine (keys_cnt hsk hmost tx g _ B W hBW hg hf.ln (fun n hn p hp => ⟨(HT.out n hn p hp).1, fun W' u h1 h2 => (HT.out n hn p hp).2 W' u (Below.on hbw h1) h2⟩) hf.it hf.wl hf.ck).mono ?_
      rintro e W' ⟨v, L, rfl, x1, x2, x3, x4⟩
      exact ⟨v, rfl, ⟨L, x1, x2, x3.base hz2⟩, x4⟩
  · intro a W hS hb hF
    show wpList Tryz.prog L11.toArray _ (pickL L11 [14, 15, 16]) a W
    obtain ⟨a1, a2, a3, q1, q2, q3, hpk⟩ := pick11
    rw [hpk]
    have e10 : a.eval (.tmp 10) = .int .i64 l1 := fact_at (p := eqv (.int .i64 l1)) (by kernel_rfl) rfl (hF 2 (by omega))
    have e13 : a.eval (.tmp 13) = .int .i64 l2 := fact_at (p := eqv (.int .i64 l2)) (by kernel_rfl) rfl (hF 5 (by omega))
    obtain ⟨LL, f1, f2, f3⟩ := fact_at (p := fun v W => ∃ L : List (ByteArray × Int), L.Perm ((tally (labelsOf g.nodes)).map (fun p : (ByteArray × Int) × Int => (p.1.1, p.2))) ∧ L.Pairwise leL ∧ ORow 42 2 labC (w.heap.size + 2) W v L) (by kernel_rfl) rfl (hF 7 (by omega))
    obtain ⟨LT, g1, g2, g3⟩ := fact_at (p := fun v W => ∃ L : List (ByteArray × Int), L.Perm ((tally (g.rels.map fun r => r.type)).map (fun p : (ByteArray × Int) × Int => (p.1.1, p.2))) ∧ L.Pairwise leT ∧ ORow 62 2 labC (w.heap.size + 2) W v L) (by kernel_rfl) rfl (hF 9 (by omega))
    obtain ⟨LE, h1, h2, h3⟩ := fact_at (p := fun v W => ∃ L : List EndR, L.Perm ((gather (endsOf g.nodes (cnt (jointsOf g.rels)))).map (fun p : EndR × Int => (p.1.1, p.1.2.1, p.1.2.2.1, p.2))) ∧ L.Pairwise leE ∧ ORow 64 4 endC (w.heap.size + 2) W v L) (by kernel_rfl) rfl (hF 11 (by omega))
    obtain ⟨LK, k1, k2, k3⟩ := fact_at (p := fun v W => ∃ L : List KeyR, L.Perm (keysK (kAll (itemsOf tx g.nodes)).2) ∧ L.Pairwise leK ∧ ORow 66 4 keyC (w.heap.size + 2) W v L) (by kernel_rfl) rfl (hF 13 (by omega))
    obtain ⟨y15, e15⟩ : ∃ y, a.eval (.tmp 15) = y := ⟨_, rfl⟩
    obtain ⟨y17, e17⟩ : ∃ y, a.eval (.tmp 17) = y := ⟨_, rfl⟩
    obtain ⟨y19, e19⟩ : ∃ y, a.eval (.tmp 19) = y := ⟨_, rfl⟩
    obtain ⟨y21, e21⟩ : ∃ y, a.eval (.tmp 21) = y := ⟨_, rfl⟩
    have f3 : ORow 42 2 labC (w.heap.size + 2) W y15 LL := by have := f3; rwa [show a.eval (.tmp 15) = y15 from e15] at this
    have g3 : ORow 62 2 labC (w.heap.size + 2) W y17 LT := by have := g3; rwa [show a.eval (.tmp 17) = y17 from e17] at this
    have h3 : ORow 64 4 endC (w.heap.size + 2) W y19 LE := by have := h3; rwa [show a.eval (.tmp 19) = y19 from e19] at this
    have k3 : ORow 66 4 keyC (w.heap.size + 2) W y21 LK := by have := k3; rwa [show a.eval (.tmp 21) = y21 from e21] at this
    obtain ⟨ad15, ac15, rfl⟩ := f3.slice
    obtain ⟨ad17, ac17, rfl⟩ := g3.slice
    obtain ⟨ad19, ac19, rfl⟩ := h3.slice
    obtain ⟨ad21, ac21, rfl⟩ := k3.slice
    have hrb := HRB2.out.below hb HRB2.out.lt
    have HBW := hidE (Below.on HB2.out hb)
    have HLK := hidE (And.intro f3 (And.intro g3 (And.intro h3 k3)))
    have HPM := hidE (And.intro (And.intro f1 f2) (And.intro (And.intro g1 g2) (And.intro (And.intro h1 h2) (And.intro k1 k2))))
    have HRW := hidE hrb
    clear f1 f2 f3 g1 g2 g3 h1 h2 h3 k1 k2 k3 hF hb
    rw [same_puts [8, 9, 10, 11, 12, 13, 14, 15, 16, 17, 18, 19, 20, 21] hS (by kernel_rfl)]
    unfold puts
    obtain ⟨y8, e8⟩ : ∃ y, a.eval (.tmp 8) = y := ⟨_, rfl⟩
    obtain ⟨y9, e9⟩ : ∃ y, a.eval (.tmp 9) = y := ⟨_, rfl⟩
    obtain ⟨y11, e11⟩ : ∃ y, a.eval (.tmp 11) = y := ⟨_, rfl⟩
    obtain ⟨y12, e12⟩ : ∃ y, a.eval (.tmp 12) = y := ⟨_, rfl⟩
    obtain ⟨y14, e14⟩ : ∃ y, a.eval (.tmp 14) = y := ⟨_, rfl⟩
    obtain ⟨y16, e16⟩ : ∃ y, a.eval (.tmp 16) = y := ⟨_, rfl⟩
    obtain ⟨y18, e18⟩ : ∃ y, a.eval (.tmp 18) = y := ⟨_, rfl⟩
    obtain ⟨y20, e20⟩ : ∃ y, a.eval (.tmp 20) = y := ⟨_, rfl⟩
    simp only [List.foldl_cons, List.foldl_nil, e8, e9, e10, e11, e12, e13, e14, e15, e16, e17, e18, e19, e20, e21]
    clear e8 e9 e10 e11 e12 e13 e14 e15 e16 e17 e18 e19 e20 e21 hS
    simp only [Act.put, List.setIfInBounds_toArray, List.set_cons_succ, List.set_cons_zero]
    have c0 := hrb.cell 0 rfl
    have c1 := hrb.cell 1 rfl
    have c2 := hrb.cell 2 rfl
    have c3 := hrb.cell 3 rfl
    have c4 := hrb.cell 4 rfl
    have c5 := hrb.cell 5 rfl
    generalize hLL : LL.length = n1 at *
    generalize hLT : LT.length = n2 at *
    generalize hLE : LE.length = n3 at *
    generalize hLK : LK.length = n4 at *
    have z0 := hrb.z 0
    have z1 := hrb.z 1
    have z2 := hrb.z 2
    have z3 := hrb.z 3
    have z4 := hrb.z 4
    have z5 := hrb.z 5
    have HPUT := hidE (put_set (put_set (put_set (put_set (put_set (put_set (put_refl hrb) 0 (.int .i64 l1)) 1 (.int .i64 l2)) 2 (.slice ad15 n1 ac15)) 3 (.slice ad17 n2 ac17)) 4 (.slice ad19 n3 ac19)) 5 (.slice ad21 n4 ac21))
    clear hrb
    go_wp2_with fail
    obtain ⟨W3, hW3⟩ : ∃ W3, (((((W.setCell { block := w.heap.size + 1, off := 0 } (Value.int IntKind.i64 l1)).setCell { block := w.heap.size + 1, off := 1 } (Value.int IntKind.i64 l2)).setCell { block := w.heap.size + 1, off := 2 } (Value.slice ad15 n1 ac15)).setCell { block := w.heap.size + 1, off := 3 } (Value.slice ad17 n2 ac17)).setCell { block := w.heap.size + 1, off := 4 } (Value.slice ad19 n3 ac19)).setCell { block := w.heap.size + 1, off := 5 } (Value.slice ad21 n4 ac21) = W3 := ⟨_, rfl⟩
    rw [hW3] at HPUT
    rw [hW3]
    have hput := HPUT.out
    have hr3 := hput.r
    simp only [List.setIfInBounds_toArray, List.set_cons_succ, List.set_cons_zero] at hr3
    have d0 := hr3.cell 0 rfl
    have d1 := hr3.cell 1 rfl
    have d2 := hr3.cell 2 rfl
    have d3 := hr3.cell 3 rfl
    have d4 := hr3.cell 4 rfl
    have d5 := hr3.cell 5 rfl
    obtain ⟨⟨f1, f2⟩, ⟨g1, g2⟩, ⟨h1, h2⟩, k1, k2⟩ := HPM.out
    obtain ⟨f3, g3, h3, k3⟩ := HLK.out
    refine bodyPost_ret (v := .tuple #[.agg #[.int .i64 l1, .int .i64 l2, .slice ad15 n1 ac15, .slice ad17 n2 ac17, .slice ad19 n3 ac19, .slice ad21 n4 ac21], .int .i64 0]) ?_ rfl ⟨⟨l1, l2, LL, LT, LE, LK⟩, _, _, _, _, rfl, ⟨congrArg _ HL.out.1.symm, congrArg _ HL.out.2.symm, f1, f2, g1, g2, h1, h2, k1, k2⟩, ⟨?_, ?_, ?_, ?_⟩, HBW.out.trans (hput.below.mono (by omega))⟩
    · simp [results, Tryz.results11, go_sem, d0, d1, d2, d3, d4, d5]
    · exact ORow.base (ORow.keep f3 (fun q hq _ => hput.other q (show q ≠ w.heap.size + 1 by omega))) (show w.heap.size ≤ w.heap.size + 2 by omega)
    · exact ORow.base (ORow.keep g3 (fun q hq _ => hput.other q (show q ≠ w.heap.size + 1 by omega))) (show w.heap.size ≤ w.heap.size + 2 by omega)
    · exact ORow.base (ORow.keep h3 (fun q hq _ => hput.other q (show q ≠ w.heap.size + 1 by omega))) (show w.heap.size ≤ w.heap.size + 2 by omega)
    · exact ORow.base (ORow.keep k3 (fun q hq _ => hput.other q (show q ≠ w.heap.size + 1 by omega))) (show w.heap.size ≤ w.heap.size + 2 by omega)
end Go.Proofs.YthfilnflgahcjaaGreatDoor

namespace Go.Proofs.YthfilnflgahcjaaGreatDoor
open Go.RowKit Go.Shelf Go.Lib
set_option linter.unusedVariables false
set_option linter.unusedSimpArgs false
attribute [local go_sem] Oper.semAt_some
set_option maxRecDepth 100000 in
theorem small_one (w : World) : Calls Tryz.prog 163 #[.int .i64 1] w fun e w' => e = .returned (.string ⟨#[49]⟩) ∧ w' = w := by
  go_enter Tryz.func163, Tryz.ntmps163
  go_wp2_with fail
  go_ret
  exact ⟨rfl, rfl⟩
/-- A row of bytes that has this one. -/
def OneB (e : Ending) (w w' : World) : Prop := ∃ g c, e = .returned (.slice (some ⟨g, 0, none⟩) 1 c) ∧ w'.cell? ⟨g, 0, none⟩ = some (.int .u8 49) ∧ Below w.heap.size w w'
set_option maxRecDepth 100000 in
theorem appendUint_one (w : World) : Calls Tryz.prog 253 #[.slice none 0 0, .int .u64 1, .int .i64 10] w fun e w' => OneB e w w' := by
  go_enter Tryz.func253, Tryz.ntmps253
  go_wp2_with fail
  refine (small_one w).mono ?_
  rintro e w1 ⟨rfl, hw⟩
  subst hw
  go_wp2_with fail
  go_ret
  refine ⟨_, _, rfl, ?_, ((Below.refl _ _).alloc (Nat.le_refl _) _).drew⟩
  show World.cell? (World.alloc _ _) _ = _
  refine cell_new _ _ _ 0 _ ?_
  rw [Array.getElem?_append_left (by decide)]
  rfl
set_option maxRecDepth 100000 in
theorem appendInt_one (w : World) : Calls Tryz.prog 239 #[.slice none 0 0, .int .i64 1, .int .i64 10] w fun e w' => OneB e w w' := by
  have HC := hidE (appendUint_one w)
  go_enter Tryz.func239, Tryz.ntmps239
  go_wp2_with fail
  refine HC.out.mono ?_
  rintro e w' ⟨g, c, rfl, h1, h2⟩
  have HT := hidE (And.intro h1 h2)
  clear h1 h2 HC
  go_wp2_with fail
  go_ret
  exact ⟨g, c, rfl, HT.out.1, HT.out.2⟩
set_option maxRecDepth 100000 in
theorem appendInt_pub (w : World) : Calls Tryz.prog 202 #[.slice none 0 0, .int .i64 1, .int .i64 10] w fun e w' => OneB e w w' := by
  have HC := hidE (appendInt_one w)
  go_enter Tryz.func202, Tryz.ntmps202
  go_wp2_with fail
  refine HC.out.mono ?_
  rintro e w' ⟨g, c, rfl, h1, h2⟩
  have HT := hidE (And.intro h1 h2)
  clear h1 h2 HC
  go_wp2_with fail
  go_ret
  exact ⟨g, c, rfl, HT.out.1, HT.out.2⟩
set_option maxRecDepth 100000 in
set_option maxHeartbeats 4000000 in
theorem tell_one (b : Bool) (s : ByteArray) (ka la : Option Addr) (kl kc ll lc : Nat) (w : World) : Calls Tryz.prog 152 #[.slice none 0 0, .agg #[.int .i64 2, .bool b, .int .i64 1, .string s, .slice ka kl kc, .slice la ll lc]] w fun e w' => OneB e w w' := by
  obtain ⟨W1, hW1⟩ : ∃ W, w.alloc (.cells #[.int .i64 2, .bool b, .int .i64 1, .string s, .slice ka kl kc, .slice la ll lc] 88) = W := ⟨_, rfl⟩
  have hr : Rec W1 w.heap.size #[.int .i64 2, .bool b, .int .i64 1, .string s, .slice ka kl kc, .slice la ll lc] 88 := by rw [← hW1]; exact rec_new _ _ _
  have HB : Hid (Below w.heap.size w W1) := by rw [← hW1]; exact (Below.refl _ _).alloc (Nat.le_refl _) _
  have c0 := hr.cell 0 rfl
  have c2 := hr.cell 2 rfl
  have HC := hidE (appendInt_pub W1)
  clear hr
  go_enter Tryz.func152, Tryz.ntmps152
  go_upto_region 1 with fail
  try rw [hW1]
  clear hW1
  go_wp2_with fail
  refine HC.out.mono ?_
  rintro e w' ⟨g, c, rfl, h1, h2⟩
  have HT := hidE (And.intro h1 h2)
  clear h1 h2 HC
  go_wp2_with fail
  go_ret
  exact ⟨g, c, rfl, HT.out.1, HB.out.trans (HT.out.2.mono HB.out.size)⟩
set_option maxRecDepth 100000 in
set_option maxHeartbeats 4000000 in
theorem text_one (v : Value) (w : World) (hv : Lies w.heap.size w v (.mk 2 false 1 ⟨#[]⟩ [] [])) (hT : Tabs w) : Calls Tryz.prog 127 #[v] w fun e w' => e = .returned (.tuple #[.string ⟨#[49]⟩, .int .i64 0]) ∧ Below w.heap.size w w' := by
  have HV := hidE hv
  simp only [Lies] at hv
  obtain ⟨ka, kc, la, lc, rfl, -⟩ := hv
  simp only [List.length_nil] at HV ⊢
  obtain ⟨W1, hW1⟩ : ∃ W, w.alloc (.cells #[.int .i64 2, .bool false, .int .i64 1, .string ⟨#[]⟩, .slice ka 0 kc, .slice la 0 lc] 88) = W := ⟨_, rfl⟩
  have hr : Rec W1 w.heap.size #[.int .i64 2, .bool false, .int .i64 1, .string ⟨#[]⟩, .slice ka 0 kc, .slice la 0 lc] 88 := by rw [← hW1]; exact rec_new _ _ _
  have hb : Below w.heap.size w W1 := by rw [← hW1]; exact (Below.refl _ _).alloc (Nat.le_refl _) _
  have HB := hidE hb
  have c0 := hr.cell 0 rfl
  have c1 := hr.cell 1 rfl
  have c2 := hr.cell 2 rfl
  have c3 := hr.cell 3 rfl
  have c4 := hr.cell 4 rfl
  have c5 := hr.cell 5 rfl
  have HR := hidE hr
  have HC := hidE (check_any _ _ W1 ((HV.out.below hb).mono hb.size) (hT.below hb) (by decide) (by decide))
  rw [show checkN (.mk 2 false 1 ⟨#[]⟩ [] []) = 0 by kernel_rfl] at HC
  clear hr hb
  go_enter Tryz.func127, Tryz.ntmps127
  go_upto_region 1 with fail
  try rw [hW1]
  clear hW1
  go_wp2_with fail
  refine HC.out.mono ?_
  rintro e w2 ⟨rfl, hb2⟩
  have hr2 := HR.out.below hb2 HR.out.lt
  have HB2 : Hid (Below w.heap.size w w2) := HB.out.trans (hb2.mono HB.out.size)
  have d0 := hr2.cell 0 rfl
  have d1 := hr2.cell 1 rfl
  have d2 := hr2.cell 2 rfl
  have d3 := hr2.cell 3 rfl
  have d4 := hr2.cell 4 rfl
  have d5 := hr2.cell 5 rfl
  have HTL := hidE (tell_one false ⟨#[]⟩ ka la 0 kc 0 lc w2)
  clear c0 c1 c2 c3 c4 c5 hr2 hb2
  go_wp2_with fail
  refine HTL.out.mono ?_
  rintro e w3 ⟨g, c, rfl, h1, h2⟩
  have hcv : (convert 116 9 (.slice (some ⟨g, 0, none⟩) 1 c)).run Tryz.prog w3 = .ok (.string ⟨#[49]⟩) w3 := by
    refine run_convert_bytes_back (P := Tryz.prog) w3 116 9 5 ⟨g, 0, none⟩ c [49] Tryz.underlying116 Tryz.underlying5 Tryz.underlying9 fun j hj => ?_
    simp only [List.length_cons, List.length_nil] at hj
    have : j = 0 := by omega
    subst this
    exact h1
  have HF := hidE (HB2.out.trans (h2.mono HB2.out.size))
  clear h1 h2 HTL d0 d1 d2 d3 d4 d5
  go_wp2_with fail
  go_ret2
  exact ⟨rfl, HF.out⟩
end Go.Proofs.YthfilnflgahcjaaGreatDoor

