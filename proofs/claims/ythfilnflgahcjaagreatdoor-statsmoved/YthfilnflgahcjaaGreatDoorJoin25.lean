/- Both ends are there: the program's word. May a graph be: the program's word. -/
import Derived.Test.YthfilnflgahcjaaGreatDoorJoin24
import Derived.Test.YthfilnflgahcjaaGreatDoorJoin16
import Derived.Test.YthfilnflgahcjaaGreatDoorJoin10
namespace Go.Proofs.YthfilnflgahcjaaGreatDoor
open Go.RowKit Go.Shelf
set_option linter.unusedVariables false
set_option linter.unusedSimpArgs false
attribute [local go_sem] Oper.semAt_some
theorem Tryz.underlying198' : Tryz.prog.underlying 198 = some (.map 2 164) := by kernel_rfl
/-- The numbers of nodes, as a map's entries. -/
def idsE (ns : List NodeP) : List (Int × Value) := ns.map fun n => (n.id, .agg #[])
/-- Are both ends there, of all? -/
def endsB (es : List (Int × Value)) : List RelP → Bool
  | [] => true
  | r :: t => hasB r.fr es && (hasB r.tt es && endsB es t)
theorem endsB_at {es : List (Int × Value)} {rs : List RelP} {j : Nat} {r : RelP} (h : rs[j]? = some r) : endsB es (rs.drop j) = (hasB r.fr es && (hasB r.tt es && endsB es (rs.drop (j + 1)))) := by
  obtain ⟨hj, hx⟩ := List.getElem?_eq_some_iff.1 h
  rw [List.drop_eq_getElem_cons hj, hx, endsB]
/-- A number that is there is told so. -/
theorem ids_look {w : World} {b : Nat} {ns : List NodeP} (h : MI w b (idsE ns)) (k : Int) (hk : I64 k) : (Instr.lookup 198 (.map (some b)) (.int .i64 k) true).run Tryz.prog w = .ok (.tuple #[.agg #[], .bool (hasB k (idsE ns))]) w := by
  obtain ⟨v, hv, he⟩ := mi_look Tryz.underlying198' zero173 h k hk (fun p hp q hq _ => by
    unfold idsE at hp hq
    obtain ⟨a, _, rfl⟩ := List.mem_map.1 hp
    obtain ⟨c, _, rfl⟩ := List.mem_map.1 hq
    rfl)
  have e : v = .agg #[] := by
    rcases hv with ⟨q, hq, _, rfl⟩ | rfl
    · unfold idsE at hq
      obtain ⟨a, _, rfl⟩ := List.mem_map.1 hq
      rfl
    · rfl
  rw [e] at he
  exact he
/-- In the midst of it. -/
structure EnJ (w : World) (cs : Array Value) (es : List (Int × Value)) (wr : World) : Prop where
  box : Rec wr w.heap.size cs 25
  map : MI wr (w.heap.size + 1) es
  keep : Below w.heap.size w wr
theorem EnJ.below {w wr wz : World} {cs : Array Value} {es : List (Int × Value)} (h : EnJ w cs es wr) (hb : Below wr.heap.size wr wz) : EnJ w cs es wz := ⟨h.box.below hb h.box.lt, h.map.below hb (Nat.le_refl _), below_on h.keep hb⟩
set_option maxRecDepth 100000 in
set_option maxHeartbeats 4000000 in
theorem gends_any (g : GraphP) (B : Nat) (v : Value) (w : World) (hB : B ≤ w.heap.size) (hg : GraphLies B w v g) (hd : (g.nodes.map NodeP.id).Nodup) (hi : ∀ n ∈ g.nodes, I64 n.id) (hi2 : ∀ r ∈ g.rels, I64 r.fr ∧ I64 r.tt) : Calls Tryz.prog 105 #[v] w fun e w' => e = .returned (.bool (endsB (idsE g.nodes) g.rels)) ∧ Below w.heap.size w w' := by
  have hmk : ∀ W : World, (Instr.makeMap 198 none).run Tryz.prog W = .ok (.map (some W.heap.size)) (W.alloc (.map #[] 0)) := fun W => rfl
  obtain ⟨na, nc, ra, rc, rfl, hn, hr⟩ := hg
  obtain ⟨res, hres⟩ : ∃ r, endsB (idsE g.nodes) g.rels = r := ⟨_, rfl⟩
  have HR := hidE hres
  rw [hres]
  clear hres
  obtain ⟨ns, rs, nn, nr⟩ := g
  simp only at hn hr hd hi hi2 HR ⊢
  obtain ⟨a', c', e1, h1, h2, hp3⟩ := hn
  obtain ⟨rfl, rfl⟩ : na = a' ∧ nc = c' := by injection e1 with e1 _ e2; exact ⟨e1, e2⟩
  obtain ⟨a', c', e2, r1, r2, hq3⟩ := hr
  obtain ⟨rfl, rfl⟩ : ra = a' ∧ rc = c' := by injection e2 with e1 _ e2; exact ⟨e1, e2⟩
  have HP := hidE hp3
  have HQ := hidE hq3
  have HD := hidE hd
  have HI := hidE hi
  have HI2 := hidE hi2
  obtain ⟨n, hn⟩ : ∃ n, ns.length = n := ⟨_, rfl⟩
  have HN := hidE hn
  obtain ⟨m, hm⟩ : ∃ m, rs.length = m := ⟨_, rfl⟩
  have HM := hidE hm
  rw [hn] at h1
  rw [hm] at r1
  rw [hn, hm]
  clear hp3 hq3 hn hm e1 e2 hd hi hi2
  go_enter Tryz.func105, Tryz.ntmps105
  go_upto_region 2 with fail
  generalize hW1 : World.alloc _ _ = W1
  have hj : EnJ w #[.slice na n nc, .slice ra m rc, .int .i64 nn, .int .i64 nr] [] W1 := by
    rw [← hW1]
    have hr1 := rec_new w #[.slice na n nc, .slice ra m rc, .int .i64 nn, .int .i64 nr] 25
    refine ⟨hr1.below ((Below.refl _ _).alloc (Nat.le_refl _) _) hr1.lt, ?_, ?_⟩
    · have := mi_none (w.alloc (.cells #[.slice na n nc, .slice ra m rc, .int .i64 nn, .int .i64 nr] 25))
      rw [World.size_alloc] at this
      exact this
    · exact ((Below.refl _ w).alloc (Nat.le_refl _) _).alloc (by simp) _
  have HJ := hidE hj
  have q0 := hj.box.cell 0 rfl
  clear hW1 hj hmk
  go_wp2_with fail
  clear q0
  go_loopw [16] (fun i wr => ∃ j : Nat, j ≤ n ∧ i = .int .i64 j ∧ EnJ w #[.slice na n nc, .slice ra m rc, .int .i64 nn, .int .i64 nr] (idsE (ns.take j)) wr) (fun i _ => n - (intOf i).toNat)
  case atStart => exact ⟨0, Nat.zero_le _, rfl, HJ.out⟩
  case round =>
    obtain ⟨j, hj, rfl, hjr⟩ := hrel
    have HJR := hidE hjr
    have HBW := hidE hjr.keep
    have q1 := hjr.box.cell 1 rfl
    clear hjr HJ
    by_cases hlt : j < n
    · have hlt' : (j : Int) < n := by omega
      obtain ⟨⟨xi, xl, xp⟩, hx⟩ : ∃ q, ns[j]? = some q := ⟨_, List.getElem?_eq_getElem (by have := HN.out; omega)⟩
      obtain ⟨bl, off, rfl, hbl, hc⟩ := HP.out.resolve_left (by intro e; rw [e] at hx; simp at hx)
      obtain ⟨la, lc, pv, ⟨c0, c1, c2⟩, _, _, hp⟩ := (hc j _ hx).below (HBW.out.mono hB) hbl
      simp only at c0 c1 c2 hp
      obtain ⟨pa, pc, rfl, _, _, _⟩ := hp
      have hxi : I64 xi := HI.out _ (List.mem_of_getElem? hx)
      have hnew : ∀ p ∈ idsE (ns.take j), p.1 ≠ xi := by
        intro p hp e
        unfold idsE at hp
        obtain ⟨a, ha, rfl⟩ := List.mem_map.1 hp
        obtain ⟨i, hi, hai⟩ := List.mem_take_iff_getElem.1 ha
        have hjl := (List.getElem?_eq_some_iff.1 hx).1
        have hjx := (List.getElem?_eq_some_iff.1 hx).2
        have h0 := List.pairwise_iff_getElem.1 HD.out i j (by simp; omega) (by simpa using hjl) (by omega)
        apply h0
        rw [List.getElem_map, List.getElem_map, hai, hjx]
        exact e
      have HNX : Hid (idsE (ns.take j) ++ [(xi, .agg #[])] = idsE (ns.take (j + 1))) := by
        show _ = _
        unfold idsE
        rw [List.take_add_one, hx]
        simp
      clear hc hx q1
      go_upto_region 5 with fail
      generalize hW2 : World.alloc _ _ = W2
      have hr2 := rec_new wr #[.int .i64 xi, .slice la xl.length lc, .slice pa xp.length pc] 73
      rw [hW2] at hr2
      have HB2 : Hid (Below wr.heap.size wr W2) := by rw [← hW2]; exact (Below.refl _ _).alloc (Nat.le_refl _) _
      have k0 := hr2.cell 0 rfl
      have HJ2 := hidE (HJR.out.below HB2.out)
      obtain ⟨w9, hrun, hm9, hsz9, hot9, hbe9⟩ := mi_new Tryz.underlying198' HJ2.out.map xi (.agg #[]) hxi hnew
      have HJ9 : Hid (EnJ w #[.slice (some ⟨bl, off, none⟩) n nc, .slice ra m rc, .int .i64 nn, .int .i64 nr] (idsE (ns.take (j + 1))) w9) := ⟨HJ2.out.box.keep (hot9 _ (by omega)), HNX.out ▸ hm9, HJ2.out.keep.trans (hbe9.mono (by omega))⟩
      clear hW2 hr2 c0 c1 c2 hm9 hsz9 hot9 hbe9 hnew
      go_wp2_with fail
      go_roundw
      case rel => exact ⟨j + 1, by omega, by go_num, HJ9.out⟩
      case measure => simp [intOf]; omega
    · have hlt' : ¬ (j : Int) < n := by omega
      have HJA : Hid (EnJ w #[.slice na n nc, .slice ra m rc, .int .i64 nn, .int .i64 nr] (idsE ns) wr) := by
        have := HJR.out
        rwa [List.take_of_length_le (by have := HN.out; omega)] at this
      go_wp2_with fail
      clear hlt hlt' hj HBW q1 HJR
      go_loopw [28] (fun i wr => ∃ j : Nat, j ≤ m ∧ i = .int .i64 j ∧ EnJ w #[.slice na n nc, .slice ra m rc, .int .i64 nn, .int .i64 nr] (idsE ns) wr ∧ endsB (idsE ns) (rs.drop j) = res) (fun i _ => m - (intOf i).toNat)
      case atStart => exact ⟨0, Nat.zero_le _, rfl, HJA.out, HR.out⟩
      case round =>
        clear HJA
        obtain ⟨j, hj, rfl, hjr, hrs⟩ := hrel
        have HJR := hidE hjr
        have HBW := hidE hjr.keep
        have HRS := hidE hrs
        clear hjr hrs
        by_cases hlt : j < m
        · have hlt' : (j : Int) < m := by omega
          obtain ⟨⟨xi, fr, tt, ty, xp⟩, hx⟩ : ∃ q, rs[j]? = some q := ⟨_, List.getElem?_eq_getElem (by have := HM.out; omega)⟩
          obtain ⟨bl, off, rfl, hbl, hc⟩ := HQ.out.resolve_left (by intro e; rw [e] at hx; simp at hx)
          obtain ⟨pv, ⟨c0, c1, c2, c3, c4⟩, _, hp⟩ := (hc j _ hx).below (HBW.out.mono hB) hbl
          simp only at c0 c1 c2 c3 c4 hp
          obtain ⟨pa, pc, rfl, _, _, _⟩ := hp
          have hif := HI2.out _ (List.mem_of_getElem? hx)
          simp only at hif
          obtain ⟨b1, hb1⟩ : ∃ b, hasB fr (idsE ns) = b := ⟨_, rfl⟩
          obtain ⟨b2, hb2⟩ : ∃ b, hasB tt (idsE ns) = b := ⟨_, rfl⟩
          have HE2 : Hid (res = (b1 && (b2 && endsB (idsE ns) (rs.drop (j + 1))))) := by
            show _ = _
            rw [← HRS.out, endsB_at hx, ← hb1, ← hb2]
          have HL1 : Hid (∀ W, MI W (w.heap.size + 1) (idsE ns) → (Instr.lookup 198 (.map (some (w.heap.size + 1))) (.int .i64 fr) true).run Tryz.prog W = .ok (.tuple #[.agg #[], .bool b1]) W) := fun W h => by rw [← hb1]; exact ids_look h fr hif.1
          have HL2 : Hid (∀ W, MI W (w.heap.size + 1) (idsE ns) → (Instr.lookup 198 (.map (some (w.heap.size + 1))) (.int .i64 tt) true).run Tryz.prog W = .ok (.tuple #[.agg #[], .bool b2]) W) := fun W h => by rw [← hb2]; exact ids_look h tt hif.2
          clear hc hx hb1 hb2 hif
          go_upto_region 10 with fail
          generalize hW2 : World.alloc _ _ = W2
          have hr2 := rec_new wr #[.int .i64 xi, .int .i64 fr, .int .i64 tt, .string ty, .slice pa xp.length pc] 71
          rw [hW2] at hr2
          have HR2 := hidE hr2
          have HB2 : Hid (Below wr.heap.size wr W2) := by rw [← hW2]; exact (Below.refl _ _).alloc (Nat.le_refl _) _
          have HJ2 := hidE (HJR.out.below HB2.out)
          have k1 := hr2.cell 1 rfl
          have l1 := HL1.out W2 HJ2.out.map
          clear hW2 hr2 c0 c1 c2 c3 c4
          go_upto_region 11 with fail
          generalize hW3 : World.alloc _ _ = W3
          have HB3 : Hid (Below W2.heap.size W2 W3) := by rw [← hW3]; exact (Below.refl _ _).alloc (Nat.le_refl _) _
          have HJ3 := hidE (HJ2.out.below HB3.out)
          have k2 := (HR2.out.below HB3.out HR2.out.lt).cell 2 rfl
          have l2 := HL2.out W3 HJ3.out.map
          clear hW3 k1 l1
          go_upto_region 12 with fail
          generalize hW4 : World.alloc _ _ = W4
          have HB4 : Hid (Below W3.heap.size W3 W4) := by rw [← hW4]; exact (Below.refl _ _).alloc (Nat.le_refl _) _
          have HJ4 := hidE (HJ3.out.below HB4.out)
          clear hW4 k2 l2
          cases b1 with
          | false =>
            have HF : Hid (res = false) := HE2.out
            go_wp2_with fail
            go_ret
            exact ⟨by rw [HF.out]; rfl, HJ4.out.keep⟩
          | true =>
            cases b2 with
            | false =>
              have HF : Hid (res = false) := HE2.out
              go_wp2_with fail
              go_ret
              exact ⟨by rw [HF.out]; rfl, HJ4.out.keep⟩
            | true =>
              have HN2 : Hid (endsB (idsE ns) (rs.drop (j + 1)) = res) := HE2.out.symm
              go_wp2_with fail
              go_roundw
              case rel => exact ⟨j + 1, by omega, by go_num, HJ4.out, HN2.out⟩
              case measure => simp [intOf]; omega
        · have HF : Hid (res = true) := by
            show _ = _
            rw [← HRS.out, List.drop_of_length_le (by have := HM.out; omega)]; rfl
          have hlt' : ¬ (j : Int) < m := by omega
          go_wp2_with fail
          go_ret
          exact ⟨by rw [HF.out]; rfl, HBW.out⟩
end Go.Proofs.YthfilnflgahcjaaGreatDoor

namespace Go.Proofs.YthfilnflgahcjaaGreatDoor
open Go.RowKit Go.Shelf
set_option linter.unusedVariables false
set_option linter.unusedSimpArgs false
attribute [local go_sem] Oper.semAt_some
theorem i64_of {k : Int} (h1 : -9223372036854775808 ≤ k) (h2 : k ≤ 9223372036854775807) : I64 k := by
  have a : IntKind.i64.min = -9223372036854775808 := by kernel_rfl
  have b : IntKind.i64.max = 9223372036854775807 := by kernel_rfl
  unfold I64 Lit.wf
  simp [a, b]
  omega
/-- Numbers that rise lie between. -/
theorem riseI_all {next : Int} : ∀ {ks : List Int} {l : Int}, riseI next l ks = true → (∀ x ∈ ks, l ≤ x ∧ x < next) ∧ ks.Pairwise (· ≠ ·)
  | [], l, h => ⟨fun x hx => by simp at hx, List.Pairwise.nil⟩
  | y :: r, l, h => by
    rw [riseI] at h
    simp only [Bool.and_eq_true, Bool.not_eq_true', decide_eq_false_iff_not] at h
    obtain ⟨h1, h2, h3⟩ := h
    obtain ⟨h4, h5⟩ := riseI_all h3
    refine ⟨fun x hx => ?_, List.pairwise_cons.2 ⟨fun x hx => by have := h4 x hx; omega, h5⟩⟩
    rcases List.mem_cons.1 hx with rfl | hx
    · omega
    · have := h4 x hx; omega
/-- May a graph be: the six rules. -/
def checkPB (g : GraphP) : Bool := decide ((g.nodes.length : Int) + (g.rels.length : Int) ≤ 65536) && ((riseI g.nn 0 (g.nodes.map NodeP.id) && riseI g.nr 0 (g.rels.map RelP.id)) && (labelsB g.nodes && ((nodePropsB g.nodes && relPropsB g.rels) && (typesB g.rels && endsB (idsE g.nodes) g.rels))))
set_option maxRecDepth 100000 in
set_option maxHeartbeats 4000000 in
theorem checkP_any (g : GraphP) (B : Nat) (v : Value) (w : World) (hB : B ≤ w.heap.size) (hE : Env w) (hg : GraphLies B w v g) (hz : Mild g) (hn1 : -9223372036854775808 ≤ g.nn ∧ g.nn ≤ 9223372036854775807) (hn2 : -9223372036854775808 ≤ g.nr ∧ g.nr ≤ 9223372036854775807) (hi2 : ∀ r ∈ g.rels, I64 r.fr ∧ I64 r.tt) : Calls Tryz.prog 13 #[v] w fun e w' => e = .returned (.int .i64 (if checkPB g = true then 0 else 2)) ∧ Below w.heap.size w w' := by
  have HE := hidE hE
  obtain ⟨res, hres⟩ : ∃ r, checkPB g = r := ⟨_, rfl⟩
  rw [hres]
  obtain ⟨code, hcode⟩ : ∃ c : Int, (if res = true then 0 else 2) = c := ⟨_, rfl⟩
  rw [hcode]
  have HCD := hidE hcode
  clear hcode
  unfold checkPB at hres
  have hg0 := hg
  obtain ⟨na, nc, ra, rc, rfl, _, _⟩ := hg0
  have HC0 : Hid (∀ W, Below w.heap.size w W → Calls Tryz.prog 100 #[.agg #[.slice na g.nodes.length nc, .slice ra g.rels.length rc, .int .i64 g.nn, .int .i64 g.nr]] W fun e w' => e = .returned (.bool (decide ((g.nodes.length : Int) + (g.rels.length : Int) ≤ 65536))) ∧ Below W.heap.size W w') := fun W hb => gfew_any g B _ W (by have := hb.size; omega) (HE.out.below hb HE.out.room) (hg.below (hb.mono hB)) hz
  have HC1 : Hid (∀ W, Below w.heap.size w W → Calls Tryz.prog 101 #[.agg #[.slice na g.nodes.length nc, .slice ra g.rels.length rc, .int .i64 g.nn, .int .i64 g.nr]] W fun e w' => e = .returned (.bool ((riseI g.nn 0 (g.nodes.map NodeP.id) && riseI g.nr 0 (g.rels.map RelP.id)))) ∧ Below W.heap.size W w') := fun W hb => numbers_any g B _ W (by have := hb.size; omega) (hg.below (hb.mono hB)) hn1 hn2
  have HC2 : Hid (∀ W, Below w.heap.size w W → Calls Tryz.prog 102 #[.agg #[.slice na g.nodes.length nc, .slice ra g.rels.length rc, .int .i64 g.nn, .int .i64 g.nr]] W fun e w' => e = .returned (.bool (labelsB g.nodes)) ∧ Below W.heap.size W w') := fun W hb => labels_any g B _ W (by have := hb.size; omega) (HE.out.below hb HE.out.room) (hg.below (hb.mono hB)) hz
  have HC3 : Hid (∀ W, Below w.heap.size w W → Calls Tryz.prog 103 #[.agg #[.slice na g.nodes.length nc, .slice ra g.rels.length rc, .int .i64 g.nn, .int .i64 g.nr]] W fun e w' => e = .returned (.bool ((nodePropsB g.nodes && relPropsB g.rels))) ∧ Below W.heap.size W w') := fun W hb => props_any g B _ W (by have := hb.size; omega) (HE.out.below hb HE.out.room) (hg.below (hb.mono hB)) hz
  have HC4 : Hid (∀ W, Below w.heap.size w W → Calls Tryz.prog 104 #[.agg #[.slice na g.nodes.length nc, .slice ra g.rels.length rc, .int .i64 g.nn, .int .i64 g.nr]] W fun e w' => e = .returned (.bool (typesB g.rels)) ∧ Below W.heap.size W w') := fun W hb => types_any g B _ W (by have := hb.size; omega) (HE.out.below hb HE.out.room) (hg.below (hb.mono hB)) hz
  have HC5 : Hid ((riseI g.nn 0 (g.nodes.map NodeP.id) && riseI g.nr 0 (g.rels.map RelP.id)) = true → ∀ W, Below w.heap.size w W → Calls Tryz.prog 105 #[.agg #[.slice na g.nodes.length nc, .slice ra g.rels.length rc, .int .i64 g.nn, .int .i64 g.nr]] W fun e w' => e = .returned (.bool (endsB (idsE g.nodes) g.rels)) ∧ Below W.heap.size W w') := fun hk W hb => by
    have hk1 := riseI_all (Bool.and_eq_true_iff.1 hk).1
    exact gends_any g B _ W (by have := hb.size; omega) (hg.below (hb.mono hB)) hk1.2 (fun n hn => by
      have := hk1.1 n.id (List.mem_map_of_mem hn)
      exact i64_of (by omega) (by omega)) hi2
  obtain ⟨b0, hb0⟩ : ∃ b, decide ((g.nodes.length : Int) + (g.rels.length : Int) ≤ 65536) = b := ⟨_, rfl⟩
  obtain ⟨b1, hb1⟩ : ∃ b, (riseI g.nn 0 (g.nodes.map NodeP.id) && riseI g.nr 0 (g.rels.map RelP.id)) = b := ⟨_, rfl⟩
  obtain ⟨b2, hb2⟩ : ∃ b, labelsB g.nodes = b := ⟨_, rfl⟩
  obtain ⟨b3, hb3⟩ : ∃ b, (nodePropsB g.nodes && relPropsB g.rels) = b := ⟨_, rfl⟩
  obtain ⟨b4, hb4⟩ : ∃ b, typesB g.rels = b := ⟨_, rfl⟩
  obtain ⟨b5, hb5⟩ : ∃ b, endsB (idsE g.nodes) g.rels = b := ⟨_, rfl⟩
  rw [hb0] at HC0
  rw [hb1] at HC1
  rw [hb2] at HC2
  rw [hb3] at HC3
  rw [hb4] at HC4
  rw [hb1, hb5] at HC5
  rw [hb0, hb1, hb2, hb3, hb4, hb5] at hres
  have HR := hidE hres
  clear hb0 hb1 hb2 hb3 hb4 hb5 hres hg hz hn1 hn2 hi2
  obtain ⟨ns, rs, nn, nr⟩ := g
  simp only at HC0 HC1 HC2 HC3 HC4 HC5 ⊢
  generalize ns.length = n at *
  generalize rs.length = m at *
  go_enter Tryz.func13, Tryz.ntmps13
  go_upto_region 1 with fail
  generalize hW1 : World.alloc _ _ = W1
  have hr1 := rec_new w #[.slice na n nc, .slice ra m rc, .int .i64 nn, .int .i64 nr] 25
  rw [hW1] at hr1
  have HB1 : Hid (Below w.heap.size w W1) := by rw [← hW1]; exact (Below.refl _ _).alloc (Nat.le_refl _) _
  have HR1 := hidE hr1
  clear hW1 hr1
  go_wp2_with fail
  refine (rules_any _).mono ?_
  rintro e w2 ⟨rfl, hb2, ht2⟩
  have HC2w := hidE hb2
  have HT := hidE ht2
  obtain ⟨p, hp⟩ : ∃ p, W1.heap.size = p := ⟨_, rfl⟩
  have hpl : p < w2.heap.size := by
    rw [← hp]
    exact lt_of_cell (ht2 0 _ rfl)
  rw [hp] at HT ⊢
  clear hb2 ht2 hp
  go_wp2_with fail
  go_loopw [7] (fun x wr => ∃ q : Nat, q ≤ 6 ∧ x = .int .i64 q ∧ Below w2.heap.size w2 wr ∧ (([b0, b1, b2, b3, b4, b5].drop q).all id) = res ∧ (2 ≤ q → b1 = true)) (fun x _ => 6 - (intOf x).toNat)
  case atStart => exact ⟨0, by omega, rfl, Below.refl _ _, by rw [← HR.out]; simp, fun h => by omega⟩
  case round =>
    obtain ⟨q, hq, rfl, hb, hrs, hq2⟩ := hrel
    have HB := hidE hb
    have HRS := hidE hrs
    have HQ2 := hidE hq2
    have HBW := hidE (below_on HB1.out (below_on HC2w.out hb))
    have hrec := HR1.out.below (below_on HC2w.out hb) HR1.out.lt
    have a0 := hrec.cell 0 rfl
    have a1 := hrec.cell 1 rfl
    have a2 := hrec.cell 2 rfl
    have a3 := hrec.cell 3 rfl
    clear hb hrs hq2 hrec
    have hcs : q = 0 ∨ q = 1 ∨ q = 2 ∨ q = 3 ∨ q = 4 ∨ q = 5 ∨ q = 6 := by omega
    rcases hcs with rfl | rfl | rfl | rfl | rfl | rfl | rfl
    · have k0 := cell_below HB.out (Nat.le_refl _) (HT.out 0 _ rfl)
      have HCX := hidE (HC0.out wr HBW.out)
      go_wp2_with fail
      refine HCX.out.mono ?_
      rintro e w3 ⟨rfl, hb3⟩
      have HB3 := hidE (below_on HB.out hb3)
      have HBW3 := hidE (below_on HBW.out hb3)
      clear hb3 a0 a1 a2 a3 k0 HCX
      cases b0 with
      | false =>
        have HF : Hid (code = 2) := by
          show _ = _
          have e : res = false := by rw [← HRS.out]; rfl
          rw [← HCD.out, e]; rfl
        go_wp2_with fail
        go_ret
        exact ⟨by rw [HF.out]; rfl, HBW3.out⟩
      | true =>
        have HN2 := hidE HRS.out
        go_wp2_with fail
        go_roundw
        case rel => exact ⟨1, by omega, rfl, HB3.out, HN2.out, fun h => by omega⟩
        case measure => simp [intOf]
    · have k0 := cell_below HB.out (Nat.le_refl _) (HT.out 1 _ rfl)
      have HCX := hidE (HC1.out wr HBW.out)
      go_wp2_with fail
      refine HCX.out.mono ?_
      rintro e w3 ⟨rfl, hb3⟩
      have HB3 := hidE (below_on HB.out hb3)
      have HBW3 := hidE (below_on HBW.out hb3)
      clear hb3 a0 a1 a2 a3 k0 HCX
      cases b1 with
      | false =>
        have HF : Hid (code = 2) := by
          show _ = _
          have e : res = false := by rw [← HRS.out]; rfl
          rw [← HCD.out, e]; rfl
        go_wp2_with fail
        go_ret
        exact ⟨by rw [HF.out]; rfl, HBW3.out⟩
      | true =>
        have HN2 := hidE HRS.out
        go_wp2_with fail
        go_roundw
        case rel => exact ⟨2, by omega, rfl, HB3.out, HN2.out, fun h => trivial⟩
        case measure => simp [intOf]
    · have k0 := cell_below HB.out (Nat.le_refl _) (HT.out 2 _ rfl)
      have HCX := hidE (HC2.out wr HBW.out)
      go_wp2_with fail
      refine HCX.out.mono ?_
      rintro e w3 ⟨rfl, hb3⟩
      have HB3 := hidE (below_on HB.out hb3)
      have HBW3 := hidE (below_on HBW.out hb3)
      clear hb3 a0 a1 a2 a3 k0 HCX
      cases b2 with
      | false =>
        have HF : Hid (code = 2) := by
          show _ = _
          have e : res = false := by rw [← HRS.out]; rfl
          rw [← HCD.out, e]; rfl
        go_wp2_with fail
        go_ret
        exact ⟨by rw [HF.out]; rfl, HBW3.out⟩
      | true =>
        have HN2 := hidE HRS.out
        go_wp2_with fail
        go_roundw
        case rel => exact ⟨3, by omega, rfl, HB3.out, HN2.out, fun h => HQ2.out (by omega)⟩
        case measure => simp [intOf]
    · have k0 := cell_below HB.out (Nat.le_refl _) (HT.out 3 _ rfl)
      have HCX := hidE (HC3.out wr HBW.out)
      go_wp2_with fail
      refine HCX.out.mono ?_
      rintro e w3 ⟨rfl, hb3⟩
      have HB3 := hidE (below_on HB.out hb3)
      have HBW3 := hidE (below_on HBW.out hb3)
      clear hb3 a0 a1 a2 a3 k0 HCX
      cases b3 with
      | false =>
        have HF : Hid (code = 2) := by
          show _ = _
          have e : res = false := by rw [← HRS.out]; rfl
          rw [← HCD.out, e]; rfl
        go_wp2_with fail
        go_ret
        exact ⟨by rw [HF.out]; rfl, HBW3.out⟩
      | true =>
        have HN2 := hidE HRS.out
        go_wp2_with fail
        go_roundw
        case rel => exact ⟨4, by omega, rfl, HB3.out, HN2.out, fun h => HQ2.out (by omega)⟩
        case measure => simp [intOf]
    · have k0 := cell_below HB.out (Nat.le_refl _) (HT.out 4 _ rfl)
      have HCX := hidE (HC4.out wr HBW.out)
      go_wp2_with fail
      refine HCX.out.mono ?_
      rintro e w3 ⟨rfl, hb3⟩
      have HB3 := hidE (below_on HB.out hb3)
      have HBW3 := hidE (below_on HBW.out hb3)
      clear hb3 a0 a1 a2 a3 k0 HCX
      cases b4 with
      | false =>
        have HF : Hid (code = 2) := by
          show _ = _
          have e : res = false := by rw [← HRS.out]; rfl
          rw [← HCD.out, e]; rfl
        go_wp2_with fail
        go_ret
        exact ⟨by rw [HF.out]; rfl, HBW3.out⟩
      | true =>
        have HN2 := hidE HRS.out
        go_wp2_with fail
        go_roundw
        case rel => exact ⟨5, by omega, rfl, HB3.out, HN2.out, fun h => HQ2.out (by omega)⟩
        case measure => simp [intOf]
    · have k0 := cell_below HB.out (Nat.le_refl _) (HT.out 5 _ rfl)
      have HCX := hidE (HC5.out (HQ2.out (by omega)) wr HBW.out)
      go_wp2_with fail
      refine HCX.out.mono ?_
      rintro e w3 ⟨rfl, hb3⟩
      have HB3 := hidE (below_on HB.out hb3)
      have HBW3 := hidE (below_on HBW.out hb3)
      clear hb3 a0 a1 a2 a3 k0 HCX
      cases b5 with
      | false =>
        have HF : Hid (code = 2) := by
          show _ = _
          have e : res = false := by rw [← HRS.out]; rfl
          rw [← HCD.out, e]; rfl
        go_wp2_with fail
        go_ret
        exact ⟨by rw [HF.out]; rfl, HBW3.out⟩
      | true =>
        have HN2 := hidE HRS.out
        go_wp2_with fail
        go_roundw
        case rel => exact ⟨6, by omega, rfl, HB3.out, HN2.out, fun h => HQ2.out (by omega)⟩
        case measure => simp [intOf]
    · have HF : Hid (code = 0) := by
        show _ = _
        have e : res = true := by rw [← HRS.out]; rfl
        rw [← HCD.out, e]; rfl
      go_wp2_with fail
      go_ret
      exact ⟨by rw [HF.out]; rfl, HBW.out⟩
end Go.Proofs.YthfilnflgahcjaaGreatDoor

