/- Both ends are there: the program's word. May a graph be: the program's word. A graph's counts (Count 11). The text of the number one. -/
import Derived.Test.YthfilnflgahcjaaGreatDoorJoin23
import Derived.Test.YthfilnflgahcjaaGreatDoorJoin15
import Derived.Test.YthfilnflgahcjaaGreatDoorJoin10
import Derived.Test.YthfilnflgahcjaaGreatDoorJoin9
import Derived.Test.YthfilnflgahcjaaGreatDoorSkc
import Derived.Test.YthfilnflgahcjaaGreatDoorJoin16
import Derived.Test.YthfilnflgahcjaaGreatDoorJoin8
namespace Go.Proofs.YthfilnflgahcjaaGreatDoor
open Go.RowKit Go.Shelf
set_option linter.unusedVariables false
set_option linter.unusedSimpArgs false
attribute [local go_sem] Oper.semAt_some
theorem Tryz.underlying198' : Tryz.prog.underlying 198 = some (.map 2 164) := by kernel_rfl
/-- The numbers of nodes, as a map's entries. -/
def idsE (ns : List NodeP) : List (Int × Value) := ns.map fun n => (n.id, .agg #[])
/-- Are both ends there, of all? -/
def endsB (es : List (Int × Value)) : List RelP → Bool
  | [] => true
  | r :: t => hasB r.fr es && (hasB r.tt es && endsB es t)
theorem endsB_at {es : List (Int × Value)} {rs : List RelP} {j : Nat} {r : RelP} (h : rs[j]? = some r) : endsB es (rs.drop j) = (hasB r.fr es && (hasB r.tt es && endsB es (rs.drop (j + 1)))) := by
  obtain ⟨hj, hx⟩ := List.getElem?_eq_some_iff.1 h
  rw [List.drop_eq_getElem_cons hj, hx, endsB]
/-- A number that is there is told so. -/
theorem ids_look {w : World} {b : Nat} {ns : List NodeP} (h : MI w b (idsE ns)) (k : Int) (hk : I64 k) : (Instr.lookup 198 (.map (some b)) (.int .i64 k) true).run Tryz.prog w = .ok (.tuple #[.agg #[], .bool (hasB k (idsE ns))]) w := by
  obtain ⟨v, hv, he⟩ := mi_look Tryz.underlying198' zero173 h k hk (fun p hp q hq _ => by
    unfold idsE at hp hq
    obtain ⟨a, _, rfl⟩ := List.mem_map.1 hp
    obtain ⟨c, _, rfl⟩ := List.mem_map.1 hq
    rfl)
  have e : v = .agg #[] := by
    rcases hv with ⟨q, hq, _, rfl⟩ | rfl
    · unfold idsE at hq
      obtain ⟨a, _, rfl⟩ := List.mem_map.1 hq
      rfl
    · rfl
  rw [e] at he
  exact he
/-- In the midst of it. -/
structure EnJ (w : World) (cs : Array Value) (es : List (Int × Value)) (wr : World) : Prop where
  box : Rec wr w.heap.size cs 25
  map : MI wr (w.heap.size + 1) es
  keep : Below w.heap.size w wr
theorem EnJ.below {w wr wz : World} {cs : Array Value} {es : List (Int × Value)} (h : EnJ w cs es wr) (hb : Below wr.heap.size wr wz) : EnJ w cs es wz := ⟨h.box.below hb h.box.lt, h.map.below hb (Nat.le_refl _), below_on h.keep hb⟩
set_option maxRecDepth 100000 in
set_option maxHeartbeats 4000000 in
theorem gends_any (g : GraphP) (B : Nat) (v : Value) (w : World) (hB : B ≤ w.heap.size) (hg : GraphLies B w v g) (hd : (g.nodes.map NodeP.id).Nodup) (hi : ∀ n ∈ g.nodes, I64 n.id) (hi2 : ∀ r ∈ g.rels, I64 r.fr ∧ I64 r.tt) : Calls Tryz.prog 105 #[v] w fun e w' => e = .returned (.bool (endsB (idsE g.nodes) g.rels)) ∧ Below w.heap.size w w' := by
  have hmk : ∀ W : World, (Instr.makeMap 198 none).run Tryz.prog W = .ok (.map (some W.heap.size)) (W.alloc (.map #[] 0)) := fun W => rfl
  obtain ⟨na, nc, ra, rc, rfl, hn, hr⟩ := hg
  obtain ⟨res, hres⟩ : ∃ r, endsB (idsE g.nodes) g.rels = r := ⟨_, rfl⟩
  have HR := hidE hres
  rw [hres]
  clear hres
  obtain ⟨ns, rs, nn, nr⟩ := g
  simp only at hn hr hd hi hi2 HR ⊢
  obtain ⟨a', c', e1, h1, h2, hp3⟩ := hn
  obtain ⟨rfl, rfl⟩ : na = a' ∧ nc = c' := by injection e1 with e1 _ e2; exact ⟨e1, e2⟩
  obtain ⟨a', c', e2, r1, r2, hq3⟩ := hr
  obtain ⟨rfl, rfl⟩ : ra = a' ∧ rc = c' := by injection e2 with e1 _ e2; exact ⟨e1, e2⟩
  have HP := hidE hp3
  have HQ := hidE hq3
  have HD := hidE hd
  have HI := hidE hi
  have HI2 := hidE hi2
  obtain ⟨n, hn⟩ : ∃ n, ns.length = n := ⟨_, rfl⟩
  have HN := hidE hn
  obtain ⟨m, hm⟩ : ∃ m, rs.length = m := ⟨_, rfl⟩
  have HM := hidE hm
  rw [hn] at h1
  rw [hm] at r1
  rw [hn, hm]
  clear hp3 hq3 hn hm e1 e2 hd hi hi2
  go_enter Tryz.func105, Tryz.ntmps105
  go_upto_region 2 with fail
  generalize hW1 : World.alloc _ _ = W1
  have hj : EnJ w #[.slice na n nc, .slice ra m rc, .int .i64 nn, .int .i64 nr] [] W1 := by
    rw [← hW1]
    have hr1 := rec_new w #[.slice na n nc, .slice ra m rc, .int .i64 nn, .int .i64 nr] 25
    refine ⟨hr1.below ((Below.refl _ _).alloc (Nat.le_refl _) _) hr1.lt, ?_, ?_⟩
    · have := mi_none (w.alloc (.cells #[.slice na n nc, .slice ra m rc, .int .i64 nn, .int .i64 nr] 25))
      rw [World.size_alloc] at this
      exact this
    · exact ((Below.refl _ w).alloc (Nat.le_refl _) _).alloc (by simp) _
  have HJ := hidE hj
  have q0 := hj.box.cell 0 rfl
  clear hW1 hj hmk
  go_wp2_with fail
  clear q0
  go_loopw [16] (fun i wr => ∃ j : Nat, j ≤ n ∧ i = .int .i64 j ∧ EnJ w #[.slice na n nc, .slice ra m rc, .int .i64 nn, .int .i64 nr] (idsE (ns.take j)) wr) (fun i _ => n - (intOf i).toNat)
  case atStart => exact ⟨0, Nat.zero_le _, rfl, HJ.out⟩
  case round =>
    obtain ⟨j, hj, rfl, hjr⟩ := hrel
    have HJR := hidE hjr
    have HBW := hidE hjr.keep
    have q1 := hjr.box.cell 1 rfl
    clear hjr HJ
    by_cases hlt : j < n
    · have hlt' : (j : Int) < n := by omega
      obtain ⟨⟨xi, xl, xp⟩, hx⟩ : ∃ q, ns[j]? = some q := ⟨_, List.getElem?_eq_getElem (by have := HN.out; omega)⟩
      obtain ⟨bl, off, rfl, hbl, hc⟩ := HP.out.resolve_left (by intro e; rw [e] at hx; simp at hx)
      obtain ⟨la, lc, pv, ⟨c0, c1, c2⟩, _, _, hp⟩ := (hc j _ hx).below (HBW.out.mono hB) hbl
      simp only at c0 c1 c2 hp
      obtain ⟨pa, pc, rfl, _, _, _⟩ := hp
      have hxi : I64 xi := HI.out _ (List.mem_of_getElem? hx)
      have hnew : ∀ p ∈ idsE (ns.take j), p.1 ≠ xi := by
        intro p hp e
        unfold idsE at hp
        obtain ⟨a, ha, rfl⟩ := List.mem_map.1 hp
        obtain ⟨i, hi, hai⟩ := List.mem_take_iff_getElem.1 ha
        have hjl := (List.getElem?_eq_some_iff.1 hx).1
        have hjx := (List.getElem?_eq_some_iff.1 hx).2
        have h0 := List.pairwise_iff_getElem.1 HD.out i j (by simp; omega) (by simpa using hjl) (by omega)
        apply h0
        rw [List.getElem_map, List.getElem_map, hai, hjx]
        exact e
      have HNX : Hid (idsE (ns.take j) ++ [(xi, .agg #[])] = idsE (ns.take (j + 1))) := by
        show _ = _
        unfold idsE
        rw [List.take_add_one, hx]
        simp
      clear hc hx q1
      go_upto_region 5 with fail
      generalize hW2 : World.alloc _ _ = W2
      have hr2 := rec_new wr #[.int .i64 xi, .slice la xl.length lc, .slice pa xp.length pc] 73
      rw [hW2] at hr2
      have HB2 : Hid (Below wr.heap.size wr W2) := by rw [← hW2]; exact (Below.refl _ _).alloc (Nat.le_refl _) _
      have k0 := hr2.cell 0 rfl
      have HJ2 := hidE (HJR.out.below HB2.out)
      obtain ⟨w9, hrun, hm9, hsz9, hot9, hbe9⟩ := mi_new Tryz.underlying198' HJ2.out.map xi (.agg #[]) hxi hnew
      have HJ9 : Hid (EnJ w #[.slice (some ⟨bl, off, none⟩) n nc, .slice ra m rc, .int .i64 nn, .int .i64 nr] (idsE (ns.take (j + 1))) w9) := ⟨HJ2.out.box.keep (hot9 _ (by omega)), HNX.out ▸ hm9, HJ2.out.keep.trans (hbe9.mono (by omega))⟩
      clear hW2 hr2 c0 c1 c2 hm9 hsz9 hot9 hbe9 hnew
      go_wp2_with fail
      go_roundw
      case rel => exact ⟨j + 1, by omega, by go_num, HJ9.out⟩
      case measure => simp [intOf]; omega
    · have hlt' : ¬ (j : Int) < n := by omega
      have HJA : Hid (EnJ w #[.slice na n nc, .slice ra m rc, .int .i64 nn, .int .i64 nr] (idsE ns) wr) := by
        have := HJR.out
        rwa [List.take_of_length_le (by have := HN.out; omega)] at this
      go_wp2_with fail
      clear hlt hlt' hj HBW q1 HJR
      go_loopw [28] (fun i wr => ∃ j : Nat, j ≤ m ∧ i = .int .i64 j ∧ EnJ w #[.slice na n nc, .slice ra m rc, .int .i64 nn, .int .i64 nr] (idsE ns) wr ∧ endsB (idsE ns) (rs.drop j) = res) (fun i _ => m - (intOf i).toNat)
      case atStart => exact ⟨0, Nat.zero_le _, rfl, HJA.out, HR.out⟩
      case round =>
        clear HJA
        obtain ⟨j, hj, rfl, hjr, hrs⟩ := hrel
        have HJR := hidE hjr
        have HBW := hidE hjr.keep
        have HRS := hidE hrs
        clear hjr hrs
        by_cases hlt : j < m
        · have hlt' : (j : Int) < m := by omega
          obtain ⟨⟨xi, fr, tt, ty, xp⟩, hx⟩ : ∃ q, rs[j]? = some q := ⟨_, List.getElem?_eq_getElem (by have := HM.out; omega)⟩
          obtain ⟨bl, off, rfl, hbl, hc⟩ := HQ.out.resolve_left (by intro e; rw [e] at hx; simp at hx)
          obtain ⟨pv, ⟨c0, c1, c2, c3, c4⟩, _, hp⟩ := (hc j _ hx).below (HBW.out.mono hB) hbl
          simp only at c0 c1 c2 c3 c4 hp
          obtain ⟨pa, pc, rfl, _, _, _⟩ := hp
          have hif := HI2.out _ (List.mem_of_getElem? hx)
          simp only at hif
          obtain ⟨b1, hb1⟩ : ∃ b, hasB fr (idsE ns) = b := ⟨_, rfl⟩
          obtain ⟨b2, hb2⟩ : ∃ b, hasB tt (idsE ns) = b := ⟨_, rfl⟩
          have HE2 : Hid (res = (b1 && (b2 && endsB (idsE ns) (rs.drop (j + 1))))) := by
            show _ = _
            rw [← HRS.out, endsB_at hx, ← hb1, ← hb2]
          have HL1 : Hid (∀ W, MI W (w.heap.size + 1) (idsE ns) → (Instr.lookup 198 (.map (some (w.heap.size + 1))) (.int .i64 fr) true).run Tryz.prog W = .ok (.tuple #[.agg #[], .bool b1]) W) := fun W h => by rw [← hb1]; exact ids_look h fr hif.1
          have HL2 : Hid (∀ W, MI W (w.heap.size + 1) (idsE ns) → (Instr.lookup 198 (.map (some (w.heap.size + 1))) (.int .i64 tt) true).run Tryz.prog W = .ok (.tuple #[.agg #[], .bool b2]) W) := fun W h => by rw [← hb2]; exact ids_look h tt hif.2
          clear hc hx hb1 hb2 hif
          go_upto_region 10 with fail
          generalize hW2 : World.alloc _ _ = W2
          have hr2 := rec_new wr #[.int .i64 xi, .int .i64 fr, .int .i64 tt, .string ty, .slice pa xp.length pc] 71
          rw [hW2] at hr2
          have HR2 := hidE hr2
          have HB2 : Hid (Below wr.heap.size wr W2) := by rw [← hW2]; exact (Below.refl _ _).alloc (Nat.le_refl _) _
          have HJ2 := hidE (HJR.out.below HB2.out)
          have k1 := hr2.cell 1 rfl
          have l1 := HL1.out W2 HJ2.out.map
          clear hW2 hr2 c0 c1 c2 c3 c4
          go_upto_region 11 with fail
          generalize hW3 : World.alloc _ _ = W3
          have HB3 : Hid (Below W2.heap.size W2 W3) := by rw [← hW3]; exact (Below.refl _ _).alloc (Nat.le_refl _) _
          have HJ3 := hidE (HJ2.out.below HB3.out)
          have k2 := (HR2.out.below HB3.out HR2.out.lt).cell 2 rfl
          have l2 := HL2.out W3 HJ3.out.map
          clear hW3 k1 l1
          go_upto_region 12 with fail
          generalize hW4 : World.alloc _ _ = W4
          have HB4 : Hid (Below W3.heap.size W3 W4) := by rw [← hW4]; exact (Below.refl _ _).alloc (Nat.le_refl _) _
          have HJ4 := hidE (HJ3.out.below HB4.out)
          clear hW4 k2 l2
          cases b1 with
          | false =>
            have HF : Hid (res = false) := HE2.out
            go_wp2_with fail
            go_ret
            exact ⟨by rw [HF.out]; rfl, HJ4.out.keep⟩
          | true =>
            cases b2 with
            | false =>
              have HF : Hid (res = false) := HE2.out
              go_wp2_with fail
              go_ret
              exact ⟨by rw [HF.out]; rfl, HJ4.out.keep⟩
            | true =>
              have HN2 : Hid (endsB (idsE ns) (rs.drop (j + 1)) = res) := HE2.out.symm
              go_wp2_with fail
              go_roundw
              case rel => exact ⟨j + 1, by omega, by go_num, HJ4.out, HN2.out⟩
              case measure => simp [intOf]; omega
        · have HF : Hid (res = true) := by
            show _ = _
            rw [← HRS.out, List.drop_of_length_le (by have := HM.out; omega)]; rfl
          have hlt' : ¬ (j : Int) < m := by omega
          go_wp2_with fail
          go_ret
          exact ⟨by rw [HF.out]; rfl, HBW.out⟩
end Go.Proofs.YthfilnflgahcjaaGreatDoor

namespace Go.Proofs.YthfilnflgahcjaaGreatDoor
open Go.RowKit Go.Shelf
set_option linter.unusedVariables false
set_option linter.unusedSimpArgs false
attribute [local go_sem] Oper.semAt_some
theorem i64_of {k : Int} (h1 : -9223372036854775808 ≤ k) (h2 : k ≤ 9223372036854775807) : I64 k := by
  have a : IntKind.i64.min = -9223372036854775808 := by kernel_rfl
  have b : IntKind.i64.max = 9223372036854775807 := by kernel_rfl
  unfold I64 Lit.wf
  simp [a, b]
  omega
/-- Numbers that rise lie between. -/
theorem riseI_all {next : Int} : ∀ {ks : List Int} {l : Int}, riseI next l ks = true → (∀ x ∈ ks, l ≤ x ∧ x < next) ∧ ks.Pairwise (· ≠ ·)
  | [], l, h => ⟨fun x hx => by simp at hx, List.Pairwise.nil⟩
  | y :: r, l, h => by
    rw [riseI] at h
    simp only [Bool.and_eq_true, Bool.not_eq_true', decide_eq_false_iff_not] at h
    obtain ⟨h1, h2, h3⟩ := h
    obtain ⟨h4, h5⟩ := riseI_all h3
    refine ⟨fun x hx => ?_, List.pairwise_cons.2 ⟨fun x hx => by have := h4 x hx; omega, h5⟩⟩
    rcases List.mem_cons.1 hx with rfl | hx
    · omega
    · have := h4 x hx; omega
/-- May a graph be: the six rules. -/
def checkPB (g : GraphP) : Bool := decide ((g.nodes.length : Int) + (g.rels.length : Int) ≤ 65536) && ((riseI g.nn 0 (g.nodes.map NodeP.id) && riseI g.nr 0 (g.rels.map RelP.id)) && (labelsB g.nodes && ((nodePropsB g.nodes && relPropsB g.rels) && (typesB g.rels && endsB (idsE g.nodes) g.rels))))
set_option maxRecDepth 100000 in
set_option maxHeartbeats 4000000 in
theorem checkP_any (g : GraphP) (B : Nat) (v : Value) (w : World) (hB : B ≤ w.heap.size) (hE : Env w) (hg : GraphLies B w v g) (hz : Mild g) (hn1 : -9223372036854775808 ≤ g.nn ∧ g.nn ≤ 9223372036854775807) (hn2 : -9223372036854775808 ≤ g.nr ∧ g.nr ≤ 9223372036854775807) (hi2 : ∀ r ∈ g.rels, I64 r.fr ∧ I64 r.tt) : Calls Tryz.prog 13 #[v] w fun e w' => e = .returned (.int .i64 (if checkPB g = true then 0 else 2)) ∧ Below w.heap.size w w' := by
  have HE := hidE hE
  obtain ⟨res, hres⟩ : ∃ r, checkPB g = r := ⟨_, rfl⟩
  rw [hres]
  obtain ⟨code, hcode⟩ : ∃ c : Int, (if res = true then 0 else 2) = c := ⟨_, rfl⟩
  rw [hcode]
  have HCD := hidE hcode
  clear hcode
  unfold checkPB at hres
  have hg0 := hg
  obtain ⟨na, nc, ra, rc, rfl, _, _⟩ := hg0
  have HC0 : Hid (∀ W, Below w.heap.size w W → Calls Tryz.prog 100 #[.agg #[.slice na g.nodes.length nc, .slice ra g.rels.length rc, .int .i64 g.nn, .int .i64 g.nr]] W fun e w' => e = .returned (.bool (decide ((g.nodes.length : Int) + (g.rels.length : Int) ≤ 65536))) ∧ Below W.heap.size W w') := fun W hb => gfew_any g B _ W (by have := hb.size; omega) (HE.out.below hb HE.out.room) (hg.below (hb.mono hB)) hz
  have HC1 : Hid (∀ W, Below w.heap.size w W → Calls Tryz.prog 101 #[.agg #[.slice na g.nodes.length nc, .slice ra g.rels.length rc, .int .i64 g.nn, .int .i64 g.nr]] W fun e w' => e = .returned (.bool ((riseI g.nn 0 (g.nodes.map NodeP.id) && riseI g.nr 0 (g.rels.map RelP.id)))) ∧ Below W.heap.size W w') := fun W hb => numbers_any g B _ W (by have := hb.size; omega) (hg.below (hb.mono hB)) hn1 hn2
  have HC2 : Hid (∀ W, Below w.heap.size w W → Calls Tryz.prog 102 #[.agg #[.slice na g.nodes.length nc, .slice ra g.rels.length rc, .int .i64 g.nn, .int .i64 g.nr]] W fun e w' => e = .returned (.bool (labelsB g.nodes)) ∧ Below W.heap.size W w') := fun W hb => labels_any g B _ W (by have := hb.size; omega) (HE.out.below hb HE.out.room) (hg.below (hb.mono hB)) hz
  have HC3 : Hid (∀ W, Below w.heap.size w W → Calls Tryz.prog 103 #[.agg #[.slice na g.nodes.length nc, .slice ra g.rels.length rc, .int .i64 g.nn, .int .i64 g.nr]] W fun e w' => e = .returned (.bool ((nodePropsB g.nodes && relPropsB g.rels))) ∧ Below W.heap.size W w') := fun W hb => props_any g B _ W (by have := hb.size; omega) (HE.out.below hb HE.out.room) (hg.below (hb.mono hB)) hz
  have HC4 : Hid (∀ W, Below w.heap.size w W → Calls Tryz.prog 104 #[.agg #[.slice na g.nodes.length nc, .slice ra g.rels.length rc, .int .i64 g.nn, .int .i64 g.nr]] W fun e w' => e = .returned (.bool (typesB g.rels)) ∧ Below W.heap.size W w') := fun W hb => types_any g B _ W (by have := hb.size; omega) (HE.out.below hb HE.out.room) (hg.below (hb.mono hB)) hz
  have HC5 : Hid ((riseI g.nn 0 (g.nodes.map NodeP.id) && riseI g.nr 0 (g.rels.map RelP.id)) = true → ∀ W, Below w.heap.size w W → Calls Tryz.prog 105 #[.agg #[.slice na g.nodes.length nc, .slice ra g.rels.length rc, .int .i64 g.nn, .int .i64 g.nr]] W fun e w' => e = .returned (.bool (endsB (idsE g.nodes) g.rels)) ∧ Below W.heap.size W w') := fun hk W hb => by
    have hk1 := riseI_all (Bool.and_eq_true_iff.1 hk).1
    exact gends_any g B _ W (by have := hb.size; omega) (hg.below (hb.mono hB)) hk1.2 (fun n hn => by
      have := hk1.1 n.id (List.mem_map_of_mem hn)
      exact i64_of (by omega) (by omega)) hi2
  obtain ⟨b0, hb0⟩ : ∃ b, decide ((g.nodes.length : Int) + (g.rels.length : Int) ≤ 65536) = b := ⟨_, rfl⟩
  obtain ⟨b1, hb1⟩ : ∃ b, (riseI g.nn 0 (g.nodes.map NodeP.id) && riseI g.nr 0 (g.rels.map RelP.id)) = b := ⟨_, rfl⟩
  obtain ⟨b2, hb2⟩ : ∃ b, labelsB g.nodes = b := ⟨_, rfl⟩
  obtain ⟨b3, hb3⟩ : ∃ b, (nodePropsB g.nodes && relPropsB g.rels) = b := ⟨_, rfl⟩
  obtain ⟨b4, hb4⟩ : ∃ b, typesB g.rels = b := ⟨_, rfl⟩
  obtain ⟨b5, hb5⟩ : ∃ b, endsB (idsE g.nodes) g.rels = b := ⟨_, rfl⟩
  rw [hb0] at HC0
  rw [hb1] at HC1
  rw [hb2] at HC2
  rw [hb3] at HC3
  rw [hb4] at HC4
  rw [hb1, hb5] at HC5
  rw [hb0, hb1, hb2, hb3, hb4, hb5] at hres
  have HR := hidE hres
  clear hb0 hb1 hb2 hb3 hb4 hb5 hres hg hz hn1 hn2 hi2
  obtain ⟨ns, rs, nn, nr⟩ := g
  simp only at HC0 HC1 HC2 HC3 HC4 HC5 ⊢
  generalize ns.length = n at *
  generalize rs.length = m at *
  go_enter Tryz.func13, Tryz.ntmps13
  go_upto_region 1 with fail
  generalize hW1 : World.alloc _ _ = W1
  have hr1 := rec_new w #[.slice na n nc, .slice ra m rc, .int .i64 nn, .int .i64 nr] 25
  rw [hW1] at hr1
  have HB1 : Hid (Below w.heap.size w W1) := by rw [← hW1]; exact (Below.refl _ _).alloc (Nat.le_refl _) _
  have HR1 := hidE hr1
  clear hW1 hr1
  go_wp2_with fail
  refine (rules_any _).mono ?_
  rintro e w2 ⟨rfl, hb2, ht2⟩
  have HC2w := hidE hb2
  have HT := hidE ht2
  obtain ⟨p, hp⟩ : ∃ p, W1.heap.size = p := ⟨_, rfl⟩
  have hpl : p < w2.heap.size := by
    rw [← hp]
    exact lt_of_cell (ht2 0 _ rfl)
  rw [hp] at HT ⊢
  clear hb2 ht2 hp
  go_wp2_with fail
  go_loopw [7] (fun x wr => ∃ q : Nat, q ≤ 6 ∧ x = .int .i64 q ∧ Below w2.heap.size w2 wr ∧ (([b0, b1, b2, b3, b4, b5].drop q).all id) = res ∧ (2 ≤ q → b1 = true)) (fun x _ => 6 - (intOf x).toNat)
  case atStart => exact ⟨0, by omega, rfl, Below.refl _ _, by rw [← HR.out]; simp, fun h => by omega⟩
  case round =>
    obtain ⟨q, hq, rfl, hb, hrs, hq2⟩ := hrel
    have HB := hidE hb
    have HRS := hidE hrs
    have HQ2 := hidE hq2
    have HBW := hidE (below_on HB1.out (below_on HC2w.out hb))
    have hrec := HR1.out.below (below_on HC2w.out hb) HR1.out.lt
    have a0 := hrec.cell 0 rfl
    have a1 := hrec.cell 1 rfl
    have a2 := hrec.cell 2 rfl
    have a3 := hrec.cell 3 rfl
    clear hb hrs hq2 hrec
    have hcs : q = 0 ∨ q = 1 ∨ q = 2 ∨ q = 3 ∨ q = 4 ∨ q = 5 ∨ q = 6 := by omega
    rcases hcs with rfl | rfl | rfl | rfl | rfl | rfl | rfl
    · have k0 := cell_below HB.out (Nat.le_refl _) (HT.out 0 _ rfl)
      have HCX := hidE (HC0.out wr HBW.out)
      go_wp2_with fail
      refine HCX.out.mono ?_
      rintro e w3 ⟨rfl, hb3⟩
      have HB3 := hidE (below_on HB.out hb3)
      have HBW3 := hidE (below_on HBW.out hb3)
      clear hb3 a0 a1 a2 a3 k0 HCX
      cases b0 with
      | false =>
        have HF : Hid (code = 2) := by
          show _ = _
          have e : res = false := by rw [← HRS.out]; rfl
          rw [← HCD.out, e]; rfl
        go_wp2_with fail
        go_ret
        exact ⟨by rw [HF.out]; rfl, HBW3.out⟩
      | true =>
        have HN2 := hidE HRS.out
        go_wp2_with fail
        go_roundw
        case rel => exact ⟨1, by omega, rfl, HB3.out, HN2.out, fun h => by omega⟩
        case measure => simp [intOf]
    · have k0 := cell_below HB.out (Nat.le_refl _) (HT.out 1 _ rfl)
      have HCX := hidE (HC1.out wr HBW.out)
      go_wp2_with fail
      refine HCX.out.mono ?_
      rintro e w3 ⟨rfl, hb3⟩
      have HB3 := hidE (below_on HB.out hb3)
      have HBW3 := hidE (below_on HBW.out hb3)
      clear hb3 a0 a1 a2 a3 k0 HCX
      cases b1 with
      | false =>
        have HF : Hid (code = 2) := by
          show _ = _
          have e : res = false := by rw [← HRS.out]; rfl
          rw [← HCD.out, e]; rfl
        go_wp2_with fail
        go_ret
        exact ⟨by rw [HF.out]; rfl, HBW3.out⟩
      | true =>
        have HN2 := hidE HRS.out
        go_wp2_with fail
        go_roundw
        case rel => exact ⟨2, by omega, rfl, HB3.out, HN2.out, fun h => trivial⟩
        case measure => simp [intOf]
    · have k0 := cell_below HB.out (Nat.le_refl _) (HT.out 2 _ rfl)
      have HCX := hidE (HC2.out wr HBW.out)
      go_wp2_with fail
      refine HCX.out.mono ?_
      rintro e w3 ⟨rfl, hb3⟩
      have HB3 := hidE (below_on HB.out hb3)
      have HBW3 := hidE (below_on HBW.out hb3)
      clear hb3 a0 a1 a2 a3 k0 HCX
      cases b2 with
      | false =>
        have HF : Hid (code = 2) := by
          show _ = _
          have e : res = false := by rw [← HRS.out]; rfl
          rw [← HCD.out, e]; rfl
        go_wp2_with fail
        go_ret
        exact ⟨by rw [HF.out]; rfl, HBW3.out⟩
      | true =>
        have HN2 := hidE HRS.out
        go_wp2_with fail
        go_roundw
        case rel => exact ⟨3, by omega, rfl, HB3.out, HN2.out, fun h => HQ2.out (by omega)⟩
        case measure => simp [intOf]
    · have k0 := cell_below HB.out (Nat.le_refl _) (HT.out 3 _ rfl)
      have HCX := hidE (HC3.out wr HBW.out)
      go_wp2_with fail
      refine HCX.out.mono ?_
      rintro e w3 ⟨rfl, hb3⟩
      have HB3 := hidE (below_on HB.out hb3)
      have HBW3 := hidE (below_on HBW.out hb3)
      clear hb3 a0 a1 a2 a3 k0 HCX
      cases b3 with
      | false =>
        have HF : Hid (code = 2) := by
          show _ = _
          have e : res = false := by rw [← HRS.out]; rfl
          rw [← HCD.out, e]; rfl
        go_wp2_with fail
        go_ret
        exact ⟨by rw [HF.out]; rfl, HBW3.out⟩
      | true =>
        have HN2 := hidE HRS.out
        go_wp2_with fail
        go_roundw
        case rel => exact ⟨4, by omega, rfl, HB3.out, HN2.out, fun h => HQ2.out (by omega)⟩
        case measure => simp [intOf]
    · have k0 := cell_below HB.out (Nat.le_refl _) (HT.out 4 _ rfl)
      have HCX := hidE (HC4.out wr HBW.out)
      go_wp2_with fail
      refine HCX.out.mono ?_
      rintro e w3 ⟨rfl, hb3⟩
      have HB3 := hidE (below_on HB.out hb3)
      have HBW3 := hidE (below_on HBW.out hb3)
      clear hb3 a0 a1 a2 a3 k0 HCX
      cases b4 with
      | false =>
        have HF : Hid (code = 2) := by
          show _ = _
          have e : res = false := by rw [← HRS.out]; rfl
          rw [← HCD.out, e]; rfl
        go_wp2_with fail
        go_ret
        exact ⟨by rw [HF.out]; rfl, HBW3.out⟩
      | true =>
        have HN2 := hidE HRS.out
        go_wp2_with fail
        go_roundw
        case rel => exact ⟨5, by omega, rfl, HB3.out, HN2.out, fun h => HQ2.out (by omega)⟩
        case measure => simp [intOf]
    · have k0 := cell_below HB.out (Nat.le_refl _) (HT.out 5 _ rfl)
      have HCX := hidE (HC5.out (HQ2.out (by omega)) wr HBW.out)
      go_wp2_with fail
      refine HCX.out.mono ?_
      rintro e w3 ⟨rfl, hb3⟩
      have HB3 := hidE (below_on HB.out hb3)
      have HBW3 := hidE (below_on HBW.out hb3)
      clear hb3 a0 a1 a2 a3 k0 HCX
      cases b5 with
      | false =>
        have HF : Hid (code = 2) := by
          show _ = _
          have e : res = false := by rw [← HRS.out]; rfl
          rw [← HCD.out, e]; rfl
        go_wp2_with fail
        go_ret
        exact ⟨by rw [HF.out]; rfl, HBW3.out⟩
      | true =>
        have HN2 := hidE HRS.out
        go_wp2_with fail
        go_roundw
        case rel => exact ⟨6, by omega, rfl, HB3.out, HN2.out, fun h => HQ2.out (by omega)⟩
        case measure => simp [intOf]
    · have HF : Hid (code = 0) := by
        show _ = _
        have e : res = true := by rw [← HRS.out]; rfl
        rw [← HCD.out, e]; rfl
      go_wp2_with fail
      go_ret
      exact ⟨by rw [HF.out]; rfl, HBW.out⟩
end Go.Proofs.YthfilnflgahcjaaGreatDoor

namespace Go.Proofs.YthfilnflgahcjaaGreatDoor
open Go.RowKit Go.Shelf Go.Maps
set_option linter.unusedVariables false
set_option linter.unusedSimpArgs false
attribute [local go_sem] Oper.semAt_some
/-- What is wanted of a graph that is counted. -/
structure CntFit (tx : Tree → ByteArray) (g : GraphP) (most K : Nat) : Prop where
  ln : g.nodes.length ≤ 100000
  lr : g.rels.length ≤ 100000
  fr : ∀ r ∈ g.rels, W64 r.fr ∧ W64 r.tt
  nd : (g.nodes.map NodeP.id).Nodup
  id : ∀ n ∈ g.nodes, W64 n.id
  ll : (labelsOf g.nodes).length ≤ 1000000
  kk : ∀ n ∈ g.nodes, n.labels.length ≤ K
  km : K ≤ 1000000000
  jn : (cnt (jointsOf g.rels)).length * K ≤ 1000000000
  it : (itemsOf tx g.nodes).length ≤ 1000000
  wl : wlen (itemsOf tx g.nodes) ≤ 100000000
  cl : (tally (labelsOf g.nodes)).length ≤ most
  ct : (tally (g.rels.map fun r => r.type)).length ≤ most
  ce : (gather (endsOf g.nodes (cnt (jointsOf g.rels)))).length ≤ most
  ck : (nodesK (kAll (itemsOf tx g.nodes)).2).length ≤ most
/-- What is counted. -/
structure CntIs (tx : Tree → ByteArray) (g : GraphP) (leL leT : ByteArray × Int → ByteArray × Int → Prop) (leE : EndR → EndR → Prop) (leK : KeyR → KeyR → Prop) (s : StatP) : Prop where
  n : s.nodes = g.nodes.length
  r : s.rels = g.rels.length
  l1 : s.labels.Perm ((tally (labelsOf g.nodes)).map (fun p : (ByteArray × Int) × Int => (p.1.1, p.2)))
  l2 : s.labels.Pairwise leL
  t1 : s.types.Perm ((tally (g.rels.map fun r => r.type)).map (fun p : (ByteArray × Int) × Int => (p.1.1, p.2)))
  t2 : s.types.Pairwise leT
  e1 : s.ends.Perm ((gather (endsOf g.nodes (cnt (jointsOf g.rels)))).map (fun p : EndR × Int => (p.1.1, p.1.2.1, p.1.2.2.1, p.2)))
  e2 : s.ends.Pairwise leE
  k1 : s.keys.Perm (keysK (kAll (itemsOf tx g.nodes)).2)
  k2 : s.keys.Pairwise leK
/-- Where the rows lie. -/
structure CntL (base : Nat) (w : World) (vl vt ve vk : Value) (s : StatP) : Prop where
  l : ORow 42 2 labC base w vl s.labels
  t : ORow 62 2 labC base w vt s.types
  e : ORow 64 4 endC base w ve s.ends
  k : ORow 66 4 keyC base w vk s.keys
def aftO (o : Option Oper) : Array Edge := match o with | some o => o.after | none => #[]
def posO (o : Option Oper) : String := match o with | some o => o.pos | none => ""
theorem pick11 : ∃ a1 a2 a3 q1 q2 q3, pickL L11 [14, 15, 16] = [⟨some 22, .build 33 #[(0, .tmp 10), (1, .tmp 13), (2, .tmp 15), (3, .tmp 17), (4, .tmp 19), (5, .tmp 21)], 33, q1, a1, none⟩, ⟨none, .store 33 (.tmp 2) (.tmp 22), 0, q2, a2, none⟩, ⟨some 3, .assign (.const (.int .i64 0)), 34, q3, a3, none⟩] := ⟨aftO (nthL L11 14), aftO (nthL L11 15), aftO (nthL L11 16), posO (nthL L11 14), posO (nthL L11 15), posO (nthL L11 16), by kernel_rfl⟩
set_option maxRecDepth 100000 in
set_option maxHeartbeats 16000000 in
theorem count_good {leL leT : ByteArray × Int → ByteArray × Int → Prop} {leE : EndR → EndR → Prop} {leK : KeyR → KeyR → Prop} {most : Nat} (hsl : Sorts84 leL most) (hst : Sorts88 leT most) (hse : Sorts92 leE most) (hsk : Sorts98 leK most) (hmost : most ≤ 900000)
    (tx : Tree → ByteArray) (K : Nat) (g : GraphP) (v : Value) (B : Nat) (w : World) (hB : B ≤ w.heap.size) (hE : Env w) (h : GraphLies B w v g) (hz : Mild g) (hn1 : -9223372036854775808 ≤ g.nn ∧ g.nn ≤ 9223372036854775807) (hn2 : -9223372036854775808 ≤ g.nr ∧ g.nr ≤ 9223372036854775807) (hf : CntFit tx g most K) (hok : checkPB g = true)
    (hT : ∀ n ∈ g.nodes, ∀ p ∈ n.props, okS (tx p.2) ∧ ∀ (W : World) (u : Value), Below w.heap.size w W → Lies B W u p.2 → Calls Tryz.prog 127 #[u] W fun e w' => e = .returned (.tuple #[.string (tx p.2), .int .i64 0]) ∧ Below W.heap.size W w') :
    Calls Tryz.prog 11 #[v] w fun e w' => ∃ s vl vt ve vk, e = .returned (.tuple #[statV s vl vt ve vk, .int .i64 0]) ∧ CntIs tx g leL leT leE leK s ∧ CntL w.heap.size w' vl vt ve vk s ∧ Below w.heap.size w w' := by
  have HG := hidE h
  obtain ⟨na, nc, ra, rc, rfl, _, _⟩ := h
  have HF := hidE hf
  have hln := hf.ln
  have hlr := hf.lr
  have HCK := hidE (fun (W : World) (hb : Below w.heap.size w W) => checkP_any g B _ W (Nat.le_trans hB hb.size) (hE.below hb hE.room) (HG.out.below (hb.mono hB)) hz hn1 hn2 hf.fr)
  rw [if_pos hok] at HCK
  have HT := hidE hT
  obtain ⟨l1, hl1⟩ : ∃ m, g.nodes.length = m := ⟨_, rfl⟩
  obtain ⟨l2, hl2⟩ : ∃ m, g.rels.length = m := ⟨_, rfl⟩
  have HL := hidE (And.intro hl1 hl2)
  rw [hl1] at hln
  rw [hl2] at hlr
  rw [hl1, hl2] at HG HCK ⊢
  generalize g.nn = nn at *
  generalize g.nr = nr at *
  clear hf hl1 hl2 hT hE hz
  obtain ⟨Wa, hWa⟩ : ∃ W, w.alloc (.cells #[.slice na l1 nc, .slice ra l2 rc, .int .i64 nn, .int .i64 nr] 25) = W := ⟨_, rfl⟩
  have ra0 : Rec Wa w.heap.size #[.slice na l1 nc, .slice ra l2 rc, .int .i64 nn, .int .i64 nr] 25 := by rw [← hWa]; exact rec_new _ _ _
  have hza : Wa.heap.size = w.heap.size + 1 := by rw [← hWa]; simp
  have hba : Below w.heap.size w Wa := by rw [← hWa]; exact (Below.refl _ _).alloc (Nat.le_refl _) _
  obtain ⟨Wb, hWb⟩ : ∃ W, Wa.alloc (.cells #[.int .i64 0, .int .i64 0, .slice none 0 0, .slice none 0 0, .slice none 0 0, .slice none 0 0] 33) = W := ⟨_, rfl⟩
  have hbb : Below Wa.heap.size Wa Wb := by rw [← hWb]; exact (Below.refl _ _).alloc (Nat.le_refl _) _
  have rb0 : Rec Wb (w.heap.size + 1) #[.int .i64 0, .int .i64 0, .slice none 0 0, .slice none 0 0, .slice none 0 0, .slice none 0 0] 33 := by rw [← hWb, ← hza]; exact rec_new _ _ _
  have hzb : Wb.heap.size = w.heap.size + 1 + 1 := by rw [← hWb, ← hza]; simp
  have ra1 : Rec Wb w.heap.size #[.slice na l1 nc, .slice ra l2 rc, .int .i64 nn, .int .i64 nr] 25 := ra0.below hbb (by omega)
  have hbw : Below w.heap.size w Wb := Below.on hba hbb
  have HB := hidE hbw
  have HRA := hidE ra1
  have HRB := hidE rb0
  have HZB := hidE hzb
  have HC := hidE (HCK.out Wb hbw)
  have c0 := ra1.cell 0 rfl
  have c1 := ra1.cell 1 rfl
  have c2 := ra1.cell 2 rfl
  have c3 := ra1.cell 3 rfl
  clear ra0 hba hbb ra1 rb0 hbw HCK
  go_enter Tryz.func11, Tryz.ntmps11
  go_upto_region 1 with fail
  try rw [hWa]
  try rw [hWb]
  clear hWa hWb hza hzb
  go_upto_region 3 with (go_at_call 13; refine HC.out.mono ?_; rintro e W2 ⟨rfl, y1⟩; have HY := hidE y1; clear y1)
  have hW2 := HY.out
  have hs2 := hW2.size
  have hra := HRA.out.below hW2 HRA.out.lt
  have hrb := HRB.out.below hW2 HRB.out.lt
  have HB2 := hidE (Below.on HB.out hW2)
  have HRA2 := hidE hra
  have HRB2 := hidE hrb
  have HZ2 : Hid (w.heap.size + 2 ≤ W2.heap.size) := by show _ ≤ _; have := HZB.out; omega
  clear hW2 hs2 hra hrb HY HRA HRB HZB HB HC c0 c1 c2 c3
  refine wp_cut (L := L11) 14 [14, 15, 16] (by kernel_rfl) (by kernel_rfl) ?_
  refine facts14 (F := factsAt (facts11 w.heap.size na l1 nc ra l2 rc nn nr
    (fun v W => ∃ L : List (ByteArray × Int), L.Perm ((tally (labelsOf g.nodes)).map (fun p : (ByteArray × Int) × Int => (p.1.1, p.2))) ∧ L.Pairwise leL ∧ ORow 42 2 labC (w.heap.size + 2) W v L)
    (fun v W => ∃ L : List (ByteArray × Int), L.Perm ((tally (g.rels.map fun r => r.type)).map (fun p : (ByteArray × Int) × Int => (p.1.1, p.2))) ∧ L.Pairwise leT ∧ ORow 62 2 labC (w.heap.size + 2) W v L)
    (fun v W => ∃ L : List EndR, L.Perm ((gather (endsOf g.nodes (cnt (jointsOf g.rels)))).map (fun p : EndR × Int => (p.1.1, p.1.2.1, p.1.2.2.1, p.2))) ∧ L.Pairwise leE ∧ ORow 64 4 endC (w.heap.size + 2) W v L)
    (fun v W => ∃ L : List KeyR, L.Perm (keysK (kAll (itemsOf tx g.nodes)).2) ∧ L.Pairwise leK ∧ ORow 66 4 keyC (w.heap.size + 2) W v L))) (by kernel_rfl) ?_ ?_ ?_
  · exact fun i v w w' h1 h2 => factsAt_stable (stable11 _ _ _ _ _ _ _ _ _ (fun v W W' ⟨L, a, b, c⟩ hb => ⟨L, a, b, c.below hb⟩) (fun v W W' ⟨L, a, b, c⟩ hb => ⟨L, a, b, c.below hb⟩) (fun v W W' ⟨L, a, b, c⟩ hb => ⟨L, a, b, c.below hb⟩) (fun v W W' ⟨L, a, b, c⟩ hb => ⟨L, a, b, c.below hb⟩)) i v w w' h1 h2
  · intro i hi a W hS hb hF
    have hbw : Below w.heap.size w W := Below.on HB2.out hb
    have hr := HRA2.out.below hb HRA2.out.lt
    have hg : GraphLies B W (.agg #[.slice na l1 nc, .slice ra l2 rc, .int .i64 nn, .int .i64 nr]) g := HG.out.below (hbw.mono hB)
    have hBW : B ≤ W.heap.size := Nat.le_trans hB hbw.size
    have hf := HF.out
    have hz2 : w.heap.size + 2 ≤ W.heap.size := Nat.le_trans HZ2.out hb.size
    refine ops11 w.heap.size na l1 nc ra l2 rc nn nr _ _ _ _ _ a W ((same_eval hS (by kernel_rfl)).trans rfl) (by omega) (by omega) ⟨hr.cell 0 rfl, hr.cell 1 rfl, hr.cell 2 rfl, hr.cell 3 rfl, ?_, ?_, ?_, ?_⟩ i hi hF
    · refine (labels_cnt hsl hmost g _ B W hBW hg hf.ln hf.ll hf.cl).mono ?_
      rintro e W' ⟨v, L, rfl, x1, x2, x3, x4⟩
      exact ⟨v, rfl, ⟨L, x1, x2, x3.base hz2⟩, x4⟩
    · refine (types_cnt hst hmost g _ B W hBW hg hf.lr hf.ct).mono ?_
      rintro e W' ⟨v, L, rfl, x1, x2, x3, x4⟩
      exact ⟨v, rfl, ⟨L, x1, x2, x3.base hz2⟩, x4⟩
    · refine (ends_cnt hse hmost g _ B W hBW hg hf.lr hf.ln hf.fr hf.nd hf.id K hf.kk hf.km hf.jn hf.ce).mono ?_
      rintro e W' ⟨v, L, rfl, x1, x2, x3, x4⟩
      exact ⟨v, rfl, ⟨L, x1, x2, x3.base hz2⟩, x4⟩
    · refine (keys_cnt hsk hmost tx g _ B W hBW hg hf.ln (fun n hn p hp => ⟨(HT.out n hn p hp).1, fun W' u h1 h2 => (HT.out n hn p hp).2 W' u (Below.on hbw h1) h2⟩) hf.it hf.wl hf.ck).mono ?_
      rintro e W' ⟨v, L, rfl, x1, x2, x3, x4⟩
      exact ⟨v, rfl, ⟨L, x1, x2, x3.base hz2⟩, x4⟩
  · intro a W hS hb hF
    show wpList Tryz.prog L11.toArray _ (pickL L11 [14, 15, 16]) a W
    obtain ⟨a1, a2, a3, q1, q2, q3, hpk⟩ := pick11
    rw [hpk]
    have e10 : a.eval (.tmp 10) = .int .i64 l1 := fact_at (p := eqv (.int .i64 l1)) (by kernel_rfl) rfl (hF 2 (by omega))
    have e13 : a.eval (.tmp 13) = .int .i64 l2 := fact_at (p := eqv (.int .i64 l2)) (by kernel_rfl) rfl (hF 5 (by omega))
    obtain ⟨LL, f1, f2, f3⟩ := fact_at (p := fun v W => ∃ L : List (ByteArray × Int), L.Perm ((tally (labelsOf g.nodes)).map (fun p : (ByteArray × Int) × Int => (p.1.1, p.2))) ∧ L.Pairwise leL ∧ ORow 42 2 labC (w.heap.size + 2) W v L) (by kernel_rfl) rfl (hF 7 (by omega))
    obtain ⟨LT, g1, g2, g3⟩ := fact_at (p := fun v W => ∃ L : List (ByteArray × Int), L.Perm ((tally (g.rels.map fun r => r.type)).map (fun p : (ByteArray × Int) × Int => (p.1.1, p.2))) ∧ L.Pairwise leT ∧ ORow 62 2 labC (w.heap.size + 2) W v L) (by kernel_rfl) rfl (hF 9 (by omega))
    obtain ⟨LE, h1, h2, h3⟩ := fact_at (p := fun v W => ∃ L : List EndR, L.Perm ((gather (endsOf g.nodes (cnt (jointsOf g.rels)))).map (fun p : EndR × Int => (p.1.1, p.1.2.1, p.1.2.2.1, p.2))) ∧ L.Pairwise leE ∧ ORow 64 4 endC (w.heap.size + 2) W v L) (by kernel_rfl) rfl (hF 11 (by omega))
    obtain ⟨LK, k1, k2, k3⟩ := fact_at (p := fun v W => ∃ L : List KeyR, L.Perm (keysK (kAll (itemsOf tx g.nodes)).2) ∧ L.Pairwise leK ∧ ORow 66 4 keyC (w.heap.size + 2) W v L) (by kernel_rfl) rfl (hF 13 (by omega))
    obtain ⟨y15, e15⟩ : ∃ y, a.eval (.tmp 15) = y := ⟨_, rfl⟩
    obtain ⟨y17, e17⟩ : ∃ y, a.eval (.tmp 17) = y := ⟨_, rfl⟩
    obtain ⟨y19, e19⟩ : ∃ y, a.eval (.tmp 19) = y := ⟨_, rfl⟩
    obtain ⟨y21, e21⟩ : ∃ y, a.eval (.tmp 21) = y := ⟨_, rfl⟩
    have f3 : ORow 42 2 labC (w.heap.size + 2) W y15 LL := by have := f3; rwa [show a.eval (.tmp 15) = y15 from e15] at this
    have g3 : ORow 62 2 labC (w.heap.size + 2) W y17 LT := by have := g3; rwa [show a.eval (.tmp 17) = y17 from e17] at this
    have h3 : ORow 64 4 endC (w.heap.size + 2) W y19 LE := by have := h3; rwa [show a.eval (.tmp 19) = y19 from e19] at this
    have k3 : ORow 66 4 keyC (w.heap.size + 2) W y21 LK := by have := k3; rwa [show a.eval (.tmp 21) = y21 from e21] at this
    obtain ⟨ad15, ac15, rfl⟩ := f3.slice
    obtain ⟨ad17, ac17, rfl⟩ := g3.slice
    obtain ⟨ad19, ac19, rfl⟩ := h3.slice
    obtain ⟨ad21, ac21, rfl⟩ := k3.slice
    have hrb := HRB2.out.below hb HRB2.out.lt
    have HBW := hidE (Below.on HB2.out hb)
    have HLK := hidE (And.intro f3 (And.intro g3 (And.intro h3 k3)))
    have HPM := hidE (And.intro (And.intro f1 f2) (And.intro (And.intro g1 g2) (And.intro (And.intro h1 h2) (And.intro k1 k2))))
    have HRW := hidE hrb
    clear f1 f2 f3 g1 g2 g3 h1 h2 h3 k1 k2 k3 hF hb
    rw [same_puts [8, 9, 10, 11, 12, 13, 14, 15, 16, 17, 18, 19, 20, 21] hS (by kernel_rfl)]
    unfold puts
    obtain ⟨y8, e8⟩ : ∃ y, a.eval (.tmp 8) = y := ⟨_, rfl⟩
    obtain ⟨y9, e9⟩ : ∃ y, a.eval (.tmp 9) = y := ⟨_, rfl⟩
    obtain ⟨y11, e11⟩ : ∃ y, a.eval (.tmp 11) = y := ⟨_, rfl⟩
    obtain ⟨y12, e12⟩ : ∃ y, a.eval (.tmp 12) = y := ⟨_, rfl⟩
    obtain ⟨y14, e14⟩ : ∃ y, a.eval (.tmp 14) = y := ⟨_, rfl⟩
    obtain ⟨y16, e16⟩ : ∃ y, a.eval (.tmp 16) = y := ⟨_, rfl⟩
    obtain ⟨y18, e18⟩ : ∃ y, a.eval (.tmp 18) = y := ⟨_, rfl⟩
    obtain ⟨y20, e20⟩ : ∃ y, a.eval (.tmp 20) = y := ⟨_, rfl⟩
    simp only [List.foldl_cons, List.foldl_nil, e8, e9, e10, e11, e12, e13, e14, e15, e16, e17, e18, e19, e20, e21]
    clear e8 e9 e10 e11 e12 e13 e14 e15 e16 e17 e18 e19 e20 e21 hS
    simp only [Act.put, List.setIfInBounds_toArray, List.set_cons_succ, List.set_cons_zero]
    have c0 := hrb.cell 0 rfl
    have c1 := hrb.cell 1 rfl
    have c2 := hrb.cell 2 rfl
    have c3 := hrb.cell 3 rfl
    have c4 := hrb.cell 4 rfl
    have c5 := hrb.cell 5 rfl
    generalize hLL : LL.length = n1 at *
    generalize hLT : LT.length = n2 at *
    generalize hLE : LE.length = n3 at *
    generalize hLK : LK.length = n4 at *
    have z0 := hrb.z 0
    have z1 := hrb.z 1
    have z2 := hrb.z 2
    have z3 := hrb.z 3
    have z4 := hrb.z 4
    have z5 := hrb.z 5
    have HPUT := hidE (put_set (put_set (put_set (put_set (put_set (put_set (put_refl hrb) 0 (.int .i64 l1)) 1 (.int .i64 l2)) 2 (.slice ad15 n1 ac15)) 3 (.slice ad17 n2 ac17)) 4 (.slice ad19 n3 ac19)) 5 (.slice ad21 n4 ac21))
    clear hrb
    go_wp2_with fail
    obtain ⟨W3, hW3⟩ : ∃ W3, (((((W.setCell { block := w.heap.size + 1, off := 0 } (Value.int IntKind.i64 l1)).setCell { block := w.heap.size + 1, off := 1 } (Value.int IntKind.i64 l2)).setCell { block := w.heap.size + 1, off := 2 } (Value.slice ad15 n1 ac15)).setCell { block := w.heap.size + 1, off := 3 } (Value.slice ad17 n2 ac17)).setCell { block := w.heap.size + 1, off := 4 } (Value.slice ad19 n3 ac19)).setCell { block := w.heap.size + 1, off := 5 } (Value.slice ad21 n4 ac21) = W3 := ⟨_, rfl⟩
    rw [hW3] at HPUT
    rw [hW3]
    have hput := HPUT.out
    have hr3 := hput.r
    simp only [List.setIfInBounds_toArray, List.set_cons_succ, List.set_cons_zero] at hr3
    have d0 := hr3.cell 0 rfl
    have d1 := hr3.cell 1 rfl
    have d2 := hr3.cell 2 rfl
    have d3 := hr3.cell 3 rfl
    have d4 := hr3.cell 4 rfl
    have d5 := hr3.cell 5 rfl
    obtain ⟨⟨f1, f2⟩, ⟨g1, g2⟩, ⟨h1, h2⟩, k1, k2⟩ := HPM.out
    obtain ⟨f3, g3, h3, k3⟩ := HLK.out
    refine bodyPost_ret (v := .tuple #[.agg #[.int .i64 l1, .int .i64 l2, .slice ad15 n1 ac15, .slice ad17 n2 ac17, .slice ad19 n3 ac19, .slice ad21 n4 ac21], .int .i64 0]) ?_ rfl ⟨⟨l1, l2, LL, LT, LE, LK⟩, _, _, _, _, rfl, ⟨congrArg _ HL.out.1.symm, congrArg _ HL.out.2.symm, f1, f2, g1, g2, h1, h2, k1, k2⟩, ⟨?_, ?_, ?_, ?_⟩, HBW.out.trans (hput.below.mono (by omega))⟩
    · simp [results, Tryz.results11, go_sem, d0, d1, d2, d3, d4, d5]
    · exact ORow.base (ORow.keep f3 (fun q hq _ => hput.other q (show q ≠ w.heap.size + 1 by omega))) (show w.heap.size ≤ w.heap.size + 2 by omega)
    · exact ORow.base (ORow.keep g3 (fun q hq _ => hput.other q (show q ≠ w.heap.size + 1 by omega))) (show w.heap.size ≤ w.heap.size + 2 by omega)
    · exact ORow.base (ORow.keep h3 (fun q hq _ => hput.other q (show q ≠ w.heap.size + 1 by omega))) (show w.heap.size ≤ w.heap.size + 2 by omega)
    · exact ORow.base (ORow.keep k3 (fun q hq _ => hput.other q (show q ≠ w.heap.size + 1 by omega))) (show w.heap.size ≤ w.heap.size + 2 by omega)
end Go.Proofs.YthfilnflgahcjaaGreatDoor

namespace Go.Proofs.YthfilnflgahcjaaGreatDoor
open Go.RowKit Go.Shelf Go.Lib
set_option linter.unusedVariables false
set_option linter.unusedSimpArgs false
attribute [local go_sem] Oper.semAt_some
set_option maxRecDepth 100000 in
theorem small_one (w : World) : Calls Tryz.prog 163 #[.int .i64 1] w fun e w' => e = .returned (.string ⟨#[49]⟩) ∧ w' = w := by
  go_enter Tryz.func163, Tryz.ntmps163
  go_wp2_with fail
  go_ret
  exact ⟨rfl, rfl⟩
/-- A row of bytes that has this one. -/
def OneB (e : Ending) (w w' : World) : Prop := ∃ g c, e = .returned (.slice (some ⟨g, 0, none⟩) 1 c) ∧ w'.cell? ⟨g, 0, none⟩ = some (.int .u8 49) ∧ Below w.heap.size w w'
set_option maxRecDepth 100000 in
theorem appendUint_one (w : World) : Calls Tryz.prog 253 #[.slice none 0 0, .int .u64 1, .int .i64 10] w fun e w' => OneB e w w' := by
  go_enter Tryz.func253, Tryz.ntmps253
  go_wp2_with fail
  refine (small_one w).mono ?_
  rintro e w1 ⟨rfl, hw⟩
  subst hw
  go_wp2_with fail
  go_ret
  refine ⟨_, _, rfl, ?_, ((Below.refl _ _).alloc (Nat.le_refl _) _).drew⟩
  show World.cell? (World.alloc _ _) _ = _
  refine cell_new _ _ _ 0 _ ?_
  rw [Array.getElem?_append_left (by decide)]
  rfl
set_option maxRecDepth 100000 in
theorem appendInt_one (w : World) : Calls Tryz.prog 239 #[.slice none 0 0, .int .i64 1, .int .i64 10] w fun e w' => OneB e w w' := by
  have HC := hidE (appendUint_one w)
  go_enter Tryz.func239, Tryz.ntmps239
  go_wp2_with fail
  refine HC.out.mono ?_
  rintro e w' ⟨g, c, rfl, h1, h2⟩
  have HT := hidE (And.intro h1 h2)
  clear h1 h2 HC
  go_wp2_with fail
  go_ret
  exact ⟨g, c, rfl, HT.out.1, HT.out.2⟩
set_option maxRecDepth 100000 in
theorem appendInt_pub (w : World) : Calls Tryz.prog 202 #[.slice none 0 0, .int .i64 1, .int .i64 10] w fun e w' => OneB e w w' := by
  have HC := hidE (appendInt_one w)
  go_enter Tryz.func202, Tryz.ntmps202
  go_wp2_with fail
  refine HC.out.mono ?_
  rintro e w' ⟨g, c, rfl, h1, h2⟩
  have HT := hidE (And.intro h1 h2)
  clear h1 h2 HC
  go_wp2_with fail
  go_ret
  exact ⟨g, c, rfl, HT.out.1, HT.out.2⟩
set_option maxRecDepth 100000 in
set_option maxHeartbeats 4000000 in
theorem tell_one (b : Bool) (s : ByteArray) (ka la : Option Addr) (kl kc ll lc : Nat) (w : World) : Calls Tryz.prog 152 #[.slice none 0 0, .agg #[.int .i64 2, .bool b, .int .i64 1, .string s, .slice ka kl kc, .slice la ll lc]] w fun e w' => OneB e w w' := by
  obtain ⟨W1, hW1⟩ : ∃ W, w.alloc (.cells #[.int .i64 2, .bool b, .int .i64 1, .string s, .slice ka kl kc, .slice la ll lc] 88) = W := ⟨_, rfl⟩
  have hr : Rec W1 w.heap.size #[.int .i64 2, .bool b, .int .i64 1, .string s, .slice ka kl kc, .slice la ll lc] 88 := by rw [← hW1]; exact rec_new _ _ _
  have HB : Hid (Below w.heap.size w W1) := by rw [← hW1]; exact (Below.refl _ _).alloc (Nat.le_refl _) _
  have c0 := hr.cell 0 rfl
  have c2 := hr.cell 2 rfl
  have HC := hidE (appendInt_pub W1)
  clear hr
  go_enter Tryz.func152, Tryz.ntmps152
  go_upto_region 1 with fail
  try rw [hW1]
  clear hW1
  go_wp2_with fail
  refine HC.out.mono ?_
  rintro e w' ⟨g, c, rfl, h1, h2⟩
  have HT := hidE (And.intro h1 h2)
  clear h1 h2 HC
  go_wp2_with fail
  go_ret
  exact ⟨g, c, rfl, HT.out.1, HB.out.trans (HT.out.2.mono HB.out.size)⟩
set_option maxRecDepth 100000 in
set_option maxHeartbeats 4000000 in
theorem text_one (v : Value) (w : World) (hv : Lies w.heap.size w v (.mk 2 false 1 ⟨#[]⟩ [] [])) (hT : Tabs w) : Calls Tryz.prog 127 #[v] w fun e w' => e = .returned (.tuple #[.string ⟨#[49]⟩, .int .i64 0]) ∧ Below w.heap.size w w' := by
  have HV := hidE hv
  simp only [Lies] at hv
  obtain ⟨ka, kc, la, lc, rfl, -⟩ := hv
  simp only [List.length_nil] at HV ⊢
  obtain ⟨W1, hW1⟩ : ∃ W, w.alloc (.cells #[.int .i64 2, .bool false, .int .i64 1, .string ⟨#[]⟩, .slice ka 0 kc, .slice la 0 lc] 88) = W := ⟨_, rfl⟩
  have hr : Rec W1 w.heap.size #[.int .i64 2, .bool false, .int .i64 1, .string ⟨#[]⟩, .slice ka 0 kc, .slice la 0 lc] 88 := by rw [← hW1]; exact rec_new _ _ _
  have hb : Below w.heap.size w W1 := by rw [← hW1]; exact (Below.refl _ _).alloc (Nat.le_refl _) _
  have HB := hidE hb
  have c0 := hr.cell 0 rfl
  have c1 := hr.cell 1 rfl
  have c2 := hr.cell 2 rfl
  have c3 := hr.cell 3 rfl
  have c4 := hr.cell 4 rfl
  have c5 := hr.cell 5 rfl
  have HR := hidE hr
  have HC := hidE (check_any _ _ W1 ((HV.out.below hb).mono hb.size) (hT.below hb) (by decide) (by decide))
  rw [show checkN (.mk 2 false 1 ⟨#[]⟩ [] []) = 0 by kernel_rfl] at HC
  clear hr hb
  go_enter Tryz.func127, Tryz.ntmps127
  go_upto_region 1 with fail
  try rw [hW1]
  clear hW1
  go_wp2_with fail
  refine HC.out.mono ?_
  rintro e w2 ⟨rfl, hb2⟩
  have hr2 := HR.out.below hb2 HR.out.lt
  have HB2 : Hid (Below w.heap.size w w2) := HB.out.trans (hb2.mono HB.out.size)
  have d0 := hr2.cell 0 rfl
  have d1 := hr2.cell 1 rfl
  have d2 := hr2.cell 2 rfl
  have d3 := hr2.cell 3 rfl
  have d4 := hr2.cell 4 rfl
  have d5 := hr2.cell 5 rfl
  have HTL := hidE (tell_one false ⟨#[]⟩ ka la 0 kc 0 lc w2)
  clear c0 c1 c2 c3 c4 c5 hr2 hb2
  go_wp2_with fail
  refine HTL.out.mono ?_
  rintro e w3 ⟨g, c, rfl, h1, h2⟩
  have hcv : (convert 116 9 (.slice (some ⟨g, 0, none⟩) 1 c)).run Tryz.prog w3 = .ok (.string ⟨#[49]⟩) w3 := by
    refine run_convert_bytes_back (P := Tryz.prog) w3 116 9 5 ⟨g, 0, none⟩ c [49] Tryz.underlying116 Tryz.underlying5 Tryz.underlying9 fun j hj => ?_
    simp only [List.length_cons, List.length_nil] at hj
    have : j = 0 := by omega
    subst this
    exact h1
  have HF := hidE (HB2.out.trans (h2.mono HB2.out.size))
  clear h1 h2 HTL d0 d1 d2 d3 d4 d5
  go_wp2_with fail
  go_ret2
  exact ⟨rfl, HF.out⟩
end Go.Proofs.YthfilnflgahcjaaGreatDoor

