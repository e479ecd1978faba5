/- Going over a value: walk, within, and what a round must keep. -/
import Derived.Test.YteddjlbfbpecjaaGreatDoorJoin2
import Derived.Test.YteddjlbfbpecjaaGreatDoorJoin1
namespace Go.Proofs.YteddjlbfbpecjaaGreatDoor
open Go.RowKit Go.Shelf
set_option linter.unusedVariables false

attribute [local go_sem] Oper.semAt_some

/-- What the rounds of a loop over a value say of the worlds: J: how far it has come; Jx: it was left; Jp: it died. -/
structure Rounds (F : Fence) (l B C : Nat) (w0 : World) (L : List (Int × Tree)) (J : List (Int × Tree) → World → Prop) (Jx : World → Prop) (Jp : List PanicEntry → World → Prop) : Prop where
  old : ∀ pre W, J pre W → Below B w0 W ∧ B ≤ W.heap.size ∧ C ≤ W.heap.size
  more : ∀ pre W W', J pre W → Below W.heap.size W W' → J pre W'
  round : ∀ m pre d t v W, J pre W → Lies B w0 v t → pre ++ [(d, t)] <+: L → YieldAt F m Tryz.prog l #[.int .i64 d, v] W fun e W' =>
    (e = .returned (.bool true) ∧ J (pre ++ [(d, t)]) W' ∧ Above C W W') ∨ (e = .returned (.bool false) ∧ Jx W') ∨ (∃ ch, e = .panicked ch ∧ Jp ch W')

set_option maxRecDepth 100000 in
set_option maxHeartbeats 1000000 in
theorem walk_any {F : Fence} (hd : F.depth = none) (h58 : F.fn 237) (hro : F.round = none) {l B C : Nat} {w0 : World} {L : List (Int × Tree)} {J : List (Int × Tree) → World → Prop} {Jx : World → Prop} {Jp : List PanicEntry → World → Prop}
    (R : Rounds F l B C w0 L J Jx Jp) : ∀ (T : Tree) (n : Nat) (d : Int) (v : Value) (pre : List (Int × Tree)) (W : World), Lies B w0 v T → J pre W → 0 ≤ d → d + T.height ≤ 1000000000 → pre ++ T.pre d <+: L →
    CallsIn F n Tryz.prog 237 #[.int .i64 d, v, .func (.yield l) #[] #[]] W fun e W' =>
      (e = .returned (.bool true) ∧ J (pre ++ T.pre d) W' ∧ Above C W W') ∨ (e = .returned (.bool false) ∧ Jx W') ∨ (∃ ch, e = .panicked ch ∧ Jp ch W') := by
  refine Tree.ind ?_
  intro k b n s ks ts ih m d v pre W hv hJ hd1 hd2 hL
  simp only [Tree.pre] at hL
  have HL : Hid (pre ++ [(d, .mk k b n s ks ts)] ++ Tree.preL (d + 1) ts <+: L) := by simpa [Hid] using hL
  clear hL
  have hdd := depth_none hd
  have hv0 := hv
  simp only [Lies] at hv
  obtain ⟨ka, kc, la, lc, rfl, ⟨hs1, hs2, hs3, hs4, hs5⟩, hk, ht⟩ := hv
  unfold maxLen at hs1 hs3 hs5
  have ho := R.old pre W hJ
  have hy := R.round (m - 1) pre d (.mk k b n s ks ts) _ (W.alloc (.cells #[.int .i64 k, .bool b, .int .i64 n, .string s, .slice ka ks.length kc, .slice la ts.length lc] 60)) (R.more _ _ _ hJ ((Below.refl _ _).alloc (Nat.le_refl _) _)) hv0 ((List.prefix_append _ _).trans HL.out)
  obtain ⟨fn, tmps, assign, body, hy1, hR⟩ := hy
  refine callsIn_of_wp Tryz.func237 rfl h58 ?_ hro
  simp only [Tryz.ntmps237, List.size_toArray, List.length_cons, List.length_nil, Nat.reduceAdd, Nat.reduceSub, Array.replicate_succ, Array.replicate_zero, List.push_toArray, List.append_toArray, List.nil_append, List.cons_append]
  gi_wp2_with fail
  refine hR.mono ?_
  clear hR hy1
  have hC : C ≤ W.heap.size := ho.2.2
  rintro e W2 (⟨rfl, hJ2, ha2⟩ | ⟨rfl, hx2⟩ | ⟨ch, rfl, hp⟩)
  · have c5 : W2.cell? ⟨W.heap.size, 5, none⟩ = some (.slice la ts.length lc) := (ha2.cell (p := ⟨W.heap.size, 5, none⟩) hC (by simp)).trans (cell_new _ _ _ _ _ rfl)
    have HA : Hid (Above C W W2) := (((Above.refl C W).alloc _).trans ha2 : Above C W W2)
    clear ha2 ho hv0 hk hJ
    gi_wp2_with fail
    gi_loopw [17] (fun i wr => ∃ j : Nat, j ≤ ts.length ∧ i = .int .i64 j ∧ J (pre ++ [(d, .mk k b n s ks ts)] ++ Tree.preL (d + 1) (ts.take j)) wr ∧ Above C W wr) (fun i _ => ts.length - (intOf i).toNat)
    case atStart => exact ⟨0, Nat.zero_le _, rfl, by simpa [Tree.preL] using hJ2, HA.out⟩
    case round =>
      obtain ⟨j, hj, rfl, hJr, har⟩ := hrel
      by_cases hlt : j < ts.length
      · obtain ⟨⟨k', b', n', s', ks', us⟩, hti⟩ : ∃ t, ts[j]? = some t := ⟨_, List.getElem?_eq_getElem hlt⟩
        have hmem : Tree.mk k' b' n' s' ks' us ∈ ts := List.mem_of_getElem? hti
        obtain ⟨bl, off, rfl, hbl, hkids⟩ := ht.resolve_left (by intro e; subst e; simp at hlt)
        obtain ⟨ka', kc', la', lc', ⟨c0, c1, c2, c3, c4, c6⟩, hlv⟩ := hkids.cells hti
        have hold := (R.old _ _ hJr).1
        replace c0 := (hold.cell (p := ⟨bl, off + j * 6, none⟩) hbl).trans c0
        replace c1 := (hold.cell (p := ⟨bl, off + j * 6 + 1, none⟩) hbl).trans c1
        replace c2 := (hold.cell (p := ⟨bl, off + j * 6 + 2, none⟩) hbl).trans c2
        replace c3 := (hold.cell (p := ⟨bl, off + j * 6 + 3, none⟩) hbl).trans c3
        replace c4 := (hold.cell (p := ⟨bl, off + j * 6 + 4, none⟩) hbl).trans c4
        replace c6 := (hold.cell (p := ⟨bl, off + j * 6 + 5, none⟩) hbl).trans c6
        have Hti : Hid (ts[j]? = some (Tree.mk k' b' n' s' ks' us)) := hti
        have HJ : Hid (J (pre ++ [(d, .mk k b n s ks ts)] ++ Tree.preL (d + 1) (ts.take j)) wr) := hJr
        clear hti hold hkids hJr ht c5 hJ2
        have hh := Tree.height_mem hmem
        have HLt : Hid (pre ++ [(d, .mk k b n s ks ts)] ++ Tree.preL (d + 1) (ts.take j) ++ (Tree.mk k' b' n' s' ks' us).pre (d + 1) <+: pre ++ [(d, .mk k b n s ks ts)] ++ Tree.preL (d + 1) ts) := by
          have e := Tree.preL_take (d + 1) ts j _ Hti.out
          have e2 : Tree.preL (d + 1) ts = Tree.preL (d + 1) (ts.take (j + 1)) ++ Tree.preL (d + 1) (ts.drop (j + 1)) := by rw [← Tree.preL_append, List.take_append_drop]
          rw [e2, e]
          exact ⟨Tree.preL (d + 1) (ts.drop (j + 1)), by simp [List.append_assoc]⟩
        simp only [Tree.height] at hd2 hh
        gi_wp2_with fail
        refine (ih _ hmem (m - 1) (d + 1) _ _ _ hlv (R.more _ _ _ HJ.out ((Below.refl _ _).alloc (Nat.le_refl _) _)) (by omega) (by simp only [Tree.height]; omega) (HLt.out.trans HL.out)).mono ?_
        rintro e W3 (⟨rfl, hJ3, ha3⟩ | ⟨rfl, hx3⟩ | ⟨ch, rfl, hp3⟩)
        · have HJ3 : Hid (J (pre ++ [(d, .mk k b n s ks ts)] ++ Tree.preL (d + 1) (ts.take (j + 1))) W3) := by
            rw [Tree.preL_take _ _ _ _ Hti.out, ← List.append_assoc]; exact hJ3
          have HA3 : Hid (Above C W W3) := har.trans (((Above.refl C wr).alloc _).trans ha3)
          clear hJ3 ha3
          gi_wp2_with fail
          go_roundw
          case rel => exact ⟨j + 1, by omega, by go_num, HJ3.out, HA3.out⟩
          case measure => simp [intOf]; omega
        · gi_wp2_with fail
          go_ret
          exact .inr (.inl ⟨rfl, hx3⟩)
        · exact ⟨rfl, .inr (.inr ⟨ch, rfl, hp3⟩)⟩
      · gi_wp2_with fail
        go_ret
        refine .inl ⟨rfl, ?_, har⟩
        rw [List.take_of_length_le (by omega)] at hJr
        simpa [Tree.pre] using hJr
  · gi_wp2_with fail
    go_ret
    exact .inr (.inl ⟨rfl, hx2⟩)
  · exact ⟨rfl, .inr (.inr ⟨ch, rfl, hp⟩)⟩

/-- The function that within answers. -/
theorem within1_any {F : Fence} (hd : F.depth = none) (h57 : F.fn 236) (h58 : F.fn 237) (hro : F.round = none) {l B C : Nat} {w0 : World} {J : List (Int × Tree) → World → Prop} {Jx : World → Prop} {Jp : List PanicEntry → World → Prop}
    {k : Int} {b : Bool} {n : Int} {s : ByteArray} {ks : List ByteArray} {ts : List Tree} {ka : Option Addr} {kc : Nat} {la : Option Addr} {lc : Nat}
    (R : Rounds F l B C w0 ((Tree.mk k b n s ks ts).pre 1) J Jx Jp) (m bx : Nat) (W : World) (hv : Lies B w0 (.agg #[.int .i64 k, .bool b, .int .i64 n, .string s, .slice ka ks.length kc, .slice la ts.length lc]) (.mk k b n s ks ts))
    (hJ : J [] W) (hh : Tree.heightL ts < 100000000)
    (c0 : W.cell? ⟨bx, 0, none⟩ = some (.int .i64 k)) (c1 : W.cell? ⟨bx, 1, none⟩ = some (.bool b)) (c2 : W.cell? ⟨bx, 2, none⟩ = some (.int .i64 n)) (c3 : W.cell? ⟨bx, 3, none⟩ = some (.string s))
    (c4 : W.cell? ⟨bx, 4, none⟩ = some (.slice ka ks.length kc)) (c5 : W.cell? ⟨bx, 5, none⟩ = some (.slice la ts.length lc)) :
    CallsIn F m Tryz.prog 236 #[.func (.yield l) #[] #[], .pointer (some ⟨bx, 0, none⟩)] W fun e W' =>
      ((∃ x, e = .returned x) ∧ (J ((Tree.mk k b n s ks ts).pre 1) W' ∨ Jx W')) ∨ (∃ ch, e = .panicked ch ∧ Jp ch W') := by
  have hw := walk_any hd h58 hro R (.mk k b n s ks ts) (m - 1) 1 _ [] W hv hJ (by omega) (by simp only [Tree.height]; omega) (List.prefix_refl _)
  refine callsIn_of_wp Tryz.func236 rfl h57 ?_ hro
  simp only [Tryz.ntmps236, List.size_toArray, List.length_cons, List.length_nil, Nat.reduceAdd, Nat.reduceSub, Array.replicate_succ, Array.replicate_zero, List.push_toArray, List.append_toArray, List.nil_append, List.cons_append]
  gi_wp2_with fail
  refine hw.mono ?_
  rintro e W3 (⟨rfl, hJ3, ha3⟩ | ⟨rfl, hx3⟩ | ⟨ch, rfl, hp3⟩)
  · clear hw
    gi_wp2_with fail
    go_end0
    exact .inl ⟨⟨_, rfl⟩, .inl (by simpa using hJ3)⟩
  · clear hw
    gi_wp2_with fail
    go_end0
    exact .inl ⟨⟨_, rfl⟩, .inr hx3⟩
  · exact ⟨rfl, .inr ⟨ch, rfl, hp3⟩⟩

theorem within_any {F : Fence} (h45 : F.fn 204) (hro : F.round = none) (m : Nat) (k : Int) (b : Bool) (n : Int) (s : ByteArray) (ka : Option Addr) (kl kc : Nat) (la : Option Addr) (ll lc : Nat) (w : World) :
    CallsIn F m Tryz.prog 204 #[.agg #[.int .i64 k, .bool b, .int .i64 n, .string s, .slice ka kl kc, .slice la ll lc]] w fun e w' =>
      e = .returned (.func (.func 236) #[] #[.pointer (some ⟨w.heap.size, 0, none⟩)]) ∧ w' = w.alloc (.cells #[.int .i64 k, .bool b, .int .i64 n, .string s, .slice ka kl kc, .slice la ll lc] 60) := by
  refine callsIn_of_wp Tryz.func204 rfl h45 ?_ hro
  simp only [Tryz.ntmps204, List.size_toArray, List.length_cons, List.length_nil, Nat.reduceAdd, Nat.reduceSub, Array.replicate_succ, Array.replicate_zero, List.push_toArray, List.append_toArray, List.nil_append, List.cons_append]
  gi_wp2
  go_ret
  exact ⟨rfl, rfl⟩
end Go.Proofs.YteddjlbfbpecjaaGreatDoor
