/- The shelf's contract at this dump: bits.Len. What is kept of properties: none, and one that is not null. The chapter's rows of graphs: what they are made of. -/
import Derived.Shelf.Small.Bits
import Derived.Ground.NamesProg
import Derived.Test.YteddjlbfbpecjaaGreatDoorProg
import Derived.Test.YteddjlbfbpecjaaGreatDoorJoin18
import Derived.Test.YteddjlbfbpecjaaGreatDoorGed22
import Derived.Test.YteddjlbfbpecjaaGreatDoorJoin17
namespace Go.Proofs
open Go.Shelf
def Tryz.lays125_ren : Go.Shelf.Ren := ⟨fun | 125 => 167 | 128 => 202 | 129 => 203 | n => n, fun | 46 => 200 | 3 => 3 | 51 => 234 | 53 => 236 | 4 => 4 | 5 => 5 | 9 => 9 | n => n, fun | n => n⟩
theorem Tryz.lays125 : Go.Proofs.Lays.n125 Tryz.prog Tryz.lays125_ren := {
  mixed := by kernel_rfl
  f125 := Tryz.func167.trans (congrArg some (by kernel_rfl))
  f128 := Tryz.func202.trans (congrArg some (by kernel_rfl))
  f129 := Tryz.func203.trans (congrArg some (by kernel_rfl))
  t3 := Tryz.underlying3
  a3 := Tryz.isAgg3
  z3 := Tryz.sizeOf3
  v3 := Tryz.zeroValue3
  t4 := Tryz.underlying4
  a4 := Tryz.isAgg4
  z4 := Tryz.sizeOf4
  v4 := Tryz.zeroValue4
  t5 := Tryz.underlying5
  a5 := Tryz.isAgg5
  z5 := Tryz.sizeOf5
  v5 := Tryz.zeroValue5
  t9 := Tryz.underlying9
  a9 := Tryz.isAgg9
  z9 := Tryz.sizeOf9
  v9 := Tryz.zeroValue9
  t46 := Tryz.underlying200
  a46 := Tryz.isAgg200
  z46 := Tryz.sizeOf200
  v46 := Tryz.zeroValue200
  t51 := Tryz.underlying234
  a51 := Tryz.isAgg234
  z51 := Tryz.sizeOf234
  v51 := Tryz.zeroValue234
  t53 := Tryz.underlying236
  a53 := Tryz.isAgg236
  z53 := Tryz.sizeOf236
  v53 := Tryz.zeroValue236 }
theorem Tryz.bits_Len (x : Int) (w : World) (h0 : 0 ≤ x) (h1 : x ≤ 18446744073709551615) :
    Calls Tryz.prog 167 #[.int .u64 x] w fun e w' => e = .returned (.int .i64 (Lib.bitLen x.toNat)) ∧ w' = w := Any.bits_Len Tryz.lays125 x w h0 h1
end Go.Proofs

namespace Go.Proofs.YteddjlbfbpecjaaGreatDoor
open Go.RowKit Go.Shelf
set_option linter.unusedVariables false
set_option linter.unusedSimpArgs false
attribute [local go_sem] Oper.semAt_some
set_option maxRecDepth 100000 in
theorem isnullP_any (key : ByteArray) (T : Tree) (c0 c1 c2 c3 c4 c5 : Value) (B : Nat) (w : World) (hB : B ≤ w.heap.size) (hv : Lies B w (.agg #[c0, c1, c2, c3, c4, c5]) T) (hE : Env w) (hm : Modest T) :
    Calls Tryz.prog 132 #[.agg #[.string key, c0, c1, c2, c3, c4, c5]] w fun e w' => e = .returned (.bool (sameB T nullT)) ∧ Below w.heap.size w w' := by
  obtain ⟨k, x, n, s, ks, ts⟩ := T
  have HV := hidE hv
  simp only [Lies] at hv
  obtain ⟨ka, kc, la, lc, hag, _⟩ := hv
  obtain ⟨rfl, rfl, rfl, rfl, rfl, rfl⟩ : c0 = .int .i64 k ∧ c1 = .bool x ∧ c2 = .int .i64 n ∧ c3 = .string s ∧ c4 = .slice ka ks.length kc ∧ c5 = .slice la ts.length lc := by
    simpa using hag
  have HE := hidE hE
  have HMo := hidE hm
  clear hag hE hm
  go_enter Tryz.func132, Tryz.ntmps132
  go_upto_region 1 with fail
  generalize hW1 : World.alloc _ _ = W1
  have HB1 : Hid (Below w.heap.size w W1) := by rw [← hW1]; exact (Below.refl _ _).alloc (Nat.le_refl _) _
  have hr := rec_new w #[.string key, .int .i64 k, .bool x, .int .i64 n, .string s, .slice ka ks.length kc, .slice la ts.length lc] 79
  rw [hW1] at hr
  clear hW1
  have r1 := hr.cell 1 rfl
  have r2 := hr.cell 2 rfl
  have r3 := hr.cell 3 rfl
  have r4 := hr.cell 4 rfl
  have r5 := hr.cell 5 rfl
  have r6 := hr.cell 6 rfl
  clear hr
  have HC := hidE (isnull_any _ B _ W1 (Nat.le_trans hB HB1.out.size) (HV.out.below (HB1.out.mono hB)) (HE.out.below HB1.out HE.out.room) HMo.out)
  go_wp2_with fail
  refine HC.out.mono ?_
  rintro e w2 ⟨rfl, hb2⟩
  have HB2 := hidE (below_on HB1.out hb2)
  clear hb2 r1 r2 r3 r4 r5 r6 HC
  go_wp2_with fail
  go_ret
  exact ⟨rfl, HB2.out⟩
set_option maxRecDepth 100000 in
theorem index_none (a : Option Addr) (c : Nat) (f : Value) (w : World) : Calls Tryz.prog 171 #[.slice a 0 c, f] w fun e w' => e = .returned (.int .i64 (-1)) ∧ w' = w := by
  go_enter Tryz.func171, Tryz.ntmps171
  go_wp2_with fail
  go_loopw [8] (fun i wr => i = .int .i64 0 ∧ wr = w) (fun _ _ => 0)
  case atStart => exact ⟨rfl, rfl⟩
  case round =>
    obtain ⟨rfl, rfl⟩ := hrel
    go_wp2_with fail
    go_ret
    exact ⟨rfl, rfl⟩
set_option maxRecDepth 100000 in
set_option maxHeartbeats 2000000 in
theorem index_one (key : ByteArray) (T : Tree) (bl off pc : Nat) (B : Nat) (w : World) (hB : B ≤ w.heap.size) (hbl : bl < w.heap.size) (hpc : 1 ≤ pc) (hpc2 : pc ≤ 9223372036854775807) (hp : PropAt B w bl off (key, T)) (hE : Env w) (hm : Modest T) (hn : sameB T nullT = false) :
    Calls Tryz.prog 171 #[.slice (some ⟨bl, off, none⟩) 1 pc, .func (.func 132) #[] #[]] w fun e w' => e = .returned (.int .i64 (-1)) ∧ Below w.heap.size w w' := by
  obtain ⟨a0, hs0, v0, v1, v2, v3, v4, v5, ⟨c0, c1, c2, c3, c4, c5⟩, hv⟩ := hp
  simp only at a0 hv
  have HC := hidE (isnullP_any key T v0 v1 v2 v3 v4 v5 B w hB hv hE hm)
  rw [hn] at HC
  clear hE hm hn
  go_enter Tryz.func171, Tryz.ntmps171
  go_wp2_with fail
  go_loopw [8] (fun i wr => (i = .int .i64 0 ∧ wr = w) ∨ (i = .int .i64 1 ∧ Below w.heap.size w wr)) (fun i _ => 1 - (intOf i).toNat)
  case atStart => exact .inl ⟨rfl, rfl⟩
  case round =>
    rcases hrel with ⟨rfl, hw⟩ | ⟨rfl, hbr⟩
    · rw [hw]
      clear hw
      go_wp2_with fail
      refine HC.out.mono ?_
      rintro e w2 ⟨rfl, hb2⟩
      have HB2 := hidE hb2
      clear hb2 a0 c0 c1 c2 c3 c4 c5
      go_wp2_with fail
      go_roundw
      case rel => exact .inr ⟨by go_num, HB2.out⟩
      case measure => simp [intOf]
    · have HBR := hidE hbr
      clear hbr
      go_wp2_with fail
      go_ret
      exact ⟨rfl, HBR.out⟩
set_option maxRecDepth 100000 in
set_option maxHeartbeats 2000000 in
theorem delete_same (v f : Value) (w : World) (h : Calls Tryz.prog 171 #[v, f] w fun e w' => e = .returned (.int .i64 (-1)) ∧ Below w.heap.size w w') :
    Calls Tryz.prog 131 #[v, f] w fun e w' => e = .returned v ∧ Below w.heap.size w w' := by
  have HC := hidE h
  clear h
  go_enter Tryz.func131, Tryz.ntmps131
  go_wp2_with fail
  refine HC.out.mono ?_
  rintro e w2 ⟨rfl, hb2⟩
  have HB2 := hidE hb2
  clear hb2
  go_wp2_with fail
  go_ret
  exact ⟨rfl, HB2.out⟩
set_option maxRecDepth 100000 in
set_option maxHeartbeats 2000000 in
theorem insertion_few (v f : Value) (n : Nat) (hn : n ≤ 1) (w : World) : Calls Tryz.prog 208 #[v, .int .i64 0, .int .i64 n, f] w fun e w' => e = .returned (.tuple #[]) ∧ w' = w := by
  have hn' : ¬ ((1 : Int) < n) := by omega
  go_enter Tryz.func208, Tryz.ntmps208
  go_wp2_with fail
  go_loopw [8] (fun i wr => i = .int .i64 1 ∧ wr = w) (fun _ _ => 0)
  case atStart => exact ⟨rfl, rfl⟩
  case round =>
    obtain ⟨rfl, rfl⟩ := hrel
    go_wp2_with fail
    exact bodyPost_end (v := .tuple #[]) (by simp [results, Tryz.results208, go_sem]) rfl ⟨rfl, rfl⟩
set_option maxRecDepth 100000 in
set_option maxHeartbeats 4000000 in
theorem pdq_few (v f : Value) (n : Nat) (hn : n ≤ 1) (l : Int) (w : World) : Calls Tryz.prog 172 #[v, .int .i64 0, .int .i64 n, .int .i64 l, f] w fun e w' => e = .returned (.tuple #[]) ∧ w' = w := by
  have hn' : (n : Int) ≤ 12 := by omega
  have hsub : ∀ W : World, (binOp .sub 3 (.int .i64 (n : Int)) (.int .i64 0)).run Tryz.prog W = .ok (.int .i64 (n : Int)) W := fun W => by
    have hw : IntKind.i64.wrap (n : Int) = n := by rw [IntKind.wrap_i64]; omega
    simp [binOp, go_sem, hw]
  have HC := hidE (insertion_few v f n hn w)
  clear hn
  go_enter Tryz.func172, Tryz.ntmps172
  go_wp2_with fail
  go_loopw [1, 2] (fun i j wr => i = .int .i64 0 ∧ j = .int .i64 (n : Int) ∧ wr = w) (fun _ _ _ => 0)
  case atStart => exact ⟨rfl, rfl, rfl⟩
  case round =>
    obtain ⟨rfl, rfl, hwr⟩ := hrel
    rw [hwr]
    clear hwr
    go_wp2_with fail
    refine HC.out.mono ?_
    rintro e w2 ⟨rfl, hw2⟩
    rw [hw2]
    clear hw2
    go_wp2_with fail
    exact bodyPost_ret (v := .tuple #[]) (by simp [results, Tryz.results172, go_sem]) rfl ⟨rfl, rfl⟩
set_option maxRecDepth 100000 in
set_option maxHeartbeats 4000000 in
theorem sortP_few (a : Option Addr) (n c : Nat) (f : Value) (hn : n ≤ 1) (w : World) : Calls Tryz.prog 133 #[.slice a n c, f] w fun e w' => e = .returned (.tuple #[]) ∧ w' = w := by
  have HL := hidE (Tryz.bits_Len (n : Int) w (by omega) (by omega))
  have HC := hidE (fun l => pdq_few (.slice a n c) f n hn l w)
  generalize (Lib.bitLen (n : Int).toNat : Int) = l at HL
  have hw : IntKind.u64.wrap (n : Int) = n := by rw [IntKind.wrap_u64]; omega
  clear hn
  go_enter Tryz.func133, Tryz.ntmps133
  go_wp2_with fail
  refine HL.out.mono ?_
  rintro e w2 ⟨rfl, hw2⟩
  rw [hw2]
  clear hw2
  go_wp2_with fail
  refine (HC.out _).mono ?_
  rintro e w3 ⟨rfl, hw3⟩
  rw [hw3]
  clear hw3
  go_wp2_with fail
  exact bodyPost_end (v := .tuple #[]) (by simp [results, Tryz.results133, go_sem]) rfl ⟨rfl, rfl⟩
set_option maxRecDepth 100000 in
set_option maxHeartbeats 4000000 in
theorem kept_nil (n c : Nat) (w : World) : Calls Tryz.prog 88 #[.slice none n c] w fun e w' => e = .returned (.slice none 0 0) ∧ Below w.heap.size w w' := by
  have H1 := hidE (copiesP_nil (.func (.func 101) #[] #[]) n c w)
  have H2 := hidE (delete_same (.slice none 0 0) (.func (.func 132) #[] #[]) w ((index_none none 0 _ w).mono fun e w' h => ⟨h.1, h.2 ▸ Below.refl _ _⟩))
  have H3 := hidE (fun W => sortP_few none 0 0 (.func (.func 134) #[] #[]) (by omega) W)
  go_enter Tryz.func88, Tryz.ntmps88
  go_wp2_with fail
  refine H1.out.mono ?_
  rintro e w2 ⟨rfl, hw2⟩
  rw [hw2]
  clear hw2
  go_wp2_with fail
  refine H2.out.mono ?_
  rintro e w3 ⟨rfl, hb3⟩
  have HB3 := hidE hb3
  clear hb3
  go_wp2_with fail
  refine (H3.out _).mono ?_
  rintro e w4 ⟨rfl, hw4⟩
  rw [hw4]
  clear hw4
  go_wp2_with fail
  go_ret
  exact ⟨rfl, HB3.out⟩
set_option maxRecDepth 100000 in
set_option maxHeartbeats 4000000 in
theorem kept_one (key : ByteArray) (T : Tree) (bl off pc : Nat) (B : Nat) (w : World) (hB : B ≤ w.heap.size) (hbl : bl < B) (hpc : 1 ≤ pc) (hpc2 : pc ≤ 9223372036854775807) (hp : PropAt B w bl off (key, T)) (ht : T.total ≤ 1000000) (hE : Env w) (hm : Modest T) (hn : sameB T nullT = false) :
    Calls Tryz.prog 88 #[.slice (some ⟨bl, off, none⟩) 1 pc] w fun e w' => ∃ d0 d1 d2 d3 d4 d5, e = .returned (.slice (some ⟨w.heap.size, 0, none⟩) 1 1) ∧ Rec w' w.heap.size #[.string key, d0, d1, d2, d3, d4, d5] 79 ∧ LiesF (w.heap.size + 1) w'.heap.size w' (.agg #[d0, d1, d2, d3, d4, d5]) T ∧ Below w.heap.size w w' := by
  have hks := hp.2.1
  have H1 := hidE (copiesP_one key T bl off pc B w hB hbl hpc hpc2 hp ht)
  have H3 := hidE (fun W => sortP_few (some ⟨w.heap.size, 0, none⟩) 1 1 (.func (.func 134) #[] #[]) (by omega) W)
  have HE := hidE hE
  have HMo := hidE hm
  have HN := hidE hn
  have HK := hidE hks
  clear hp ht hE hm hn hks
  go_enter Tryz.func88, Tryz.ntmps88
  go_wp2_with fail
  refine H1.out.mono ?_
  rintro e w2 ⟨d0, d1, d2, d3, d4, d5, rfl, hr2, hl2, hb2⟩
  have HP2 : Hid (PropAt w2.heap.size w2 w.heap.size 0 (key, T)) := ⟨hr2.cell 0 rfl, HK.out, d0, d1, d2, d3, d4, d5, ⟨hr2.cell 1 rfl, hr2.cell 2 rfl, hr2.cell 3 rfl, hr2.cell 4 rfl, hr2.cell 5 rfl, hr2.cell 6 rfl⟩, hl2.lie⟩
  have H2 := hidE (delete_same (.slice (some ⟨w.heap.size, 0, none⟩) 1 1) (.func (.func 132) #[] #[]) w2 (index_one key T w.heap.size 0 1 w2.heap.size w2 (Nat.le_refl _) hr2.lt (by omega) (by omega) HP2.out (HE.out.below hb2 HE.out.room) HMo.out HN.out))
  have HR2 := hidE hr2
  have HL2 := hidE hl2
  have HB2 := hidE hb2
  clear hr2 hl2 hb2 HP2
  go_wp2_with fail
  refine H2.out.mono ?_
  rintro e w3 ⟨rfl, hb3⟩
  have HR3 := hidE (HR2.out.below hb3 HR2.out.lt)
  have HL3 : Hid (LiesF (w.heap.size + 1) w3.heap.size w3 (.agg #[d0, d1, d2, d3, d4, d5]) T) := LiesF.mono (Nat.le_refl _) hb3.size (HL2.out.block fun b h1 h2 => hb3.block b h2)
  have HB3 := hidE (below_on HB2.out hb3)
  clear hb3
  go_wp2_with fail
  refine (H3.out _).mono ?_
  rintro e w4 ⟨rfl, hw4⟩
  rw [hw4]
  clear hw4
  go_wp2_with fail
  go_ret
  exact ⟨d0, d1, d2, d3, d4, d5, rfl, HR3.out, HL3.out, HB3.out⟩
end Go.Proofs.YteddjlbfbpecjaaGreatDoor

namespace Go.Proofs.YteddjlbfbpecjaaGreatDoor
open Go.RowKit Go.Shelf
set_option linter.unusedVariables false
set_option linter.unusedSimpArgs false
attribute [local go_sem] Oper.semAt_some
def tK : Tree := .mk 2 false 1 ⟨#[]⟩ [] []
theorem tK_lies (B : Nat) (w : World) : Lies B w (.agg #[.int .i64 2, .bool false, .int .i64 1, .string ⟨#[]⟩, .slice none 0 0, .slice none 0 0]) tK := by
  unfold tK
  simp only [Lies]
  exact ⟨none, 0, none, 0, rfl, ⟨by unfold maxLen; decide, Nat.le_refl _, Nat.zero_le _, Nat.le_refl _, Nat.zero_le _⟩, Or.inl (by simp), Or.inl (by simp)⟩
theorem tK_modest : Modest tK := ⟨by decide, by decide⟩
theorem tK_check : checkN tK = 0 := by
  unfold checkN tK
  simp [Tree.pre, Tree.preL, shapedB, heavy, blankB, Lib.validD]
  rw [if_pos (by decide), if_neg (by decide)]
theorem tK_full : sameB tK nullT = false := by
  have h : (ordT tK nullT == 0) = false := by
    unfold tK nullT ordT
    have e : cmpI (rankN 2) (rankN 0) ≠ 0 := by decide
    rw [if_neg e]
    simpa using e
  unfold sameB
  rw [h, Bool.and_false]
theorem tK_total : tK.total ≤ 1000000 := by decide
theorem names_BA : namesB [⟨#[66]⟩, ⟨#[65]⟩] = true := by decide
theorem name_T : nameOk (⟨#[84]⟩ : ByteArray).data.toList = true := by decide
theorem name_k : nameOk (⟨#[107]⟩ : ByteArray).data.toList = true := by decide
theorem prop_k : propB (⟨#[107]⟩, tK) = true := by
  have h1 : storB tK = true := by decide
  unfold propB
  simp only
  rw [name_k, tK_check, h1]
  simp
theorem settable_k : settableB [(⟨#[107]⟩, tK)] = true := by
  unfold settableB keysOnce
  simp [prop_k, seenAdd]
theorem settable_none : settableB [] = true := by
  unfold settableB keysOnce
  simp
theorem props_none (B : Nat) (w : World) : PropsLie B w (.slice none 0 0) [] := ⟨none, 0, rfl, Nat.le_refl _, by decide, .inl rfl⟩
theorem set_none {w W : World} (hE : Env w) (hb : Below w.heap.size w W) : Calls Tryz.prog 86 #[.slice none 0 0] W fun e w' => e = .returned (.bool true) ∧ Below W.heap.size W w' := by
  have h := settable_any (.slice none 0 0) [] W.heap.size W (Nat.le_refl _) (Nat.le_trans hE.room hb.size) (props_none _ _) (by simp) (hE.below hb hE.room)
  rwa [settable_none] at h
theorem keep_none (W : World) : Calls Tryz.prog 88 #[.slice none 0 0] W fun e w' => ∃ a n c, e = .returned (.slice a n c) ∧ (Value.slice a n c = .slice none 0 0) ∧ Below W.heap.size W w' :=
  (kept_nil 0 0 W).mono fun e w' ⟨h1, h2⟩ => ⟨none, 0, 0, h1, rfl, h2⟩
theorem name_yes {w W : World} (hE : Env w) (hb : Below w.heap.size w W) : Calls Tryz.prog 90 #[.string ⟨#[84]⟩] W fun e w' => e = .returned (.bool true) ∧ Below W.heap.size W w' := by
  have h := name_any ⟨#[84]⟩ (by decide) W (hE.below hb hE.room)
  rwa [name_T] at h
theorem i64_of {k : Int} (h1 : -9223372036854775808 ≤ k) (h2 : k ≤ 9223372036854775807) : I64 k := by
  unfold I64 Lit.wf
  have e1 : IntKind.i64.min = -9223372036854775808 := by decide
  have e2 : IntKind.i64.max = 9223372036854775807 := by decide
  simp [e1, e2, h1, h2]
end Go.Proofs.YteddjlbfbpecjaaGreatDoor

