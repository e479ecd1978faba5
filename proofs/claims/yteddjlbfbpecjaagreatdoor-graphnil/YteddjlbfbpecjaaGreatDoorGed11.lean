/- The texts of a list, gathered anew by a range over a function. -/
import Derived.Test.YteddjlbfbpecjaaGreatDoorJoin12
import Derived.Test.YteddjlbfbpecjaaGreatDoorIter
namespace Go.Proofs.YteddjlbfbpecjaaGreatDoor
open Go.RowKit Go.Shelf
set_option linter.unusedVariables false
set_option linter.unusedSimpArgs false
attribute [local go_sem] Oper.semAt_some
/-- Where the texts of a row lie, below n. -/
def TextsIn (n : Nat) (W : World) (a : Option Addr) (ks : List ByteArray) : Prop := ∀ i x, ks[i]? = some x → ∃ b off, a = some ⟨b, off, none⟩ ∧ b < n ∧ W.cell? ⟨b, off + i, none⟩ = some (.string x)
theorem TextsIn.below {n : Nat} {W W' : World} {a : Option Addr} {ks : List ByteArray} (h : TextsIn n W a ks) (hb : Below n W W') : TextsIn n W' a ks := fun i x hx => by
  obtain ⟨b, off, e, hl, hc⟩ := h i x hx
  exact ⟨b, off, e, hl, (hb.cell (p := ⟨b, off + i, none⟩) hl).trans hc⟩
theorem TextsIn.mono {n m : Nat} {W : World} {a : Option Addr} {ks : List ByteArray} (h : TextsIn n W a ks) (hm : n ≤ m) : TextsIn m W a ks := fun i x hx => by
  obtain ⟨b, off, e, hl, hc⟩ := h i x hx
  exact ⟨b, off, e, by omega, hc⟩
theorem take_prefix_snoc {α : Type} {ks : List α} {j : Nat} {x : α} (h : ks[j]? = some x) : ks.take j ++ [x] <+: ks := by
  have e : ks.take j ++ [x] = ks.take (j + 1) := by
    rw [List.take_add_one, h]; rfl
  rw [e]; exact List.take_prefix _ _
theorem takeT_snoc {α : Type} {ks : List α} {j : Nat} {x : α} (h : ks[j]? = some x) : ks.take j ++ [x] = ks.take (j + 1) := by
  rw [List.take_add_one, h]; rfl
set_option maxRecDepth 100000 in
set_option maxHeartbeats 2000000 in
theorem values1S_any {F : Fence} (hd : F.depth = none) (hro : F.round = none) (hfn : ∀ f, F.fn f) {l n₀ : Nat} (ks : List ByteArray) (hks : ks.length ≤ 1000000000) (a : Option Addr) (cap Bs : Nat) (J : List ByteArray → World → Prop)
    (hY : ∀ m pre x W, J pre W → pre ++ [x] <+: ks → YieldAt F m Tryz.prog l #[.string x] W fun e W' => e = .returned (.bool true) ∧ J (pre ++ [x]) W' ∧ Below n₀ W W')
    (W : World) (hBs : W.cell? ⟨Bs, 0, none⟩ = some (.slice a ks.length cap)) (hcap : ks.length ≤ cap) (hat : TextsIn n₀ W a ks) (h0 : J [] W) (m : Nat) :
    CallsIn F m Tryz.prog 176 #[.func (.yield l) #[] #[], .pointer (some ⟨Bs, 0, none⟩)] W fun e W' => (∃ v, e = .returned v) ∧ J ks W' := by
  have hdd := depth_none hd
  have HT := hidE hat
  have HY := hidE hY
  obtain ⟨n, hn⟩ : ∃ n, ks.length = n := ⟨_, rfl⟩
  have HN := hidE hn
  rw [hn] at hBs hcap hks
  clear hat hY hn
  refine callsIn_of_wp Tryz.func176 rfl (hfn _) ?_ hro
  simp only [Tryz.ntmps176, List.size_toArray, List.length_cons, List.length_nil, Nat.reduceAdd, Nat.reduceSub, Array.replicate_succ, Array.replicate_zero, List.push_toArray, List.append_toArray, List.nil_append, List.cons_append]
  gi_wp2_with fail
  gi_loopw [7] (fun i wr => ∃ j : Nat, j ≤ n ∧ i = .int .i64 j ∧ J (ks.take j) wr ∧ Below n₀ W wr) (fun i _ => n - (intOf i).toNat)
  case atStart => exact ⟨0, Nat.zero_le _, rfl, by simpa using h0, Below.refl _ _⟩
  case round =>
    obtain ⟨j, hj, rfl, hJr, hbr⟩ := hrel
    by_cases hlt : j < n
    · obtain ⟨x, hx⟩ : ∃ x, ks[j]? = some x := ⟨_, List.getElem?_eq_getElem (by have := HN.out; omega)⟩
      obtain ⟨b, off, rfl, hbl, hc⟩ := HT.out j x hx
      have c0 := (hbr.cell (p := ⟨b, off + j, none⟩) hbl).trans hc
      obtain ⟨fn, tmps, assign, body, hy1, hR⟩ := HY.out (m - 1) (ks.take j) x wr hJr (take_prefix_snoc hx)
      have HX := hidE hx
      have HBR := hidE hbr
      clear hx hc hJr hbr hBs h0
      gi_wp2_with fail
      refine hR.mono ?_
      clear hR hy1
      rintro e W3 ⟨rfl, hJ3, hb3⟩
      rw [takeT_snoc HX.out] at hJ3
      have HB3 := hidE (HBR.out.trans hb3)
      have HJ3 := hidE hJ3
      clear hb3 hJ3 c0
      gi_wp2_with fail
      go_roundw
      case rel => exact ⟨j + 1, by omega, by go_num, HJ3.out, HB3.out⟩
      case measure => simp [intOf]; omega
    · have hJe : J ks wr := by rwa [List.take_of_length_le (by have := HN.out; omega)] at hJr
      have HJ := hidE hJe
      clear hJr hJe hBs h0
      gi_wp2_with fail
      go_end0
      exact ⟨⟨_, rfl⟩, HJ.out⟩
/-- What the rounds keep. -/
structure ApJ (w : World) (rec : Loop) (pre : List ByteArray) (W : World) : Prop where
  room : w.heap.size + 3 ≤ W.heap.size
  loop : W.heap[w.heap.size + 2]? = some (.loop rec)
  dfr : W.heap[w.heap.size + 1]? = some (.deferred (some []))
  box : ∃ v, Boxed W w.heap.size 44 v ∧ W.ownsRow (w.heap.size + 3) 9 1 v pre.length (pre.map Value.string)
  below : Below w.heap.size w W
theorem row_slice {W : World} {base e size n : Nat} {v : Value} {xs : List Value} (h : W.ownsRow base e size v n xs) : ∃ ua uc, v = .slice ua n uc := by
  obtain ⟨_, ⟨h1, h2⟩ | ⟨g, cap, cur, h1, _⟩⟩ := h
  · subst h2; exact ⟨none, 0, h1⟩
  · exact ⟨_, _, h1⟩
theorem row_keep {base e size n : Nat} {xs : List Value} {v : Value} {w w1 : World} (hown : w.ownsRow base e size v n xs) (hb : ∀ g, base ≤ g → g < w.heap.size → w1.heap[g]? = w.heap[g]?) : w1.ownsRow base e size v n xs := by
  obtain ⟨g1, ⟨g2, g3⟩ | ⟨g, cap, cur, g2, g3, g4, g5⟩⟩ := hown
  · exact ⟨g1, .inl ⟨g2, g3⟩⟩
  · exact ⟨g1, .inr ⟨g, cap, cur, g2, g3, (hb g g3 (Array.getElem?_eq_some_iff.1 g4).1).trans g4, g5⟩⟩
theorem row_grown {base e size n : Nat} {v : Value} {xs : List Value} {w w' : World} (hown : w.ownsRow base e size v n xs) (hB : base ≤ w.heap.size) (hg : w.grownBy w' v.ownBlock) : Below base w w' :=
  (Below.refl base w).grown hg hB fun q h => (hown.lt q h).1
theorem row_base {base base' e size n : Nat} {v : Value} {xs : List Value} {w : World} (hown : w.ownsRow base e size v n xs) (hb : base' ≤ base) : w.ownsRow base' e size v n xs := by
  obtain ⟨g1, ⟨g2, g3⟩ | ⟨g, cap, cur, g2, g3, g4, g5⟩⟩ := hown
  · exact ⟨g1, .inl ⟨g2, g3⟩⟩
  · exact ⟨g1, .inr ⟨g, cap, cur, g2, by omega, g4, g5⟩⟩
theorem Tryz.info9 : (Tryz.prog.info? 9).map (fun i => (i.zero, i.size, i.bytes)) = some (some (.string ⟨#[]⟩), 1, 16) := by kernel_rfl
set_option maxRecDepth 100000 in
set_option maxHeartbeats 2000000 in
theorem appendSeqS_any (ks : List ByteArray) (hks : ks.length ≤ 100000000) (a : Option Addr) (cap Bs : Nat) (w : World) (hBs : Boxed w Bs 44 (.slice a ks.length cap)) (hcap : ks.length ≤ cap) (hat : TextsIn w.heap.size w a ks) :
    Calls Tryz.prog 217 #[.slice none 0 0, .func (.func 176) #[] #[.pointer (some ⟨Bs, 0, none⟩)]] w fun e w' => ∃ v, e = .returned v ∧ w'.ownsRow w.heap.size 9 1 v ks.length (ks.map Value.string) ∧ Below w.heap.size w w' := by
  refine (callsIn_wide (n := 0)).1 ?_
  obtain ⟨F, hF⟩ : ∃ F, F = Fence.wide := ⟨_, rfl⟩
  rw [← hF]
  have hd : F.depth = none := by rw [hF]; rfl
  have hro : F.round = none := by rw [hF]; rfl
  have hfn : ∀ f, F.fn f := by rw [hF]; exact fun _ => trivial
  clear hF
  have HT := hidE hat
  have HBS := hidE hBs
  have hBl := hBs.lt
  clear hat hBs
  refine callsIn_of_wp_marks Tryz.func217 rfl (hfn _) ?_ hro
  simp only [Tryz.ntmps217, List.size_toArray, List.length_cons, List.length_nil, Nat.reduceAdd, Nat.reduceSub, Array.replicate_succ, Array.replicate_zero, List.push_toArray, List.append_toArray, List.nil_append, List.cons_append]
  gi_wp2_with fail
  refine range_wp hro hd (gf := 176) (lb := #[.pointer (some ⟨Bs, 0, none⟩)]) rfl (hfn _) (enters_of Tryz.func176 (by kernel_rfl) rfl) ?_
  intro fn hfn0
  generalize hrec : Loop.mk _ _ _ _ _ _ _ _ = rec
  simp only [World.size_alloc]
  generalize hW0 : World.alloc _ (Obj.loop rec) = W0
  have hsz : W0.heap.size = w.heap.size + 3 := by rw [← hW0]; simp
  have b0 : W0.heap[w.heap.size]? = some (.cells #[.slice none 0 0] 44 (0, 0)) := by rw [← hW0]; simp only [heap_alloc_at, World.size_alloc]; repeat (first | rw [if_pos trivial] | rw [if_pos (by omega)] | rw [if_neg (by omega)])
  have b1 : W0.heap[w.heap.size + 1]? = some (.deferred (some [])) := by rw [← hW0]; simp only [heap_alloc_at, World.size_alloc]; repeat (first | rw [if_pos trivial] | rw [if_pos (by omega)] | rw [if_neg (by omega)])
  have b2 : W0.heap[w.heap.size + 2]? = some (.loop rec) := by rw [← hW0]; simp only [heap_alloc_at, World.size_alloc]; repeat (first | rw [if_pos trivial] | rw [if_pos (by omega)] | rw [if_neg (by omega)])
  have hbl : Below w.heap.size w W0 := by
    rw [← hW0]
    exact (((Below.refl _ _).alloc (Nat.le_refl _) _).alloc (by simp) _).alloc (by simp; omega) _
  have HJ0 : Hid (ApJ w rec [] W0) := ⟨by omega, b2, b1, ⟨_, b0, World.ownsRow_nil _ _ _ _⟩, hbl⟩
  have hBx : Boxed W0 Bs 44 (.slice a ks.length cap) := (hbl.block Bs hBl).trans HBS.out
  have HBX0 := hidE hBx
  have HT0 := hidE (HT.out.below hbl)
  clear hW0 b0 b1 b2 hbl hBx HT HBS
  have HYI : Hid (∀ m pre x W, ApJ w rec pre W → pre ++ [x] <+: ks → YieldAt F m Tryz.prog (w.heap.size + 2) #[.string x] W fun e W' => e = .returned (.bool true) ∧ ApJ w rec (pre ++ [x]) W' ∧ Below w.heap.size W W') := by
    intro m pre x W hJ hpre
    have hpl : pre.length + 1 ≤ ks.length := by have := hpre.length_le; simpa using this
    have HJ := hidE hJ
    have ea := congrArg Loop.assign hrec
    have eb := congrArg Loop.body hrec
    have et := congrArg Loop.tmps hrec
    have ep := congrArg Loop.params hrec
    have es := congrArg Loop.state hrec
    have hr0 : asReady rec = rec := by rw [← hrec]; rfl
    dsimp only at ea eb et ep es
    clear hrec
    refine yield_round (hfn _) ea eb et ep hJ.loop es.symm (by rw [← ep]; rfl) ?_
    clear ea eb et ep es hJ
    obtain ⟨i0, hi, hz0, hz1, hz2⟩ := info_parts Tryz.info9
    obtain ⟨v, hbx, hrow⟩ := HJ.out.box
    obtain ⟨ua, uc, rfl⟩ := row_slice hrow
    have hrm := HJ.out.room
    have HBX := hidE hbx
    have HROW := hidE hrow
    clear hbx hrow
    gi_wp2_with fail
    refine ⟨HJ.out.loop, ?_⟩
    generalize hW2 : World.putObj _ _ _ = W2
    have a2 : W2.heap[w.heap.size + 2]? = some (.loop (asBusy rec)) := by rw [← hW2]; exact World.putObj_heap_same (by omega)
    have ak : ∀ i, i ≠ w.heap.size + 2 → W2.heap[i]? = W.heap[i]? := fun i hi => by rw [← hW2]; exact World.putObj_heap_other hi
    have hs2 : w.heap.size + 3 ≤ W2.heap.size := by rw [← hW2]; simp; omega
    have hb2 : Below w.heap.size W W2 := by rw [← hW2]; exact (But.putObj _ _).below (Below.refl _ _) (by omega)
    clear hW2
    have hbx2 : Boxed W2 w.heap.size 44 (.slice ua pre.length uc) := (ak _ (by omega)).trans HBX.out
    have HROW2 : Hid (W2.ownsRow (w.heap.size + 3) 9 1 (.slice ua pre.length uc) pre.length (pre.map Value.string)) := row_keep HROW.out fun g hg _ => ak g (by omega)
    have cb := hbx2.cell
    have HBX2 := hidE hbx2
    have HA2 := hidE a2
    have HAK := hidE ak
    have HB2 := hidE hb2
    clear hbx2 a2 ak hb2 HROW HBX
    gi_wp2_with (gi_at_builtin; refine wpListIn_append_own _ rfl _ _ 44 rfl (w.heap.size + 3) 9 i0 (.string ⟨#[]⟩) 1 16 Tryz.underlying44 hi hz0 hz1 hz2 rfl (by decide) _ _ _ rfl (row_keep HROW2.out fun g _ hg => Below.heap_alloc _ _ _ hg) ⟨W2.heap.size, 0, none⟩ 1 1 [.string x] rfl rfl ?d1 ?d2 ?d3 ?d4 ?d5 ?_)
    case d1 =>
      intro j u hj
      have hadd : (⟨W2.heap.size, 0, none⟩ : Addr).add j = ⟨W2.heap.size, j, none⟩ := by unfold Addr.add; split <;> simp_all
      rw [hadd]
      refine cell_new _ _ _ _ _ ?_
      simpa using hj
    case d2 => intro u hu; simp only [List.mem_cons, List.not_mem_nil, or_false] at hu; subst hu; rfl
    case d3 => unfold maxLen; omega
    case d4 => omega
    case d5 => first | omega | (simp; omega)
    intro v3 w3 hown3 hgrow3 _
    obtain ⟨ub, ud, rfl⟩ := row_slice hown3
    have hb3 : Below (w.heap.size + 3) W2 w3 := ((Below.refl _ W2).alloc (by omega) _).trans (row_grown (row_keep HROW2.out fun g _ hg => Below.heap_alloc _ _ _ hg) (by simp; omega) hgrow3)
    have hbx3 : Boxed w3 w.heap.size 44 (.slice ua pre.length uc) := (hb3.block _ (by omega)).trans HBX2.out
    have HBX3 := hidE hbx3
    have HO3 := hidE hown3
    have HB3 := hidE hb3
    have hs3 := hb3.size
    have cb3 := hbx3.cell
    have fb3 := hbx3.frozen
    clear hown3 hgrow3 hb3 cb hbx3
    gi_wp2_with fail
    have hsl : (w3.setCell ⟨w.heap.size, 0, none⟩ (.slice ub (pre.length + 1) ud)).heap[w.heap.size + 2]? = some (.loop (asBusy rec)) := (Below.heap_setCell _ _ _ _ (by show w.heap.size + 2 ≠ w.heap.size; omega)).trans ((HB3.out.block _ (by omega)).trans HA2.out)
    refine ⟨hsl, rfl, ⟨?_, ?_, ?_, ⟨.slice ub (pre.length + 1) ud, ?_, ?_⟩, ?_⟩, ?_⟩
    · simp [World.setCell]; omega
    · rw [hr0]; exact World.putObj_heap_same (by simp [World.setCell]; omega)
    · rw [World.putObj_heap_other (by omega)]
      exact (Below.heap_setCell _ _ _ _ (by show w.heap.size + 1 ≠ w.heap.size; omega)).trans ((HB3.out.block _ (by omega)).trans ((HAK.out _ (by omega)).trans HJ.out.dfr))
    · show _ = _
      rw [World.putObj_heap_other (by omega)]
      exact HBX3.out.set _
    · have e : (pre ++ [x]).map Value.string = pre.map Value.string ++ [Value.string x] := by simp
      rw [e, List.length_append]
      exact row_keep HO3.out fun g hg _ => by
        rw [World.putObj_heap_other (by omega)]
        exact Below.heap_setCell _ _ _ _ (by show g ≠ w.heap.size; omega)
    · exact (But.putObj _ _).below ((HJ.out.below.trans (HB2.out.trans (HB3.out.mono (by omega)))).setCell (by show w.heap.size ≤ w.heap.size; omega) _) (by omega)
    · exact (But.putObj _ _).below ((HB2.out.trans (HB3.out.mono (by omega))).setCell (by show w.heap.size ≤ w.heap.size; omega) _) (by omega)
  have HV := hidE (values1S_any hd hro hfn (l := w.heap.size + 2) (n₀ := w.heap.size) ks (by omega) a cap Bs (ApJ w rec) HYI.out W0 HBX0.out.cell hcap HT0.out HJ0.out (0 - 1))
  clear HYI HJ0 HBX0 HT0
  refine HV.out.mono ?_
  rintro e W ⟨⟨v, rfl⟩, hJ⟩
  have hp : rec.pending = none := by rw [← hrec]
  have hst : rec.state ≠ .busy := by rw [← hrec]; simp
  have HJ := hidE hJ
  clear hrec hJ HV
  refine ⟨rec, HJ.out.loop, hst, ?_⟩
  simp only [hp]
  generalize hW5 : World.putObj _ _ _ = W5
  have hrm := HJ.out.room
  have HK5 : Hid (∀ i, i ≠ w.heap.size + 2 → W5.heap[i]? = W.heap[i]?) := fun i hi => by rw [← hW5]; exact World.putObj_heap_other hi
  have HB5 : Hid (Below w.heap.size w W5) := by rw [← hW5]; exact (But.putObj _ _).below HJ.out.below (by omega)
  have hs5 : W5.heap.size = W.heap.size := by rw [← hW5]; simp
  clear hW5
  obtain ⟨v5, hbx, hrow⟩ := HJ.out.box
  have cb := (show Boxed W5 w.heap.size 44 v5 from (HK5.out _ (by omega)).trans hbx).cell
  have HD5 : Hid (W5.heap[w.heap.size + 1]? = some (.deferred (some []))) := (HK5.out _ (by omega)).trans HJ.out.dfr
  have HR5 : Hid (W5.ownsRow (w.heap.size + 3) 9 1 v5 ks.length (ks.map Value.string)) := row_keep hrow fun g hg _ => HK5.out g (by omega)
  clear hbx hrow
  gi_wp2_with fail
  have hz3 : Below w.heap.size w (W5.putObj (w.heap.size + 1) (.deferred none)) := (But.putObj _ _).below HB5.out (by omega)
  show LeavesInM _ _ _ _ _ _ [_] .returning _
  refine ⟨by simp, .inl ⟨_, _, rfl, run_takeDeferred HD5.out, ?_⟩⟩
  refine ⟨v5, ?_, v5, rfl, ?_, hz3⟩
  · simp [results, Tryz.results217, go_sem]
  · exact row_base (row_keep HR5.out fun g hg _ => World.putObj_heap_other (by omega)) (by omega)
set_option maxRecDepth 100000 in
theorem collectS_any (ks : List ByteArray) (hks : ks.length ≤ 100000000) (a : Option Addr) (cap Bs : Nat) (w : World) (hBs : Boxed w Bs 44 (.slice a ks.length cap)) (hcap : ks.length ≤ cap) (hat : TextsIn w.heap.size w a ks) :
    Calls Tryz.prog 174 #[.func (.func 176) #[] #[.pointer (some ⟨Bs, 0, none⟩)]] w fun e w' => ∃ v, e = .returned v ∧ w'.ownsRow w.heap.size 9 1 v ks.length (ks.map Value.string) ∧ Below w.heap.size w w' := by
  have HC := hidE (appendSeqS_any ks hks a cap Bs w hBs hcap hat)
  clear hBs hcap hat
  go_enter Tryz.func174, Tryz.ntmps174
  go_wp2_with fail
  refine HC.out.mono ?_
  rintro e w2 ⟨v, rfl, ho, hb⟩
  have HO := hidE ho
  have HB := hidE hb
  clear ho hb
  go_wp2_with fail
  go_ret
  exact ⟨v, rfl, HO.out, HB.out⟩
end Go.Proofs.YteddjlbfbpecjaaGreatDoor
