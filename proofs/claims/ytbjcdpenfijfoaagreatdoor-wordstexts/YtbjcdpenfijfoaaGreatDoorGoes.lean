/- Going over a text's words, left early or not. -/
import Derived.Test.YtbjcdpenfijfoaaGreatDoorEachA
import Derived.Test.YtbjcdpenfijfoaaGreatDoorJoin12
import Derived.Test.YtbjcdpenfijfoaaGreatDoorJoin13
import Derived.Sort.CutIn
namespace Go.Proofs.YtbjcdpenfijfoaaGreatDoor
open Go.RowKit Go.Shelf Go.Lexed
set_option linter.unusedVariables false
set_option linter.unusedSimpArgs false
attribute [local go_sem] Oper.semAt_some
set_option maxRecDepth 100000 in
set_option maxHeartbeats 4000000 in
/-- What All tells, handed to a loop. -/
theorem all1_any {F : Fence} (HF : Hid (F = Fence.wide)) (hd : F.depth = none) (hro : F.round = none) (hfn : ∀ f, F.fn f) (s : ByteArray) (hs : s.size ≤ 1048576) (lb bx : Nat) (w : World) (h8 : 8 ≤ w.heap.size) (hbx : Boxed w bx 9 (.string s))
    {J : List (Wd × Nat) → World → Prop} {Jx : World → Prop} (hE : ∀ pre W, J pre W → Env W) (hkeep : ∀ pre W W', J pre W → w.heap.size < W'.heap.size → Fr w.heap.size W.heap.size W W' → J pre W')
    (hY : ∀ m pre d p W, J pre W → w.heap.size < W.heap.size → pre ++ [(d, p)] <+: lexP s → d.text.length ≤ 4 * s.size → YieldAt F m Tryz.prog lb #[.int .i64 (pre.length : Int), wordV d p] W fun e W' => (e = .returned (.bool true) ∧ J (pre ++ [(d, p)]) W' ∧ W'.heap[w.heap.size]? = W.heap[w.heap.size]?) ∨ (e = .returned (.bool false) ∧ Jx W'))
    (hJ : J [] w) (n : Nat) :
    CallsIn F n Tryz.prog 35 #[.func (.yield lb) #[] #[], .pointer (some ⟨bx, 0, none⟩)] w fun e w' => (∃ v, e = .returned v) ∧ (J (lexP s) w' ∨ Jx w') := by
  have HEA := hidE (fun n => EachA_any HF hd hro hfn s hs lb w h8 hE hkeep hY hJ n)
  have cb := hbx.cell
  clear hE hkeep hY hJ
  refine callsIn_of_wp Tryz.func35 rfl (hfn _) ?_ hro
  simp only [Tryz.ntmps35, List.size_toArray, List.length_cons, List.length_nil, Nat.reduceAdd, Nat.reduceSub, Array.replicate_succ, Array.replicate_zero, List.push_toArray, List.append_toArray, List.nil_append, List.cons_append]
  gi_wp2_with fail
  refine (HEA.out _).mono ?_
  rintro e w1 (⟨rfl, _, h⟩ | ⟨j, _, rfl, _, h⟩ | ⟨rfl, h⟩)
  · gi_wp2_with fail
    exact bodyPost_end (v := .tuple #[]) (by simp [results, Tryz.results35, go_sem]) rfl ⟨⟨_, rfl⟩, .inl h⟩
  · gi_wp2_with fail
    exact bodyPost_end (v := .tuple #[]) (by simp [results, Tryz.results35, go_sem]) rfl ⟨⟨_, rfl⟩, .inl h⟩
  · gi_wp2_with fail
    exact bodyPost_end (v := .tuple #[]) (by simp [results, Tryz.results35, go_sem]) rfl ⟨⟨_, rfl⟩, .inr h⟩
/-- What holds between two words. -/
structure GoJ (s : ByteArray) (w : World) (lv : Value) (leave : Int) (rec : Loop) (pre : List (Wd × Nat)) (W : World) : Prop where
  room : w.heap.size + 6 ≤ W.heap.size
  loop : W.heap[w.heap.size + 5]? = some (.loop rec)
  dfr : W.heap[w.heap.size + 4]? = some (.deferred (some []))
  l : Boxed W w.heap.size 23 lv
  le : Boxed W (w.heap.size + 1) 3 (.int .i64 leave)
  r : Boxed W (w.heap.size + 2) 4 (.bool false)
  n : Boxed W (w.heap.size + 3) 3 (.int .i64 (pre.length : Int))
  lie : Lie4 w.heap.size W lv (lw s)
  env : Env W
  below : Below w.heap.size w W
theorem GoJ.keep {s : ByteArray} {w : World} {lv : Value} {leave : Int} {rec : Loop} {pre : List (Wd × Nat)} {W W' : World} (h : GoJ s w lv leave rec pre W) (h8 : 8 ≤ w.heap.size) (hs : w.heap.size + 6 ≤ W'.heap.size) (hk : ∀ i, i < w.heap.size + 6 → W'.heap[i]? = W.heap[i]?) (ho : W'.os = W.os) (ht : W'.tape = W.tape) (hu : W'.output = W.output) (hz : W.heap.size ≤ W'.heap.size) : GoJ s w lv leave rec pre W' := by
  refine ⟨hs, (hk _ (by omega)).trans h.loop, (hk _ (by omega)).trans h.dfr, (hk _ (by omega)).trans h.l, (hk _ (by omega)).trans h.le, (hk _ (by omega)).trans h.r, (hk _ (by omega)).trans h.n, ?_, h.env.keep (fun k hk' => hk k (by omega)) (by omega), ⟨ho.trans h.below.os, ht.trans h.below.tape, hu.trans h.below.output, by have := h.below.size; omega, fun i hi => (hk i (by omega)).trans (h.below.block i hi)⟩⟩
  obtain ⟨ad, cap, e1, e2, e3, e4⟩ := h.lie
  exact ⟨ad, cap, e1, e2, e3, e4.imp id fun ⟨bl, off, e, hl, hc⟩ => ⟨bl, off, e, hl, fun j u hj => (World.cell?_of_block (hk bl (by omega))).trans (hc j u hj)⟩⟩
/-- What holds where it is left. -/
structure GoX (w : World) (rec : Loop) (W : World) : Prop where
  room : w.heap.size + 6 ≤ W.heap.size
  loop : W.heap[w.heap.size + 5]? = some (.loop (asDone rec .ret))
  dfr : W.heap[w.heap.size + 4]? = some (.deferred (some []))
  r : Boxed W (w.heap.size + 2) 4 (.bool true)
  below : Below w.heap.size w W
theorem lw_at {s : ByteArray} {pre : List (Wd × Nat)} {d : Wd} {p : Nat} (h : pre ++ [(d, p)] <+: lexP s) : (lw s)[pre.length]? = some (toW4 (d, p)) ∧ pre.length < (lw s).length := by
  obtain ⟨r, hr⟩ := h
  have e : (lexP s)[pre.length]? = some (d, p) := by rw [← hr]; simp
  refine ⟨?_, ?_⟩
  · unfold lw; rw [List.getElem?_map, e]; rfl
  · unfold lw; rw [List.length_map]; exact (List.getElem?_eq_some_iff.1 e).1
set_option maxRecDepth 100000 in
set_option maxHeartbeats 4000000 in
theorem goes_any (s : ByteArray) (hs : s.size ≤ 1048576) (lv : Value) (leave : Int) (bx : Nat) (w : World) (hE : Env w) (hbx : Boxed w bx 9 (.string s)) (hl : Lie4 w.heap.size w lv (lw s)) :
    Calls Tryz.prog 17 #[allF bx, lv, .int .i64 leave] w fun e w' => e = .returned (.bool true) ∧ Below w.heap.size w w' := by
  refine (callsIn_wide (n := 0)).1 ?_
  obtain ⟨F, hF⟩ : ∃ F, F = Fence.wide := ⟨_, rfl⟩
  rw [← hF]
  have hd : F.depth = none := by rw [hF]; rfl
  have hro : F.round = none := by rw [hF]; rfl
  have hfn : ∀ f, F.fn f := by rw [hF]; exact fun _ => trivial
  have HF : Hid (F = Fence.wide) := hF
  clear hF
  have HE := hidE hE
  have h8 := hE.room
  have HBX := hidE hbx
  have HLI := hidE hl
  obtain ⟨la, lc, rfl, hlc, hlm, _⟩ := hl
  clear hE hbx
  have hln := lw_len s
  obtain ⟨n, hn⟩ : ∃ n, (lw s).length = n := ⟨_, rfl⟩
  rw [hn] at HLI hlc hln ⊢
  have HN := hidE hn
  clear hn
  have HKN : Hid (∀ {pre : List (Wd × Nat)} {d : Wd} {p : Nat}, pre ++ [(d, p)] <+: lexP s → (lw s)[pre.length]? = some (toW4 (d, p)) ∧ pre.length < n) := fun h => by
    have := lw_at h
    rwa [HN.out] at this
  have HEND : Hid ((lexP s).length = n) := by show _ = _; rw [← HN.out]; unfold lw; rw [List.length_map]
  refine callsIn_of_wp_marks Tryz.func17 rfl (hfn _) ?_ hro
  simp only [Tryz.ntmps17, List.size_toArray, List.length_cons, List.length_nil, Nat.reduceAdd, Nat.reduceSub, Array.replicate_succ, Array.replicate_zero, List.push_toArray, List.append_toArray, List.nil_append, List.cons_append]
  have hq : ∀ W, (binOp .eql 35 (allF bx) .nilFunc).run Tryz.prog W = .ok (.bool false) W := fun W => eql_nilf W bx
  unfold allF at hq ⊢
  gi_wp2_with fail
  refine range_wp hro hd (gf := 35) (lb := #[.pointer (some ⟨bx, 0, none⟩)]) rfl (hfn _) (enters_of Tryz.func35 (by kernel_rfl) rfl) ?_
  intro fn hfn0
  generalize hrec : Loop.mk _ _ _ _ _ _ _ _ = rec
  simp only [World.size_alloc]
  generalize hW0 : World.alloc _ (Obj.loop rec) = W0
  have hsz : W0.heap.size = w.heap.size + 6 := by rw [← hW0]; simp
  have b0 : W0.heap[w.heap.size]? = some (.cells #[.slice la n lc] 23 (0, 0)) := by rw [← hW0]; simp only [heap_alloc_at, World.size_alloc]; repeat (first | rw [if_pos trivial] | rw [if_pos (by omega)] | rw [if_neg (by omega)])
  have b1 : W0.heap[w.heap.size + 1]? = some (.cells #[.int .i64 leave] 3 (0, 0)) := by rw [← hW0]; simp only [heap_alloc_at, World.size_alloc]; repeat (first | rw [if_pos trivial] | rw [if_pos (by omega)] | rw [if_neg (by omega)])
  have b2 : W0.heap[w.heap.size + 2]? = some (.cells #[.bool false] 4 (0, 0)) := by rw [← hW0]; simp only [heap_alloc_at, World.size_alloc]; repeat (first | rw [if_pos trivial] | rw [if_pos (by omega)] | rw [if_neg (by omega)])
  have b3 : W0.heap[w.heap.size + 3]? = some (.cells #[.int .i64 0] 3 (0, 0)) := by rw [← hW0]; simp only [heap_alloc_at, World.size_alloc]; repeat (first | rw [if_pos trivial] | rw [if_pos (by omega)] | rw [if_neg (by omega)])
  have b4 : W0.heap[w.heap.size + 4]? = some (.deferred (some [])) := by rw [← hW0]; simp only [heap_alloc_at, World.size_alloc]; repeat (first | rw [if_pos trivial] | rw [if_pos (by omega)] | rw [if_neg (by omega)])
  have b5 : W0.heap[w.heap.size + 5]? = some (.loop rec) := by rw [← hW0]; simp only [heap_alloc_at, World.size_alloc]; repeat (first | rw [if_pos trivial] | rw [if_pos (by omega)] | rw [if_neg (by omega)])
  have hbl : Below w.heap.size w W0 := by
    rw [← hW0]
    exact ((((((Below.refl _ _).alloc (Nat.le_refl _) _).alloc (by simp) _).alloc (by simp; omega) _).alloc (by simp; omega) _).alloc (by simp; omega) _).alloc (by simp; omega) _
  have HJ0 : Hid (GoJ s w (.slice la n lc) leave rec [] W0) := ⟨by omega, b5, b4, b0, b1, b2, b3, HLI.out.below hbl (Nat.le_refl _), HE.out.below hbl h8, hbl⟩
  have HBX0 : Hid (Boxed W0 bx 9 (.string s)) := (hbl.block bx HBX.out.lt).trans HBX.out
  clear hW0 b0 b1 b2 b3 b4 b5 hbl HLI hq hlc hlm
  have HYI : Hid (∀ m pre d p W, GoJ s w (.slice la n lc) leave rec pre W → W0.heap.size < W.heap.size → pre ++ [(d, p)] <+: lexP s → d.text.length ≤ 4 * s.size → YieldAt F m Tryz.prog (w.heap.size + 5) #[.int .i64 (pre.length : Int), wordV d p] W fun e W' => (e = .returned (.bool true) ∧ GoJ s w (.slice la n lc) leave rec (pre ++ [(d, p)]) W' ∧ W'.heap[W0.heap.size]? = W.heap[W0.heap.size]?) ∨ (e = .returned (.bool false) ∧ GoX w rec W')) := by
    intro m pre d p W hJ hlt hpre hdl
    obtain ⟨hat, hpn⟩ := HKN.out hpre
    have HJ := hidE hJ
    have ea := congrArg Loop.assign hrec
    have eb := congrArg Loop.body hrec
    have et := congrArg Loop.tmps hrec
    have ep := congrArg Loop.params hrec
    have es := congrArg Loop.state hrec
    have hr0 : asReady rec = rec := by rw [← hrec]; rfl
    dsimp only at ea eb et ep es
    clear hrec
    rw [hsz]
    refine yield_round (hfn _) ea eb et ep hJ.loop es.symm (by rw [← ep]; rfl) ?_
    have HES := hidE es
    clear ea eb et ep es hJ
    unfold wordV
    obtain ⟨kk, hkk⟩ : ∃ kk : Int, (d.kind : Int) = kk := ⟨_, rfl⟩
    obtain ⟨nn, hnn⟩ : ∃ nn : Int, (d.num : Int) = nn := ⟨_, rfl⟩
    obtain ⟨tt, htt⟩ : ∃ tt, bsOf d.text = tt := ⟨_, rfl⟩
    have hx : toW4 (d, p) = ⟨kk, p, tt, nn⟩ := by unfold toW4; rw [hkk, hnn, htt]
    rw [hx] at hat
    rw [hkk, hnn, htt]
    clear hkk hnn htt hx
    obtain ⟨q, hq⟩ : ∃ q, pre.length = q := ⟨_, rfl⟩
    have HQ := hidE hq
    rw [hq] at hat hpn ⊢
    have hb3 := HJ.out.n
    rw [hq] at hb3
    clear hq
    gi_wp2_with fail
    obtain ⟨bl, off, cap, e1, hbl, hcap, k0, k1, k2, k3⟩ := HJ.out.lie.at hat
    have hla : la = some ⟨bl, off, none⟩ := by injection e1
    have hcn : n ≤ lc := by
      injection e1 with _ e2 e3
      rw [e2, e3]; exact hcap
    clear e1 hcap hat
    subst hla
    refine ⟨(Below.heap_alloc _ _ _ (by have := HJ.out.room; omega)).trans HJ.out.loop, ?_⟩
    generalize hW2 : World.putObj _ _ _ = W2
    have hrm := HJ.out.room
    have a5 : W2.heap[w.heap.size + 5]? = some (.loop (asBusy rec)) := by rw [← hW2]; exact World.putObj_heap_same (by simp; omega)
    have ak : ∀ i, i ≠ w.heap.size + 5 → i < W.heap.size → W2.heap[i]? = W.heap[i]? := fun i hi hl => by rw [← hW2, World.putObj_heap_other hi, Below.heap_alloc _ _ _ hl]
    have hWo : Wo W2 W.heap.size kk p nn tt := by
      rw [← hW2]
      show _ = _
      rw [World.putObj_heap_other (by omega)]
      exact World.alloc_heap_new _ _
    have hs2 : W2.heap.size = W.heap.size + 1 := by rw [← hW2]; simp
    have hb2 : Below w.heap.size w W2 := by rw [← hW2]; exact (But.putObj _ _).below (HJ.out.below.alloc (by omega) _) (by omega)
    clear hW2
    have cl := (show Boxed W2 w.heap.size 23 _ from (ak _ (by omega) (by omega)).trans HJ.out.l).cell
    have hbn : Boxed W2 (w.heap.size + 3) 3 (.int .i64 (q : Int)) := (ak _ (by omega) (by omega)).trans hb3
    have cn := hbn.cell
    have fn3 := hbn.frozen
    have ce := (show Boxed W2 (w.heap.size + 1) 3 _ from (ak _ (by omega) (by omega)).trans HJ.out.le).cell
    have hbr : Boxed W2 (w.heap.size + 2) 4 (.bool false) := (ak _ (by omega) (by omega)).trans HJ.out.r
    have HBR := hidE hbr
    have HBN := hidE hbn
    have t0 := hWo.c0
    have t1 := hWo.c1
    have t2 := hWo.c2
    have t3 := hWo.c3
    have d0 := (World.cell?_of_block (a := ⟨bl, off + q * 4, none⟩) (ak bl (by omega) (by omega))).trans k0
    have d1 := (World.cell?_of_block (a := ⟨bl, off + q * 4 + 1, none⟩) (ak bl (by omega) (by omega))).trans k1
    have d2 := (World.cell?_of_block (a := ⟨bl, off + q * 4 + 2, none⟩) (ak bl (by omega) (by omega))).trans k2
    have d3 := (World.cell?_of_block (a := ⟨bl, off + q * 4 + 3, none⟩) (ak bl (by omega) (by omega))).trans k3
    have HA5 := hidE a5
    have HAK := hidE ak
    have HB2 := hidE hb2
    clear k0 k1 k2 k3 hbn hbr a5 ak hb2 hb3 hWo
    have hqn : (q : Int) < n := by omega
    have hqn' : ¬ n ≤ q := by omega
    have hqd : decide (n ≤ q) = false := by rw [decide_eq_false_iff_not]; exact hqn'
    gi_wp2_with fail
    have hq6 : (q : Int) < 2000000 := by omega
    clear hd hro hfn HF HE HBX HN HKN HEND HJ0 HBX0 hln hfn0 hs fn3 ce
    gi_cut [31] from 15 (fun v wx => v = .bool false ∧ wx = W2.drew)
    case first =>
      gi_region
      all_goals
        gi_wp2_with fail
        gi_meet
        exact ⟨rfl, rfl⟩
    case rest =>
      obtain ⟨rfl, rfl⟩ := hcut
      clear cl t0 t1 t2 t3 d0 d1 d2 d3 hqd hqn' hcn cn
      generalize hW3 : W2.drew = W3
      have HA5' : Hid (W3.heap[w.heap.size + 5]? = some (.loop (asBusy rec))) := by rw [← hW3]; exact HA5.out
      have HAK' : Hid (∀ i, i ≠ w.heap.size + 5 → i < W.heap.size → W3.heap[i]? = W.heap[i]?) := by rw [← hW3]; exact HAK.out
      have HB3 : Hid (Below w.heap.size w W3) := by rw [← hW3]; exact HB2.out.drew
      have HBR3 : Hid (Boxed W3 (w.heap.size + 2) 4 (.bool false)) := by rw [← hW3]; exact HBR.out
      have HBN3 : Hid (Boxed W3 (w.heap.size + 3) 3 (.int .i64 (q : Int))) := by rw [← hW3]; exact HBN.out
      have hs3 : W3.heap.size = W.heap.size + 1 := by rw [← hW3]; exact hs2
      have HOS : Hid (W3.os = W.os ∧ W3.tape = W.tape ∧ W3.output = W.output) := by
        have h1 := HB3.out
        have h2 := HJ.out.below
        exact ⟨h1.os.trans h2.os.symm, h1.tape.trans h2.tape.symm, h1.output.trans h2.output.symm⟩
      clear hW3 HA5 HAK HB2 HBR HBN hs2
      have cn := HBN3.out.cell
      have fn3 := HBN3.out.frozen
      have cr := HBR3.out.cell
      have fr := HBR3.out.frozen
      have ce := (show Boxed W3 (w.heap.size + 1) 3 _ from (HAK'.out _ (by omega) (by omega)).trans HJ.out.le).cell
      gi_upto_region 10 with fail
      generalize hW4 : World.setCell _ _ _ = W4
      have HAK4 : Hid (∀ i, i ≠ w.heap.size + 5 → i ≠ w.heap.size + 3 → i < W.heap.size → W4.heap[i]? = W.heap[i]?) := fun i h1 h2 h3 => by
        rw [← hW4]
        exact (Below.heap_setCell _ _ _ _ (by show i ≠ w.heap.size + 1 + 1 + 1; omega)).trans (HAK'.out i h1 h3)
      have HA54 : Hid (W4.heap[w.heap.size + 5]? = some (.loop (asBusy rec))) := by
        rw [← hW4]
        exact (Below.heap_setCell _ _ _ _ (by show w.heap.size + 5 ≠ w.heap.size + 1 + 1 + 1; omega)).trans HA5'.out
      have HBN4 : Hid (Boxed W4 (w.heap.size + 3) 3 (.int .i64 ((q : Int) + 1))) := by rw [← hW4]; exact HBN3.out.set _
      have HB4 : Hid (Below w.heap.size w W4) := by rw [← hW4]; exact HB3.out.setCell (by show w.heap.size ≤ w.heap.size + 1 + 1 + 1; omega) _
      have HBR4 : Hid (Boxed W4 (w.heap.size + 2) 4 (.bool false)) := by
        rw [← hW4]
        exact (Below.heap_setCell _ _ _ _ (by show w.heap.size + 2 ≠ w.heap.size + 1 + 1 + 1; omega)).trans HBR3.out
      have hs4 : W4.heap.size = W.heap.size + 1 := by rw [← hW4]; simp [World.setCell, hs3]
      have HOS4 : Hid (W4.os = W.os ∧ W4.tape = W.tape ∧ W4.output = W.output) := by rw [← hW4]; exact HOS.out
      have HZ4 : Hid (w.heap.size + 6 < W.heap.size → W4.heap[w.heap.size + 6]? = W.heap[w.heap.size + 6]?) := fun h => HAK4.out _ (by omega) (by omega) h
      clear hW4 HA5' HAK' HB3 HBN3 HBR3 hs3 HOS cn fn3 cr fr ce
      have cn := HBN4.out.cell
      have fn3 := HBN4.out.frozen
      have cr := HBR4.out.cell
      have fr := HBR4.out.frozen
      have ce := (show Boxed W4 (w.heap.size + 1) 3 _ from (HAK4.out _ (by omega) (by omega) (by omega)).trans HJ.out.le).cell
      by_cases hle : (q : Int) + 1 = leave
      · have hle' : ((q : Int) + 1 == leave) = true := eq_bool hle
        clear hle
        gi_wp2_with fail
        refine ⟨(Below.heap_setCell _ _ _ _ (by show w.heap.size + 5 ≠ w.heap.size + 1 + 1; omega)).trans HA54.out, .inr ⟨rfl, ?_⟩⟩
        refine ⟨by simp [World.setCell]; omega, ?_, ?_, ?_, ?_⟩
        · exact World.putObj_heap_same (by simp [World.setCell]; omega)
        · rw [World.putObj_heap_other (by omega)]
          exact (Below.heap_setCell _ _ _ _ (by show w.heap.size + 4 ≠ w.heap.size + 1 + 1; omega)).trans ((HAK4.out _ (by omega) (by omega) (by omega)).trans HJ.out.dfr)
        · show _ = _
          rw [World.putObj_heap_other (by omega)]
          exact HBR4.out.set _
        · exact (But.putObj _ _).below (HB4.out.setCell (by show w.heap.size ≤ w.heap.size + 1 + 1; omega) _) (by omega)
      · have hle' : ((q : Int) + 1 == leave) = false := ne_bool hle
        clear hle
        gi_wp2_with fail
        refine ⟨HA54.out, .inl ⟨rfl, ?_, ?_⟩⟩
        · have hJ := HJ.out
          have hn' : Boxed (W4.putObj (w.heap.size + 5) (.loop (asReady rec))) (w.heap.size + 3) 3 (.int .i64 ((pre ++ [(d, p)]).length : Int)) := by
            rw [List.length_append, HQ.out]
            show _ = _
            rw [World.putObj_heap_other (by omega)]
            exact HBN4.out
          have hk : ∀ i, i < w.heap.size + 6 → i ≠ w.heap.size + 3 → (W4.putObj (w.heap.size + 5) (.loop (asReady rec))).heap[i]? = W.heap[i]? := fun i h1 h2 => by
            by_cases h5 : i = w.heap.size + 5
            · subst h5
              rw [World.putObj_heap_same (by omega), hr0]; exact hJ.loop.symm
            · rw [World.putObj_heap_other h5]; exact HAK4.out i h5 h2 (by omega)
          refine ⟨by simp; omega, (hk _ (by omega) (by omega)).trans hJ.loop, (hk _ (by omega) (by omega)).trans hJ.dfr, (hk _ (by omega) (by omega)).trans hJ.l, (hk _ (by omega) (by omega)).trans hJ.le, (hk _ (by omega) (by omega)).trans hJ.r, hn', ?_, hJ.env.keep (fun k hk' => hk k (by omega) (by omega)) (by simp; omega), (But.putObj _ _).below HB4.out (by omega)⟩
          obtain ⟨ad, cap2, e1, e2, e3, e4⟩ := hJ.lie
          exact ⟨ad, cap2, e1, e2, e3, e4.imp id fun ⟨bl2, off2, e, hl2, hc2⟩ => ⟨bl2, off2, e, hl2, fun j u hj => (World.cell?_of_block (hk bl2 (by omega) (by omega))).trans (hc2 j u hj)⟩⟩
        · rw [World.putObj_heap_other (by omega)]
          exact HZ4.out (by omega)
  have HKE : Hid (∀ pre W W', GoJ s w (.slice la n lc) leave rec pre W → W0.heap.size < W'.heap.size → Fr W0.heap.size W.heap.size W W' → GoJ s w (.slice la n lc) leave rec pre W') := by
    intro pre W W' hJ hlt hf
    have hr := hJ.room
    exact hJ.keep h8 (by omega) (fun i hi => hf.block i (by omega) (by omega)) hf.os hf.tape hf.output hf.size
  have HAL := hidE (all1_any HF hd hro hfn s hs (w.heap.size + 5) bx W0 (by omega) HBX0.out (fun pre W h => h.env) HKE.out HYI.out HJ0.out (0 - 1))
  clear HYI HKE HJ0 HBX0
  refine HAL.out.mono ?_
  rintro e W ⟨⟨v, rfl⟩, hJ | hX⟩
  · have hp : rec.pending = none := by rw [← hrec]
    have hst : rec.state ≠ .busy := by rw [← hrec]; simp
    have HJ := hidE hJ
    clear hrec hJ HAL
    refine ⟨rec, HJ.out.loop, hst, ?_⟩
    simp only [hp]
    generalize hW5 : World.putObj _ _ _ = W5
    have hrm := HJ.out.room
    have HK5 : Hid (∀ i, i ≠ w.heap.size + 5 → W5.heap[i]? = W.heap[i]?) := fun i hi => by rw [← hW5]; exact World.putObj_heap_other hi
    have HB5 : Hid (Below w.heap.size w W5) := by rw [← hW5]; exact (But.putObj _ _).below HJ.out.below (by omega)
    have hs5 : W5.heap.size = W.heap.size := by rw [← hW5]; simp
    clear hW5
    have hbn : Boxed W5 (w.heap.size + 3) 3 (.int .i64 (n : Int)) := by
      have := HJ.out.n
      rw [HEND.out] at this
      exact (HK5.out _ (by omega)).trans this
    have hbr : Boxed W5 (w.heap.size + 2) 4 (.bool false) := (HK5.out _ (by omega)).trans HJ.out.r
    have HBR := hidE hbr
    have cn := hbn.cell
    have cl := (show Boxed W5 w.heap.size 23 _ from (HK5.out _ (by omega)).trans HJ.out.l).cell
    have cr := hbr.cell
    have fr := hbr.frozen
    have HD5 : Hid (W5.heap[w.heap.size + 4]? = some (.deferred (some []))) := (HK5.out _ (by omega)).trans HJ.out.dfr
    clear hbn hbr
    gi_wp2_with fail
    obtain ⟨S, hS⟩ : ∃ S, W5.setCell ⟨w.heap.size + 1 + 1, 0, none⟩ (.bool true) = S := ⟨_, rfl⟩
    have hS1 : S.heap[w.heap.size + 1 + 1 + 1 + 1]? = some (.deferred (some [])) := by
      rw [← hS]
      exact (Below.heap_setCell _ _ _ _ (by show w.heap.size + 1 + 1 + 1 + 1 ≠ w.heap.size + 1 + 1; omega)).trans HD5.out
    have hS2 : Boxed S (w.heap.size + 1 + 1) 4 (.bool true) := by rw [← hS]; exact HBR.out.set _
    have hS3 : Below w.heap.size w S := by rw [← hS]; exact HB5.out.setCell (by show w.heap.size ≤ w.heap.size + 1 + 1; omega) _
    rw [hS]
    clear hS cn cl cr fr
    have hz1 : Boxed (S.putObj (w.heap.size + 1 + 1 + 1 + 1) (.deferred none)) (w.heap.size + 1 + 1) 4 (.bool true) := (World.putObj_heap_other (by omega)).trans hS2
    have hz2 := hz1.cell
    have hz3 : Below w.heap.size w (S.putObj (w.heap.size + 1 + 1 + 1 + 1) (.deferred none)) := (But.putObj _ _).below hS3 (by omega)
    show LeavesInM _ _ _ _ _ _ [_] .returning _
    refine ⟨by simp, .inl ⟨_, _, rfl, run_takeDeferred hS1, ?_⟩⟩
    refine ⟨.bool true, ?_, rfl, hz3⟩
    simp [results, Tryz.results17, go_sem, hz2]
  · have HX := hidE hX
    clear hrec hX HAL
    refine ⟨asDone rec .ret, HX.out.loop, (by simp [asDone]), ?_⟩
    simp only [asDone]
    have hrm := HX.out.room
    generalize hS : World.putObj _ _ _ = S
    have hS1 : S.heap[w.heap.size + 1 + 1 + 1 + 1]? = some (.deferred (some [])) := by
      rw [← hS]
      exact (World.putObj_heap_other (by omega)).trans HX.out.dfr
    have hS2 : Boxed S (w.heap.size + 1 + 1) 4 (.bool true) := by
      rw [← hS]
      exact (World.putObj_heap_other (by omega)).trans HX.out.r
    have hS3 : Below w.heap.size w S := by rw [← hS]; exact (But.putObj _ _).below HX.out.below (by omega)
    clear hS
    gi_wp2_with fail
    have hz1 : Boxed (S.putObj (w.heap.size + 1 + 1 + 1 + 1) (.deferred none)) (w.heap.size + 1 + 1) 4 (.bool true) := (World.putObj_heap_other (by omega)).trans hS2
    have hz2 := hz1.cell
    have hz3 : Below w.heap.size w (S.putObj (w.heap.size + 1 + 1 + 1 + 1) (.deferred none)) := (But.putObj _ _).below hS3 (by omega)
    show LeavesInM _ _ _ _ _ _ [_] .returning _
    refine ⟨by simp, .inl ⟨_, _, rfl, run_takeDeferred hS1, ?_⟩⟩
    refine ⟨.bool true, ?_, rfl, hz3⟩
    simp [results, Tryz.results17, go_sem, hz2]
end Go.Proofs.YtbjcdpenfijfoaaGreatDoor
