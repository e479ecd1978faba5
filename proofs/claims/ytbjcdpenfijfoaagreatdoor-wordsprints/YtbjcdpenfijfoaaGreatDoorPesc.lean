/- The reader reads an escape. -/
import Derived.Test.YtbjcdpenfijfoaaGreatDoorJoin9
namespace Go.Proofs.YtbjcdpenfijfoaaGreatDoor
open Go.RowKit Go.Shelf Go.Lexed
open Go.Lib (byteCells byteCells_length)
set_option linter.unusedVariables false
set_option linter.unusedSimpArgs false
/-- What reading an escape answers. -/
def Escd (a base : Nat) (s : ByteArray) (k b : Nat) (acc : List UInt8) (w : World) (e : Ending) (w' : World) : Prop :=
  ∃ j : Nat, k ≤ j ∧ j ≤ s.size ∧ Rd w' a s j b ∧ Fr a base w w' ∧ ((∃ v' bs, e = .returned v' ∧ w'.ownsRow base 5 1 v' (acc ++ bs).length (byteCells (acc ++ bs)) ∧ bs.length ≤ 4 ∧ j < s.size ∧ escP (suf s k) = some (bs, suf s (j + 1))) ∨ (e = gaveUp ∧ escP (suf s k) = none))
def escA : Array Value := #[.int .u8 92, .int .u8 92, .int .u8 39, .int .u8 39, .int .u8 34, .int .u8 34, .int .u8 110, .int .u8 10, .int .u8 116, .int .u8 9, .int .u8 114, .int .u8 13]
theorem index_esc {q : Nat} (hq : q < 6) (W : World) : (Instr.index 124 (.agg escA) (.int .i64 (q : Int))).run Tryz.prog W = .ok (.agg #[.int .u8 (escX q : Int), .int .u8 (escY q : Int)]) W := by
  match q, hq with
  | 0, _ => simp [Instr.index, run_underlying Tryz.underlying124, asIntOf, go_sem, escA, escX, escY]
  | 1, _ => simp [Instr.index, run_underlying Tryz.underlying124, asIntOf, go_sem, escA, escX, escY]
  | 2, _ => simp [Instr.index, run_underlying Tryz.underlying124, asIntOf, go_sem, escA, escX, escY]
  | 3, _ => simp [Instr.index, run_underlying Tryz.underlying124, asIntOf, go_sem, escA, escX, escY]
  | 4, _ => simp [Instr.index, run_underlying Tryz.underlying124, asIntOf, go_sem, escA, escX, escY]
  | 5, _ => simp [Instr.index, run_underlying Tryz.underlying124, asIntOf, go_sem, escA, escX, escY]
theorem esc_info : (Tryz.prog.info? 124).map (·.size) = some escA.size := by kernel_rfl
theorem esc_one : escA.all (·.oneCell') = true := by kernel_rfl
theorem one_cell' (w : World) {y : Nat} (hy : y < 256) : ∀ j u, (byteCells [UInt8.ofNat y])[j]? = some u → (w.alloc (.cells #[.int .u8 (y : Int)] 5)).cell? ((⟨w.heap.size, 0, none⟩ : Addr).add j) = some u := by
  intro j u hj
  have h := one_cell w (UInt8.ofNat y) j u hj
  rw [show ((UInt8.ofNat y).toNat : Int) = (y : Int) by rw [UInt8.toNat_ofNat']; omega] at h
  have hadd : (⟨w.heap.size, 0, none⟩ : Addr).add j = ⟨w.heap.size, j, none⟩ := by unfold Addr.add; split <;> simp_all
  rw [hadd]; exact h
/-- A row that was told something, behind what was made ahead. -/
theorem told_from {a base k b : Nat} {s : ByteArray} {acc bs : List UInt8} {v v' : Value} {w W w' : World} {o : Obj} (hr : Rd W a s k b) (hb : Below base w W) (ho : W.ownsRow base 5 1 v acc.length (byteCells acc)) (ha : a < base) (hB : base ≤ W.heap.size)
    (ht : Told base acc.length (byteCells acc) v (W.alloc o) bs v' w') : Rd w' a s k b ∧ Fr a base w w' ∧ w'.ownsRow base 5 1 v' (acc ++ bs).length (byteCells (acc ++ bs)) := by
  have h1 : Below base (W.alloc o) w' := ht.below (own_alloc ho o) (by simp; omega)
  have h2 : Below base W (W.alloc o) := (Below.refl base W).alloc hB o
  have h3 := h2.trans h1
  refine ⟨hr.below h3 ha, Fr.of_below (hb.trans h3), ?_⟩
  have := ht.own
  rwa [← List.length_append, show byteCells acc ++ byteCells bs = byteCells (acc ++ bs) by simp [byteCells]] at this
set_option maxRecDepth 100000 in
set_option maxHeartbeats 4000000 in
theorem esc_any (a base : Nat) (s : ByteArray) (k b : Nat) (acc : List UInt8) (v : Value) (w : World) (h : Rd w a s k b) (hk : k < s.size) (hs : s.size ≤ 10000000000) (ho : w.ownsRow base 5 1 v acc.length (byteCells acc)) (hB : base ≤ w.heap.size) (ha : a < base) (hl : acc.length ≤ 100000000000) :
    Calls Tryz.prog 88 #[.pointer (some ⟨a, 0, none⟩), v] w fun e w' => Escd a base s k b acc w e w' := by
  have H := hidE h
  have HO := hidE ho
  clear h ho
  generalize hR : escP (suf s k) = R
  have HRR := hidE hR
  clear hR
  have HT := hidE need_true
  have HNF := hidE need_false
  obtain ⟨A, hA⟩ : ∃ A, A = escA := ⟨_, rfl⟩
  have HA := hidE hA
  have HN : Hid ((w.alloc (.cells A 124)).heap[w.heap.size]? = some (.cells A 124 (0, 0))) := World.alloc_heap_new _ _
  have HI : Hid ((Tryz.prog.info? 124).map (·.size) = some A.size) := by show _ = _; rw [hA]; exact esc_info
  have HOn : Hid (A.all (·.oneCell') = true) := by show _ = _; rw [hA]; exact esc_one
  have HZ : Hid ((12 : Nat) = A.size) := by show _ = _; rw [hA]; rfl
  clear hA
  go_enter Tryz.func88, Tryz.ntmps88
  go_wp2_with (first
    | (refine table_build (t := 124) (cells := A) rfl _ rfl (by rw [HA.out]; as_aux_lemma => kernel_rfl) ?_)
    | (refine table_store (t := 124) (cells := A) rfl _ _ rfl rfl rfl HI.out HZ.out HOn.out ?_)
    | (refine table_load (t := 124) (cells := A) rfl _ rfl w.heap.size rfl HN.out Tryz.underlying124 HI.out ?_))
  have HB0 : Hid (Below w.heap.size w (w.alloc (.cells A 124))) := (Below.refl _ _).alloc (Nat.le_refl _) _
  generalize w.alloc (.cells A 124) = W0 at HB0 ⊢
  clear HN HI HOn HZ
  obtain ⟨c, hc⟩ : ∃ c, s[k] = c := ⟨_, rfl⟩
  have HC := hidE hc
  have HSK : Hid (suf s k = c :: suf s (k + 1)) := by show _ = _; rw [suf_cons hk, hc]
  have HNX : Hid (∀ W, Rd W a s k b → Calls Tryz.prog 87 #[.pointer (some ⟨a, 0, none⟩)] W fun e w' => e = .returned (.int .u8 (c.toNat : Int)) ∧ ∃ m, w' = W.drewN m) := fun W hW => by
    have := next_any a s k b W hW hk hs
    rwa [hc] at this
  clear hc
  have HRd : Hid (∀ W, Below w.heap.size w W → Rd W a s k b) := fun W hW => H.out.below hW (by omega)
  have hm2 : c.toNat < 256 := c.toNat_lt
  have HM := hidE (rfl : c.toNat = c.toNat)
  generalize hmm : c.toNat = m at HNX hm2
  have HMM := hidE hmm
  clear hmm HM
  go_loopw [16] (fun i wr => ∃ q : Nat, q ≤ 6 ∧ i = .int .i64 q ∧ Below w.heap.size w wr ∧ (∀ i, i < q → m ≠ escX i)) (fun i _ => 6 - (intOf i).toNat)
  case atStart => exact ⟨0, by omega, rfl, HB0.out, fun i hi => by omega⟩
  case round =>
    obtain ⟨q, hq, rfl, hb, hno⟩ := hrel
    have HB := hidE hb
    have HNO := hidE hno
    clear hb hno
    by_cases hlt : q < 6
    · have hlt' : (q : Int) < 6 := by omega
      have hidx := index_esc hlt wr
      rw [← HA.out] at hidx
      have HHit := hidE (fun (h : c.toNat = escX q) => esc_hit hlt h (suf s (k + 1)))
      have HMiss : Hid (m ≠ escX q → ∀ i, i < q + 1 → m ≠ escX i) := fun h i hi => by
        rcases Nat.lt_or_ge i q with h1 | h1
        · exact HNO.out i h1
        · have : i = q := by omega
          rw [this]; exact h
      have hy2 : escY q < 256 := by
        match q, hlt with
        | 0, _ => decide
        | 1, _ => decide
        | 2, _ => decide
        | 3, _ => decide
        | 4, _ => decide
        | 5, _ => decide
      rw [HMM.out] at HHit
      generalize escX q = ex at hidx HHit HMiss
      generalize escY q = ey at hidx HHit hy2
      have HB1 : Hid (∀ o, Below w.heap.size w (wr.alloc o)) := fun o => HB.out.alloc HB.out.size o
      by_cases he : m = ex
      · have he' : ((ex : Int) == m) = true := eq_bool (by omega)
        have HE : Hid (R = some ([UInt8.ofNat ey], suf s (k + 1))) := by show _ = _; rw [← HRR.out, HSK.out]; exact HHit.out he
        clear HHit HMiss HNO
        go_wp2_with fail
        go_quiet ((go_at_call 87; exact Calls.quiet_of (HNX.out _ (HRd.out _ (below_drewN (HB1.out _) _)))))
        generalize hW1 : World.drewN _ _ = W1
        have HB2 : Hid (Below w.heap.size w W1) := by rw [← hW1]; exact below_drewN (HB1.out _) _
        have cY : W1.cell? ⟨wr.heap.size, 1, none⟩ = some (.int .u8 (ey : Int)) := by rw [← hW1]; exact cell_new _ _ _ _ _ rfl
        have HR2 : Hid (Rd W1 a s k b) := HRd.out W1 HB2.out
        have HO2 : Hid (W1.ownsRow base 5 1 v acc.length (byteCells acc)) := own_below HO.out HB2.out
        have hB2 : base ≤ W1.heap.size := Nat.le_trans hB HB2.out.size
        clear hW1 HB1 HB hidx
        go_wp2_with (at_builtin; refine append_row (W1.alloc (.cells #[.int .u8 (ey : Int)] 5)) rfl _ _ rfl base acc.length v (byteCells acc) rfl (own_alloc HO2.out _) ⟨W1.heap.size, 0, none⟩ 1 1 [UInt8.ofNat ey] rfl rfl (one_cell' W1 hy2) (by omega) (by simp; omega) ?_; intro v' w' ht)
        go_ret
        obtain ⟨hr3, hf3, ho3⟩ := told_from HR2.out (HB2.out.mono hB) HO2.out ha hB2 ht
        exact ⟨k, Nat.le_refl _, by omega, hr3, hf3, .inl ⟨_, _, rfl, ho3, by simp, hk, by rw [HRR.out]; exact HE.out⟩⟩
      · have he' : ((ex : Int) == m) = false := ne_bool (by omega)
        have HE := hidE (HMiss.out he)
        clear HHit HMiss HNO
        go_wp2_with fail
        go_quiet ((go_at_call 87; exact Calls.quiet_of (HNX.out _ (HRd.out _ (below_drewN (HB1.out _) _)))))
        go_wp2_with fail
        go_roundw
        case rel => exact ⟨q + 1, by omega, by go_num, below_drewN (HB1.out _) _, HE.out⟩
        case measure => simp [intOf]; omega
    · have hlt' : ¬ (q : Int) < 6 := by omega
      have hq6 : q = 6 := by omega
      subst hq6
      have HRd1 := hidE (HRd.out wr HB.out)
      have HN1 := hidE (HNX.out wr (HRd.out wr HB.out))
      go_wp2_with fail
      refine HN1.out.mono ?_
      rintro e w1 ⟨rfl, m1, rfl⟩
      generalize hW1 : World.drewN _ _ = W1
      have HB2 : Hid (Below w.heap.size w W1) := by rw [← hW1]; exact below_drewN HB.out _
      have HR2 : Hid (Rd W1 a s k b) := HRd.out W1 HB2.out
      have HO2 : Hid (W1.ownsRow base 5 1 v acc.length (byteCells acc)) := own_below HO.out HB2.out
      have hB2 : base ≤ W1.heap.size := Nat.le_trans hB HB2.out.size
      clear hW1 HN1 HRd1
      by_cases hu : m = 117
      · subst hu
        have HC117 : Hid (c = 117) := by
          show _ = _
          have : c = UInt8.ofNat 117 := by rw [← HMM.out]; simp
          exact this
        have HEU := hidE (esc_u (suf s (k + 1)))
        have HX : Hid (Calls Tryz.prog 105 #[.pointer (some ⟨a, 0, none⟩)] W1 fun e w' => Hexed a s k b W1 e w') := hex_any a s k b W1 HR2.out hk hs
        go_wp2_with fail
        refine (HT.out _).mono ?_
        rintro e w1 ⟨rfl, rfl⟩
        go_wp2_with fail
        refine HX.out.mono ?_
        rintro e w3 ⟨j, hkj, hj, hr3, hf3, ⟨n, rfl, hjk, hjs, hn, hx, hv⟩ | ⟨rfl, hx⟩⟩
        · have HR3 := hidE hr3
          have HF3 : Hid (Fr a base w w3) := (Fr.of_below (HB2.out.mono hB)).trans (hf3.mono hB2)
          have HO3 : Hid (w3.ownsRow base 5 1 v acc.length (byteCells acc)) := own_keep HO2.out fun g hg hg2 => hf3.block g hg2 (by omega)
          have hB3 : base ≤ w3.heap.size := Nat.le_trans hB2 hf3.size
          have HE : Hid (R = some (Lib.encodeRune (n : Int), suf s (j + 1))) := by
            show _ = _
            rw [← HRR.out, HSK.out, HC117.out, HEU.out.1 n hn hx hv, suf_drop, hjk]
          have HAP := hidE (Tryz.utf8_AppendRune_plain base v acc.length (byteCells acc) (n : Int) (by omega) (by omega) w3 HO3.out (by omega) hB3)
          have HL4 : Hid ((Lib.encodeRune (n : Int)).length ≤ 4) := by
            show _ ≤ _
            unfold Lib.encodeRune Lib.encodeRuneZ
            split <;> (try split) <;> (try split) <;> (try split) <;> simp
          clear hr3 hf3 hx hv hjk
          go_wp2_with fail
          refine HAP.out.mono ?_
          rintro e w4 ⟨v', rfl, ho4, o, hg⟩
          have hg4 : Below base w3 w4 := ((Below.refl base w3).alloc hB3 o).trans (below_of_grown (own_alloc HO3.out o) (by simp; omega) hg)
          have HG := hidE hg4
          have HO4 : Hid (w4.ownsRow base 5 1 v' (acc ++ Lib.encodeRune (n : Int)).length (byteCells (acc ++ Lib.encodeRune (n : Int)))) := by
            rw [← Lib.byteCells_encodeRune, byteCells_length, ← List.length_append, show byteCells acc ++ byteCells (Lib.encodeRune (n : Int)) = byteCells (acc ++ Lib.encodeRune (n : Int)) by simp [byteCells]] at ho4
            exact ho4
          clear ho4 hg hg4
          go_wp2_with fail
          go_ret
          exact ⟨j, hkj, hj, HR3.out.below HG.out ha, HF3.out.trans (Fr.of_below HG.out), .inl ⟨_, _, rfl, HO4.out, HL4.out, hjs, by rw [HRR.out]; exact HE.out⟩⟩
        · have HF3 : Hid (Fr a base w w3) := (Fr.of_below (HB2.out.mono hB)).trans (hf3.mono hB2)
          refine ⟨rfl, j, hkj, hj, hr3, HF3.out, .inr ⟨rfl, ?_⟩⟩
          · rw [HSK.out, HC117.out]
            exact HEU.out.2 (fun n hn hh => hx n hh) (fun n hh => hexT_lt hh)
      · have hu' : ((m : Int) == 117) = false := ne_bool (by omega)
        have HE : Hid (R = none) := by
          show _ = _
          rw [← HRR.out, HSK.out]
          exact esc_other (fun i hi => by rw [HMM.out]; exact HNO.out i hi) (by rw [HMM.out]; exact hu) _
        go_wp2_with fail
        refine (HNF.out _).mono ?_
        rintro e w1 ⟨rfl, rfl⟩
        exact ⟨rfl, k, Nat.le_refl _, by omega, HR2.out, Fr.of_below (HB2.out.mono hB), .inr ⟨rfl, by rw [HRR.out]; exact HE.out⟩⟩
set_option maxRecDepth 100000 in
set_option maxHeartbeats 4000000 in
theorem esc_end (a base : Nat) (s : ByteArray) (k b : Nat) (acc : List UInt8) (v : Value) (w : World) (h : Rd w a s k b) (hk : k = s.size) (hs : s.size ≤ 10000000000) (hB : base ≤ w.heap.size) (ha : a < base) :
    Calls Tryz.prog 88 #[.pointer (some ⟨a, 0, none⟩), v] w fun e w' => Escd a base s k b acc w e w' := by
  have H := hidE h
  clear h
  obtain ⟨A, hA⟩ : ∃ A, A = escA := ⟨_, rfl⟩
  have HA := hidE hA
  have HN : Hid ((w.alloc (.cells A 124)).heap[w.heap.size]? = some (.cells A 124 (0, 0))) := World.alloc_heap_new _ _
  have HI : Hid ((Tryz.prog.info? 124).map (·.size) = some A.size) := by show _ = _; rw [hA]; exact esc_info
  have HOn : Hid (A.all (·.oneCell') = true) := by show _ = _; rw [hA]; exact esc_one
  have HZ : Hid ((12 : Nat) = A.size) := by show _ = _; rw [hA]; rfl
  clear hA
  go_enter Tryz.func88, Tryz.ntmps88
  go_wp2_with (first
    | (refine table_build (t := 124) (cells := A) rfl _ rfl (by rw [HA.out]; as_aux_lemma => kernel_rfl) ?_)
    | (refine table_store (t := 124) (cells := A) rfl _ _ rfl rfl rfl HI.out HZ.out HOn.out ?_)
    | (refine table_load (t := 124) (cells := A) rfl _ rfl w.heap.size rfl HN.out Tryz.underlying124 HI.out ?_))
  have HB0 : Hid (Below w.heap.size w (w.alloc (.cells A 124))) := (Below.refl _ _).alloc (Nat.le_refl _) _
  generalize w.alloc (.cells A 124) = W0 at HB0 ⊢
  clear HN HI HOn HZ
  have HK := hidE hk
  have hk2 : k ≤ s.size := by omega
  have hk3 : ¬ k < s.size := by omega
  clear hk
  have HRd : Hid (∀ W, Below w.heap.size w W → Rd W a s k b) := fun W hW => H.out.below hW (by omega)
  go_loopw [16] (fun i wr => i = .int .i64 0 ∧ Below w.heap.size w wr) (fun i _ => 0)
  case atStart => exact ⟨rfl, HB0.out⟩
  case round =>
    obtain ⟨rfl, hb⟩ := hrel
    have HB := hidE hb
    clear hb
    have hidx : (Instr.index 124 (.agg A) (.int .i64 0)).run Tryz.prog wr = .ok (.agg #[.int .u8 92, .int .u8 92]) wr := by rw [HA.out]; exact index_esc (q := 0) (by decide) wr
    have HB1 : Hid (∀ o, Below w.heap.size w (wr.alloc o).drew) := fun o => (HB.out.alloc HB.out.size o).drew
    go_wp2_with fail
    go_region_dies
    all_goals
      refine (next_end a s k b _ (HRd.out _ (HB1.out _)) hk3 hs).mono ?_
      rintro e w1 ⟨rfl, m, rfl⟩
      refine ⟨rfl, k, Nat.le_refl _, hk2, (HRd.out _ (HB1.out _)).drewN _, Fr.of_below (below_drewN ((HB1.out _).mono hB) _), .inr ⟨rfl, ?_⟩⟩
      rw [suf_end (by omega)]; rfl
end Go.Proofs.YtbjcdpenfijfoaaGreatDoor
