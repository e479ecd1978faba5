/- The document's texts between two signs. -/
import Derived.Test.YtbjcdpenfijfoaaGreatDoorJoin10
import Derived.Laws.IdiomStrings
namespace Go.Proofs.YtbjcdpenfijfoaaGreatDoor
open Go.RowKit Go.Shelf Go.Lexed
open Go.Lib (byteCells byteCells_length)
set_option linter.unusedVariables false
set_option linter.unusedSimpArgs false
attribute [local go_sem] Oper.semAt_some
/-- What reading a text answers. -/
def TxtTo (s : ByteArray) (i : Nat) (z : UInt8) (e : Ending) : Prop :=
  (∃ (t : List UInt8) (j : Nat), t.length ≤ s.size ∧ i < j ∧ j ≤ s.size ∧ textB z (suf s (i + 1)) = some (t, suf s j) ∧ e = .returned (.tuple #[.string (bsOf t), .int .i64 (j : Int), .bool (Lib.validD t)])) ∨
  (textB z (suf s (i + 1)) = none ∧ e = .returned (.tuple #[.string ⟨#[]⟩, .int .i64 (i : Int), .bool false]))
theorem putF_put (a b : List UInt8) (o : Option (List UInt8 × List UInt8)) : putF a (putF b o) = putF (a ++ b) o := by
  cases o <;> simp [putF]
theorem esc_u4 {s : ByteArray} {k : Nat} : escP (117 :: suf s k) = (r4At s k).map fun x => (x, suf s (k + 4)) := by
  have hd : suf s (k + 4) = (suf s k).drop 4 := by simp [suf, List.drop_drop]
  rw [hd]
  unfold escP r4At
  simp only [show bitB 117 = none from rfl, if_true]
  match suf s k with
  | a :: b :: c :: d :: r => rfl
  | [] => rfl
  | [_] => rfl
  | [_, _] => rfl
  | [_, _, _] => rfl
theorem r4_len {s : ByteArray} {k : Nat} {x : List UInt8} (h : r4At s k = some x) : x.length ≤ 3 ∧ k + 4 ≤ s.size := by
  have hl : (suf s k).length = s.size - k := by simp [suf]
  rw [r4_is] at h
  refine ⟨?_, ?_⟩
  · cases hT : hexT (suf s k) 4 0 with
    | none => rw [hT] at h; cases h
    | some n =>
      rw [hT] at h
      simp only [Option.bind_some, runeB] at h
      split at h
      · cases h
      · split at h
        · cases h; simp
        · split at h
          · cases h; simp
          · cases h; simp
  · rcases Nat.lt_or_ge (s.size - k) 4 with h4 | h4
    · rw [hexT, if_neg (by rw [hl]; omega)] at h; cases h
    · omega
theorem bytes_of (W : World) (x : List UInt8) : ∃ (c : Nat) (W' : World), (convert 9 49 (.string (bsOf x))).run Tryz.prog W = .ok (.slice (some ⟨W.heap.size, 0, none⟩) x.length c) W' ∧ Below W.heap.size W W' ∧ W.heap.size < W'.heap.size ∧ ∀ j u, (byteCells x)[j]? = some u → W'.cell? ((⟨W.heap.size, 0, none⟩ : Addr).add j) = some u := by
  refine ⟨_, _, by rw [run_bytes_of_string W 9 49 5 (bsOf x) Tryz.underlying9 Tryz.underlying49 Tryz.underlying5, bsOf_size], ?_, ?_, ?_⟩
  · exact (Below.refl _ _).drew.alloc (Nat.le_refl _) _
  · simp
  · intro j u hj
    have hadd : (⟨W.heap.size, 0, none⟩ : Addr).add j = ⟨W.heap.size, j, none⟩ := by unfold Addr.add; split <;> simp_all
    rw [hadd]
    generalize hC : bytesRow (bsOf x) (grownCap W x.length 0 5) = C
    have hcj : C[j]? = some u := by
      rw [← hC, bytesRow]
      have hjl : j < x.length := by
        have := (List.getElem?_eq_some_iff.1 hj).1
        simpa [byteCells] using this
      rw [Array.getElem?_append_left (by simpa [bsOf] using hjl)]
      simpa [byteCells, bsOf] using hj
    have e := World.alloc_heap_new W.drew (.cells C 5 (C.size, C.size + 1))
    unfold World.cell?
    simp only [show W.drew.heap.size = W.heap.size from rfl] at e
    simp only [e, hcj]
    rfl
theorem told_row2 {base : Nat} {acc bs : List UInt8} {v v' : Value} {w W w' : World} (hb : Below base w W) (ho : W.ownsRow base 5 1 v acc.length (byteCells acc)) (hB : base ≤ W.heap.size)
    (ht : Told base acc.length (byteCells acc) v W bs v' w') : Below base w w' ∧ w'.ownsRow base 5 1 v' (acc ++ bs).length (byteCells (acc ++ bs)) := by
  refine ⟨hb.trans (ht.below ho hB), ?_⟩
  have := ht.own
  rwa [← List.length_append, show byteCells acc ++ byteCells bs = byteCells (acc ++ bs) by simp [byteCells]] at this
theorem byte_of {c : UInt8} {k : Nat} (hk : k < 256) (h : c.toNat = k) : c = UInt8.ofNat k := by rw [← h]; simp
set_option maxRecDepth 100000 in
set_option maxHeartbeats 4000000 in
theorem rtext_any (s : ByteArray) (i : Nat) (z : UInt8) (hi : i < s.size) (hz : s[i] = z) (hq : z = 39 ∨ z = 34) (hs : s.size ≤ 1000000000) (w : World) : Calls Tryz.prog 56 #[.string s, .int .i64 (i : Int)] w fun e w' => TxtTo s i z e ∧ Below w.heap.size w w' := by
  have HZ := hidE hz
  have HQ : Hid (z ≠ 92) := by
    show z ≠ 92
    rcases hq with rfl | rfl <;> decide
  have hzn : (s[i].toNat : Int) = z.toNat := by rw [hz]
  have HU := hidE (fun (t : List UInt8) (ht : t.length ≤ s.size) w => utf_any (bsOf t) w (by rw [bsOf_size]; omega))
  have HRU := hidE (fun k (hk : k ≤ s.size) w => rrune_any s k hk hs w)
  clear hz hq
  have hi' : (i : Int) < s.size := by omega
  go_enter Tryz.func56, Tryz.ntmps56
  go_wp2_with fail
  go_loopw [7, 8] (fun r v wr => ∃ (q : Nat) (acc : List UInt8), i + 1 ≤ q ∧ q ≤ s.size ∧ v = .int .i64 q ∧ Below w.heap.size w wr ∧ wr.ownsRow w.heap.size 5 1 r acc.length (byteCells acc) ∧ acc.length ≤ q ∧ textB z (suf s (i + 1)) = putF acc (textB z (suf s q))) (fun _ v _ => s.size - (intOf v).toNat)
  case atStart =>
    refine ⟨i + 1, [], Nat.le_refl _, by omega, by go_num, Below.refl _ _, World.ownsRow_nil _ _ _ _, Nat.zero_le _, ?_⟩
    cases textB z (suf s (i + 1)) <;> rfl
  case round =>
    obtain ⟨q, acc, hiq, hq, rfl, hb, ho, hl, hR⟩ := hrel
    have HR := hidE hR
    have hBs0 := hb.size
    have HB := hidE hb
    have HO := hidE ho
    clear hb ho hR
    by_cases hlt : q < s.size
    · have hlt' : (q : Int) < s.size := by omega
      obtain ⟨c, hc⟩ : ∃ c, s[q] = c := ⟨_, rfl⟩
      have hcn : (s[q].toNat : Int) = c.toNat := by rw [hc]
      have HC := hidE hc
      clear hc
      by_cases hcz : c = z
      · have hcz' : ((c.toNat : Int) == (z.toNat : Int)) = true := eq_bool (by rw [hcz])
        have HN2 : Hid (textB z (suf s (i + 1)) = some (acc, suf s (q + 1))) := by
          show _ = _
          rw [HR.out, suf_cons hlt, HC.out, textB.eq_def]
          simp only [hcz, if_true]
          simp [putF]
        clear hcz
        go_wp2_with fail
        go_region
        generalize hW : wr.drew = W
        have HB1 : Hid (Below w.heap.size w W) := by rw [← hW]; exact HB.out.drew
        have HO1 : Hid (W.ownsRow w.heap.size 5 1 u7 acc.length (byteCells acc)) := by rw [← hW]; exact own_drew HO.out
        clear hW HB HO
        have hcv := own_conv (own_drew HO1.out)
        have HNA := hidE (HU.out acc (by omega))
        obtain ⟨p, hp⟩ : ∃ p, q + 1 = p := ⟨_, rfl⟩
        have hp' : (q : Int) + 1 = (p : Int) := by omega
        have hwp : IntKind.i64.wrap (p : Int) = (p : Int) := by rw [IntKind.wrap_i64]; omega
        rw [hp] at HN2
        go_wp2_with fail
        go_region_with (refine (HNA.out _).mono ?_; rintro e w2 ⟨rfl, rfl⟩)
        all_goals
          go_wp2_with fail
          go_ret3
          refine ⟨.inl ⟨acc, p, by omega, by omega, by omega, HN2.out, ?_⟩, HB1.out.drew⟩
          rfl
      · have hcz' : ((c.toNat : Int) == (z.toNat : Int)) = false := ne_bool (by
          intro e
          exact hcz (UInt8.toNat_inj.1 (by omega)))
        go_wp2_with fail
        go_region
        generalize hW : wr.drew = W
        have HB1 : Hid (Below w.heap.size w W) := by rw [← hW]; exact HB.out.drew
        have HO1 : Hid (W.ownsRow w.heap.size 5 1 u7 acc.length (byteCells acc)) := by rw [← hW]; exact own_drew HO.out
        have hBs : w.heap.size ≤ W.heap.size := by rw [← hW]; exact hBs0
        clear hW HB HO
        by_cases h92 : c.toNat = 92
        · have hc92 : c = 92 := byte_of (by decide) h92
          have HSQ : Hid (s[q] = 92) := by show _ = _; rw [HC.out, hc92]
          have h92' : ((c.toNat : Int) == 92) = true := eq_bool (by omega)
          have HE : Hid (textB z (suf s (i + 1)) = (escP (suf s (q + 1))).bind fun x => putF (acc ++ x.1) (textB z x.2)) := by
            show _ = _
            rw [HR.out, suf_cons hlt, HSQ.out, text_esc z HQ.out]
            cases escP (suf s (q + 1)) with
            | none => rfl
            | some x => exact putF_put _ _ _
          clear hc92 h92 hcz
          obtain ⟨p, hp⟩ : ∃ p, q + 1 = p := ⟨_, rfl⟩
          have hp' : (q : Int) + 1 = (p : Int) := by omega
          rw [hp] at HE
          have hqp : q < p := by omega
          have HP := hidE hp
          have hpm : p ≤ q + 1 := by omega
          have hps0 : p ≤ s.size := by omega
          clear hp
          by_cases hps : p < s.size
          · have hps' : ¬ (s.size : Int) ≤ p := by omega
            have hps'' : (p : Int) < s.size := by omega
            obtain ⟨e, he⟩ : ∃ e, s[p] = e := ⟨_, rfl⟩
            have HEE := hidE he
            have HSU : Hid (suf s p = e :: suf s (p + 1)) := by show _ = _; rw [suf_cons hps, he]
            clear he
            by_cases e92 : e.toNat = 92
            · have hen : (s[p].toNat : Int) = 92 := by rw [HEE.out, e92]; rfl
              have HN2 : Hid (textB z (suf s (i + 1)) = putF (acc ++ [92]) (textB z (suf s (p + 1)))) := by
                show _ = _
                rw [HE.out, HSU.out, byte_of (by decide) e92]; rfl
              clear e92
              go_wp2_with (at_builtin; refine append_row (W.alloc (.cells #[.int .u8 92] 5)) rfl _ _ rfl w.heap.size acc.length u7 (byteCells acc) rfl (own_alloc HO1.out _) ⟨W.heap.size, 0, none⟩ 1 1 [92] rfl rfl (one_cellB W 92) (by omega) (by simp; omega) ?_; intro v' w' ht)
              obtain ⟨hb3, ho3⟩ := told_row HB1.out HO1.out hBs ht
              have HB3 := hidE hb3
              have HO3 := hidE ho3
              clear hb3 ho3 ht HB1 HO1
              go_wp2_with fail
              go_roundw
              case rel => exact ⟨p + 1, acc ++ [92], by omega, by omega, by go_num, HB3.out, HO3.out, by simp; omega, HN2.out⟩
              case measure => simp [intOf]; omega
            have f92 : ¬ e.toNat = 92 := e92
            clear e92
            by_cases e39 : e.toNat = 39
            · have hen : (s[p].toNat : Int) = 39 := by rw [HEE.out, e39]; rfl
              have HN2 : Hid (textB z (suf s (i + 1)) = putF (acc ++ [39]) (textB z (suf s (p + 1)))) := by
                show _ = _
                rw [HE.out, HSU.out, byte_of (by decide) e39]; rfl
              clear e39
              go_wp2_with (at_builtin; refine append_row (W.alloc (.cells #[.int .u8 39] 5)) rfl _ _ rfl w.heap.size acc.length u7 (byteCells acc) rfl (own_alloc HO1.out _) ⟨W.heap.size, 0, none⟩ 1 1 [39] rfl rfl (one_cellB W 39) (by omega) (by simp; omega) ?_; intro v' w' ht)
              obtain ⟨hb3, ho3⟩ := told_row HB1.out HO1.out hBs ht
              have HB3 := hidE hb3
              have HO3 := hidE ho3
              clear hb3 ho3 ht HB1 HO1
              go_wp2_with fail
              go_roundw
              case rel => exact ⟨p + 1, acc ++ [39], by omega, by omega, by go_num, HB3.out, HO3.out, by simp; omega, HN2.out⟩
              case measure => simp [intOf]; omega
            have f39 : ¬ e.toNat = 39 := e39
            clear e39
            by_cases e34 : e.toNat = 34
            · have hen : (s[p].toNat : Int) = 34 := by rw [HEE.out, e34]; rfl
              have HN2 : Hid (textB z (suf s (i + 1)) = putF (acc ++ [34]) (textB z (suf s (p + 1)))) := by
                show _ = _
                rw [HE.out, HSU.out, byte_of (by decide) e34]; rfl
              clear e34
              go_wp2_with (at_builtin; refine append_row (W.alloc (.cells #[.int .u8 34] 5)) rfl _ _ rfl w.heap.size acc.length u7 (byteCells acc) rfl (own_alloc HO1.out _) ⟨W.heap.size, 0, none⟩ 1 1 [34] rfl rfl (one_cellB W 34) (by omega) (by simp; omega) ?_; intro v' w' ht)
              obtain ⟨hb3, ho3⟩ := told_row HB1.out HO1.out hBs ht
              have HB3 := hidE hb3
              have HO3 := hidE ho3
              clear hb3 ho3 ht HB1 HO1
              go_wp2_with fail
              go_roundw
              case rel => exact ⟨p + 1, acc ++ [34], by omega, by omega, by go_num, HB3.out, HO3.out, by simp; omega, HN2.out⟩
              case measure => simp [intOf]; omega
            have f34 : ¬ e.toNat = 34 := e34
            clear e34
            by_cases e110 : e.toNat = 110
            · have hen : (s[p].toNat : Int) = 110 := by rw [HEE.out, e110]; rfl
              have HN2 : Hid (textB z (suf s (i + 1)) = putF (acc ++ [10]) (textB z (suf s (p + 1)))) := by
                show _ = _
                rw [HE.out, HSU.out, byte_of (by decide) e110]; rfl
              clear e110
              go_wp2_with (at_builtin; refine append_row (W.alloc (.cells #[.int .u8 10] 5)) rfl _ _ rfl w.heap.size acc.length u7 (byteCells acc) rfl (own_alloc HO1.out _) ⟨W.heap.size, 0, none⟩ 1 1 [10] rfl rfl (one_cellB W 10) (by omega) (by simp; omega) ?_; intro v' w' ht)
              obtain ⟨hb3, ho3⟩ := told_row HB1.out HO1.out hBs ht
              have HB3 := hidE hb3
              have HO3 := hidE ho3
              clear hb3 ho3 ht HB1 HO1
              go_wp2_with fail
              go_roundw
              case rel => exact ⟨p + 1, acc ++ [10], by omega, by omega, by go_num, HB3.out, HO3.out, by simp; omega, HN2.out⟩
              case measure => simp [intOf]; omega
            have f110 : ¬ e.toNat = 110 := e110
            clear e110
            by_cases e116 : e.toNat = 116
            · have hen : (s[p].toNat : Int) = 116 := by rw [HEE.out, e116]; rfl
              have HN2 : Hid (textB z (suf s (i + 1)) = putF (acc ++ [9]) (textB z (suf s (p + 1)))) := by
                show _ = _
                rw [HE.out, HSU.out, byte_of (by decide) e116]; rfl
              clear e116
              go_wp2_with (at_builtin; refine append_row (W.alloc (.cells #[.int .u8 9] 5)) rfl _ _ rfl w.heap.size acc.length u7 (byteCells acc) rfl (own_alloc HO1.out _) ⟨W.heap.size, 0, none⟩ 1 1 [9] rfl rfl (one_cellB W 9) (by omega) (by simp; omega) ?_; intro v' w' ht)
              obtain ⟨hb3, ho3⟩ := told_row HB1.out HO1.out hBs ht
              have HB3 := hidE hb3
              have HO3 := hidE ho3
              clear hb3 ho3 ht HB1 HO1
              go_wp2_with fail
              go_roundw
              case rel => exact ⟨p + 1, acc ++ [9], by omega, by omega, by go_num, HB3.out, HO3.out, by simp; omega, HN2.out⟩
              case measure => simp [intOf]; omega
            have f116 : ¬ e.toNat = 116 := e116
            clear e116
            by_cases e114 : e.toNat = 114
            · have hen : (s[p].toNat : Int) = 114 := by rw [HEE.out, e114]; rfl
              have HN2 : Hid (textB z (suf s (i + 1)) = putF (acc ++ [13]) (textB z (suf s (p + 1)))) := by
                show _ = _
                rw [HE.out, HSU.out, byte_of (by decide) e114]; rfl
              clear e114
              go_wp2_with (at_builtin; refine append_row (W.alloc (.cells #[.int .u8 13] 5)) rfl _ _ rfl w.heap.size acc.length u7 (byteCells acc) rfl (own_alloc HO1.out _) ⟨W.heap.size, 0, none⟩ 1 1 [13] rfl rfl (one_cellB W 13) (by omega) (by simp; omega) ?_; intro v' w' ht)
              obtain ⟨hb3, ho3⟩ := told_row HB1.out HO1.out hBs ht
              have HB3 := hidE hb3
              have HO3 := hidE ho3
              clear hb3 ho3 ht HB1 HO1
              go_wp2_with fail
              go_roundw
              case rel => exact ⟨p + 1, acc ++ [13], by omega, by omega, by go_num, HB3.out, HO3.out, by simp; omega, HN2.out⟩
              case measure => simp [intOf]; omega
            have f114 : ¬ e.toNat = 114 := e114
            clear e114
            by_cases e117 : e.toNat = 117
            · have hen : (s[p].toNat : Int) = 117 := by rw [HEE.out, e117]; rfl
              obtain ⟨k, hk⟩ : ∃ k, p + 1 = k := ⟨_, rfl⟩
              have hk' : (p : Int) + 1 = (k : Int) := by omega
              have HEU : Hid (escP (suf s p) = (r4At s k).map fun x => (x, suf s (k + 4))) := by
                show _ = _
                rw [HSU.out, byte_of (by decide) e117, hk]; exact esc_u4
              have hkm : p < k ∧ k ≤ p + 1 ∧ k ≤ s.size := by omega
              have HRK := hidE (HRU.out k hkm.2.2)
              have HLN := hidE (fun x h => r4_len (s := s) (k := k) (x := x) h)
              clear e117 hk f92 f39 f34 f110 f116 f114
              generalize r4At s k = R4 at HEU HRK HLN
              go_wp2_with fail
              refine (HRK.out _).mono ?_
              rintro e2 w2 ⟨rfl, hb2⟩
              cases R4 with
              | none =>
                have HN2 : Hid (textB z (suf s (i + 1)) = none) := by show _ = _; rw [HE.out, HEU.out]; rfl
                have HB2 := hidE (HB1.out.trans (hb2.mono hBs))
                clear hb2
                simp only [Option.getD_none, Option.isSome_none]
                go_wp2_with fail
                go_ret3
                exact ⟨.inr ⟨HN2.out, rfl⟩, HB2.out⟩
              | some x =>
                have hx3 := HLN.out x rfl
                have HN2 : Hid (textB z (suf s (i + 1)) = putF (acc ++ x) (textB z (suf s (k + 4)))) := by show _ = _; rw [HE.out, HEU.out]; rfl
                have HB2 := hidE (HB1.out.trans (hb2.mono hBs))
                have HO2 : Hid (w2.ownsRow w.heap.size 5 1 u7 acc.length (byteCells acc)) := own_below HO1.out hb2
                have hBs2 : w.heap.size ≤ w2.heap.size := Nat.le_trans hBs hb2.size
                clear hb2 HB1 HO1
                simp only [Option.getD_some, Option.isSome_some]
                obtain ⟨c2, W3, hcv, hb3, hs3, hc3⟩ := bytes_of w2 x
                have HC3 := hidE hc3
                have HB3a := hidE (HB2.out.trans (hb3.mono hBs2))
                have HO3a : Hid (W3.ownsRow w.heap.size 5 1 u7 acc.length (byteCells acc)) := own_below HO2.out hb3
                have hBs3 : w.heap.size ≤ W3.heap.size := Nat.le_trans hBs2 hb3.size
                clear hb3 hc3 HB2 HO2
                go_wp2_with (at_builtin; refine append_row W3 rfl _ _ rfl w.heap.size acc.length u7 (byteCells acc) rfl HO3a.out ⟨w2.heap.size, 0, none⟩ x.length c2 x rfl rfl HC3.out (by omega) hBs3 ?_; intro v' w' ht)
                obtain ⟨hb4, ho4⟩ := told_row2 HB3a.out HO3a.out hBs3 ht
                have HB3 := hidE hb4
                have HO3 := hidE ho4
                clear hb4 ho4 ht HB3a HO3a hcv
                go_wp2_with fail
                go_roundw
                case rel => exact ⟨k + 4, acc ++ x, by omega, by omega, by go_num, HB3.out, HO3.out, by simp; omega, HN2.out⟩
                case measure => simp [intOf]; omega
            · obtain ⟨m, hm⟩ : ∃ m, e.toNat = m := ⟨_, rfl⟩
              have hen : (s[p].toNat : Int) = m := by rw [HEE.out, hm]
              have HN2 : Hid (textB z (suf s (i + 1)) = none) := by
                show _ = _
                rw [HE.out, HSU.out]
                have hbit : bitB e = none := by
                  unfold bitB
                  have hne : ∀ k : Nat, k < 256 → ¬ e.toNat = k → ¬ e = UInt8.ofNat k := fun k hk h he => h (by rw [he]; exact byte_nat hk)
                  rw [if_neg, if_neg (show ¬ e = 110 from hne 110 (by decide) f110), if_neg (show ¬ e = 116 from hne 116 (by decide) f116), if_neg (show ¬ e = 114 from hne 114 (by decide) f114)]
                  rintro (h | h | h)
                  · exact hne 92 (by decide) f92 h
                  · exact hne 39 (by decide) f39 h
                  · exact hne 34 (by decide) f34 h
                have h117 : ¬ e = 117 := fun h => e117 (by rw [h]; rfl)
                simp [escP, hbit, h117]
              have g92 : ((m : Int) == 92) = false := ne_bool (by omega)
              have g39 : ((m : Int) == 39) = false := ne_bool (by omega)
              have g34 : ((m : Int) == 34) = false := ne_bool (by omega)
              have g110 : ((m : Int) == 110) = false := ne_bool (by omega)
              have g116 : ((m : Int) == 116) = false := ne_bool (by omega)
              have g114 : ((m : Int) == 114) = false := ne_bool (by omega)
              have g117 : ((m : Int) == 117) = false := ne_bool (by omega)
              clear hm f92 f39 f34 f110 f116 f114 e117
              go_wp2_with fail
              go_ret3
              exact ⟨.inr ⟨HN2.out, rfl⟩, HB1.out⟩
          · have hps' : (s.size : Int) ≤ p := by omega
            have HN2 : Hid (textB z (suf s (i + 1)) = none) := by
              show _ = _
              rw [HE.out, suf_end (by omega)]; rfl
            go_wp2_with fail
            go_ret3
            exact ⟨.inr ⟨HN2.out, rfl⟩, HB1.out⟩
        · have h92' : ((c.toNat : Int) == 92) = false := ne_bool (by omega)
          have HN2 : Hid (textB z (suf s (i + 1)) = putF (acc ++ [c]) (textB z (suf s (q + 1)))) := by
            show _ = _
            rw [HR.out, suf_cons hlt, HC.out, textB.eq_def]
            have : ¬ c = 92 := by intro e; rw [e] at h92; exact h92 rfl
            simp only [hcz, this, if_false]
            exact putF_snoc _ _ _
          clear h92 hcz
          go_wp2_with (at_builtin; refine append_row (W.alloc (.cells #[.int .u8 (c.toNat : Int)] 5)) rfl _ _ rfl w.heap.size acc.length u7 (byteCells acc) rfl (own_alloc HO1.out _) ⟨W.heap.size, 0, none⟩ 1 1 [c] rfl rfl (one_cellB W c) (by omega) (by simp; omega) ?_; intro v' w' ht)
          obtain ⟨hb3, ho3⟩ := told_row HB1.out HO1.out hBs ht
          have HB3 := hidE hb3
          have HO3 := hidE ho3
          clear hb3 ho3 ht HB1 HO1
          go_wp2_with fail
          go_roundw
          case rel => exact ⟨q + 1, acc ++ [c], by omega, by omega, by go_num, HB3.out, HO3.out, by simp; omega, HN2.out⟩
          case measure => simp [intOf]; omega
    · have hlt' : ¬ (q : Int) < s.size := by omega
      have HN2 : Hid (textB z (suf s (i + 1)) = none) := by
        show _ = _
        rw [HR.out, suf_end (by omega), textB.eq_def]; rfl
      go_wp2_with fail
      go_ret3
      exact ⟨.inr ⟨HN2.out, rfl⟩, HB.out⟩
end Go.Proofs.YtbjcdpenfijfoaaGreatDoor
