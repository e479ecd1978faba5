/- The reader reads a name between two signs. -/
import Derived.Test.YtbjcdpenfijfoaaGreatDoorJoin8
namespace Go.Proofs.YtbjcdpenfijfoaaGreatDoor
open Go.RowKit Go.Shelf Go.Lexed
open Go.Lib (byteCells byteCells_length)
set_option linter.unusedVariables false
set_option linter.unusedSimpArgs false
/-- What reading a quoted name answers. -/
def Quoted (a : Nat) (s : ByteArray) (k b : Nat) (w : World) (e : Ending) (w' : World) : Prop :=
  ∃ j : Nat, j ≤ s.size ∧ Rd w' a s j b ∧ Fr a w.heap.size w w' ∧ ((∃ t, e = .returned (.string (bsOf t)) ∧ k < j ∧ quotB (suf s (k + 1)) = some (t, suf s j)) ∨ (e = gaveUp ∧ quotB (suf s (k + 1)) = none))
def putF (acc : List UInt8) (o : Option (List UInt8 × List UInt8)) : Option (List UInt8 × List UInt8) := o.map fun p => (acc ++ p.1, p.2)
theorem putF_snoc (acc : List UInt8) (c : UInt8) (o : Option (List UInt8 × List UInt8)) : putF acc (o.map fun p => (c :: p.1, p.2)) = putF (acc ++ [c]) o := by
  cases o <;> simp [putF]
theorem fr_told {a base n : Nat} {xs : List Value} {v v' : Value} {w w1 : World} {bs : List UInt8} (hown : w.ownsRow base 5 1 v n xs) (hB : base ≤ w.heap.size) (ht : Told base n xs v w bs v' w1) : Fr a base w w1 := Fr.of_below (ht.below hown hB)
/-- What a reader and its row are behind an append. -/
theorem told_after {a base k b : Nat} {s : ByteArray} {acc bs : List UInt8} {v v' : Value} {w W w' : World} {o : Obj} (hr : Rd W a s k b) (hf : Fr a base w W) (ho : W.ownsRow base 5 1 v acc.length (byteCells acc)) (ha : a < base) (hB : base ≤ W.heap.size)
    (ht : Told base acc.length (byteCells acc) v (W.alloc o).drew bs v' w') : Rd w' a s k b ∧ Fr a base w w' ∧ w'.ownsRow base 5 1 v' (acc ++ bs).length (byteCells (acc ++ bs)) := by
  have hb : Below base (W.alloc o).drew w' := ht.below (own_drew (own_alloc ho o)) (by simp; omega)
  have hb0 : Below base W (W.alloc o).drew := ((Below.refl base W).alloc hB o).drew
  have hb2 := hb0.trans hb
  refine ⟨hr.below hb2 ha, hf.trans (Fr.of_below hb2), ?_⟩
  have := ht.own
  rwa [← List.length_append, show byteCells acc ++ byteCells bs = byteCells (acc ++ bs) by simp [byteCells]] at this
set_option maxRecDepth 100000 in
set_option maxHeartbeats 4000000 in
theorem quoted_any (a : Nat) (s : ByteArray) (k b : Nat) (w : World) (h : Rd w a s k b) (hk : k < s.size) (hs : s.size ≤ 10000000000) :
    Calls Tryz.prog 73 #[.pointer (some ⟨a, 0, none⟩)] w fun e w' => Quoted a s k b w e w' := by
  have H := hidE h
  have ha := h.lt
  have c1 := h.c1
  have z1 := h.z1
  generalize hR : quotB (suf s (k + 1)) = R
  have HRR := hidE hR
  clear h hR
  go_enter Tryz.func73, Tryz.ntmps73
  go_wp2_with fail
  clear c1 z1
  go_loopw [3] (fun v wr => ∃ (q : Nat) (acc : List UInt8), k + 1 ≤ q ∧ q ≤ s.size ∧ Rd wr a s q b ∧ Fr a w.heap.size w wr ∧ wr.ownsRow w.heap.size 5 1 v acc.length (byteCells acc) ∧ acc.length ≤ q ∧ R = putF acc (quotB (suf s q))) (fun _ wr => s.size - atOf wr a)
  case atStart =>
    refine ⟨k + 1, [], Nat.le_refl _, by omega, H.out.at (k + 1) _ (by go_num), (Fr.refl _ _ _).put _ _, World.ownsRow_nil _ _ _ _, Nat.zero_le _, ?_⟩
    rw [← HRR.out]
    cases quotB (suf s (k + 1)) <;> rfl
  case round =>
    obtain ⟨q, acc, hkq, hq, hr, hf, ho, hl, hR⟩ := hrel
    have HR := hidE hr
    have HF := hidE hf
    have HO := hidE ho
    have HX := hidE hR
    have c0 := hr.c0
    have c1 := hr.c1
    have z1 := hr.z1
    clear hr hf ho hR
    by_cases hlt : q < s.size
    · obtain ⟨c, hc⟩ : ∃ c, s[q] = c := ⟨_, rfl⟩
      have HN := hidE (next_any a s q b wr HR.out hlt hs)
      rw [hc] at HN
      have HC := hidE hc
      clear hc
      go_wp2_with fail
      refine HN.out.mono ?_
      rintro e w1 ⟨rfl, m, rfl⟩
      generalize hW : wr.drewN m = W
      have HR1 : Hid (Rd W a s q b) := by rw [← hW]; exact HR.out.drewN _
      have HF1 : Hid (Fr a w.heap.size w W) := by rw [← hW]; exact HF.out.drewN _
      have HO1 : Hid (W.ownsRow w.heap.size 5 1 u3 acc.length (byteCells acc)) := by rw [← hW]; exact own_drewN HO.out _
      have HUp : Hid (atOf wr a = q) := HR.out.upTo
      clear hW HR HF HO HN c0 c1 z1
      have c0 := HR1.out.c0
      have c1 := HR1.out.c1
      have z1 := HR1.out.z1
      by_cases h96 : c.toNat = 96
      · have hc96 : c = 96 := by
          have : c = UInt8.ofNat 96 := by rw [← h96]; simp
          exact this
        have h96' : ((c.toNat : Int) == 96) = true := eq_bool (by omega)
        obtain ⟨p, hp⟩ : ∃ p, q + 1 = p := ⟨_, rfl⟩
        have HP := hidE hp
        have hq1 : p ≤ s.size := by omega
        have hqp : q < p := by omega
        have HSQ : Hid (s[q] = 96) := by show _ = _; rw [HC.out, hc96]
        clear hp
        go_wp2_with fail
        refine (ahead_any a s p b 1 _ (HR1.out.at p _ (by have := HP.out; omega)) hq1 hs (by decide) (by decide)).mono ?_
        rintro e w1 ⟨rfl, m1, rfl⟩
        generalize hW1 : World.drewN _ _ = W1
        have HR2 : Hid (Rd W1 a s p b) := by rw [← hW1]; exact (HR1.out.at p _ (by have := HP.out; omega)).drewN _
        have HF2 : Hid (Fr a w.heap.size w W1) := by rw [← hW1]; exact (HF1.out.put _ _).drewN _
        have HO2 : Hid (W1.ownsRow w.heap.size 5 1 u3 acc.length (byteCells acc)) := by rw [← hW1]; exact own_drewN (own_set HO1.out ha _ _) _
        clear hW1 HR1 HF1 HO1 c0 c1 z1
        have c0 := HR2.out.c0
        have c1 := HR2.out.c1
        have z1 := HR2.out.z1
        by_cases hn : ∃ h : p < s.size, s[p] = 96
        · obtain ⟨hlt1, hd⟩ := hn
          have ht1 : ((aheadB s p 1).toList == [96]) = true := by rw [ahead_one hlt1, hd]; rfl
          have HN2 : Hid (R = putF (acc ++ [s[p]]) (quotB (suf s (p + 1)))) := by
            show _ = _
            rw [HX.out, suf_cons hlt, HP.out, suf_cons hlt1, HSQ.out, hd, quotB.eq_def]
            simp only [if_true]
            exact putF_snoc _ _ _
          generalize aheadB s p 1 = t1 at ht1 ⊢
          have hlt' : (p : Int) < s.size := by omega
          clear hd hc96 h96 h96' HX HC HSQ
          go_wp2_with fail
          go_region_law (refine step_told (base := w.heap.size) (m := acc.length) (ys := byteCells acc) (t := W1.heap.size) (bs := [s[p]]) rfl (.tmp 33) (.tmp 43) rfl rfl rfl (own_drew (own_alloc HO2.out _)) (one_cell W1 s[p]) (by simp; omega) (by have := HF2.out.size; simp; omega) ?_; intro v' w' ht)
          all_goals
            obtain ⟨hr3, hf3, ho3⟩ := told_after HR2.out HF2.out HO2.out ha (HF2.out.size) ht
            have HR3 := hidE hr3
            have HF3 := hidE hf3
            have HO3 := hidE ho3
            clear hr3 hf3 ho3 ht HR2 HF2 HO2 c0 c1 z1
            have c1 := HR3.out.c1
            have z1 := HR3.out.z1
            go_wp2_with fail
            go_roundw
            case rel => exact ⟨p + 1, acc ++ [s[p]], by omega, by omega, HR3.out.at (p + 1) _ (by go_num), HF3.out.put _ _, own_set HO3.out ha _ _, by simp; omega, HN2.out⟩
            case measure => rw [Rd.upTo (HR3.out.at (p + 1) _ (by go_num)), HUp.out]; omega
        · have ht1 : ((aheadB s p 1).toList == [96]) = false := by
            rw [beq_eq_false_iff_ne]
            intro e
            by_cases hlt1 : p < s.size
            · rw [ahead_one hlt1] at e
              exact hn ⟨hlt1, by simpa using e⟩
            · rw [ahead_no (by omega)] at e; cases e
          have HN2 : Hid (R = some (acc, suf s p)) := by
            show _ = _
            rw [HX.out, suf_cons hlt, HP.out, HSQ.out, quotB.eq_def]
            by_cases hlt1 : p < s.size
            · have hne : ¬ s[p] = 96 := fun e => hn ⟨hlt1, e⟩
              rw [suf_cons hlt1]
              simp [hne, putF]
            · rw [suf_end (by omega)]; simp [putF]
          generalize aheadB s p 1 = t1 at ht1 ⊢
          have hcv := own_conv HO2.out
          clear hn hc96 h96 h96' HX HC HSQ
          go_wp2_with fail
          go_ret
          refine ⟨p, hq1, HR2.out, HF2.out, .inl ⟨acc, rfl, by omega, ?_⟩⟩
          rw [HRR.out]; exact HN2.out
      · have h96' : ((c.toNat : Int) == 96) = false := ne_bool (by omega)
        have HN2 : Hid (R = putF (acc ++ [s[q]]) (quotB (suf s (q + 1)))) := by
          show _ = _
          rw [HX.out, suf_cons hlt, quotB.eq_def]
          have : ¬ s[q] = 96 := by rw [HC.out]; intro e; rw [e] at h96; exact h96 rfl
          simp only [this, if_false]
          exact putF_snoc _ _ _
        have hlt' : (q : Int) < s.size := by omega
        go_wp2_with fail
        go_region_law (refine step_told (base := w.heap.size) (m := acc.length) (ys := byteCells acc) (t := W.heap.size) (bs := [s[q]]) rfl (.tmp 33) (.tmp 43) rfl rfl rfl (own_drew (own_alloc HO1.out _)) (one_cell W s[q]) (by simp; omega) (by have := HF1.out.size; simp; omega) ?_; intro v' w' ht)
        all_goals
          obtain ⟨hr2, hf2, ho2⟩ := told_after HR1.out HF1.out HO1.out ha (HF1.out.size) ht
          have HR2 := hidE hr2
          have HF2 := hidE hf2
          have HO2 := hidE ho2
          clear hr2 hf2 ho2 ht HR1 HF1 HO1 c0 c1 z1
          have c1 := HR2.out.c1
          have z1 := HR2.out.z1
          go_wp2_with fail
          go_roundw
          case rel => exact ⟨q + 1, acc ++ [s[q]], by omega, by omega, HR2.out.at (q + 1) _ (by go_num), HF2.out.put _ _, own_set HO2.out ha _ _, by simp; omega, HN2.out⟩
          case measure => rw [Rd.upTo (HR2.out.at (q + 1) _ (by go_num)), HUp.out]; omega
    · have HN := hidE (next_end a s q b wr HR.out hlt hs)
      have HN2 : Hid (R = none) := by
        show _ = _
        rw [HX.out, suf_end (by omega)]; rfl
      go_wp2_with fail
      refine HN.out.mono ?_
      rintro e w1 ⟨rfl, m, rfl⟩
      refine ⟨rfl, q, hq, HR.out.drewN _, HF.out.drewN _, .inr ⟨rfl, ?_⟩⟩
      rw [HRR.out]; exact HN2.out
end Go.Proofs.YtbjcdpenfijfoaaGreatDoor
