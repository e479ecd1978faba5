/- The reader reads a text up to the sign with which it begins. -/
import Derived.Test.YtbjcdpenfijfoaaGreatDoorPesc
namespace Go.Proofs.YtbjcdpenfijfoaaGreatDoor
open Go.RowKit Go.Shelf Go.Lexed
open Go.Lib (byteCells byteCells_length)
set_option linter.unusedVariables false
set_option linter.unusedSimpArgs false
/-- What reading a text answers. -/
def Closed (a : Nat) (s : ByteArray) (k b : Nat) (q : UInt8) (w : World) (e : Ending) (w' : World) : Prop :=
  ∃ j : Nat, j ≤ s.size ∧ Rd w' a s j b ∧ Fr a w.heap.size w w' ∧ ((∃ t, e = .returned (.string (bsOf t)) ∧ k < j ∧ t.length ≤ 4 * s.size ∧ textB q (suf s (k + 1)) = some (t, suf s j)) ∨ (e = gaveUp ∧ textB q (suf s (k + 1)) = none))
theorem putF_app (acc bs : List UInt8) (o : Option (List UInt8 × List UInt8)) : putF acc (putF bs o) = putF (acc ++ bs) o := by
  cases o <;> simp [putF]
theorem one_cellA (w : World) (c : UInt8) : ∀ j u, (byteCells [c])[j]? = some u → (w.alloc (.cells #[.int .u8 (c.toNat : Int)] 5)).cell? ((⟨w.heap.size, 0, none⟩ : Addr).add j) = some u := by
  intro j u hj
  have hadd : (⟨w.heap.size, 0, none⟩ : Addr).add j = ⟨w.heap.size, j, none⟩ := by unfold Addr.add; split <;> simp_all
  rw [hadd]
  exact one_cell w c j u hj
theorem told_fr {a base k b : Nat} {s : ByteArray} {acc bs : List UInt8} {v v' : Value} {w W w' : World} {o : Obj} (hr : Rd W a s k b) (hf : Fr a base w W) (ho : W.ownsRow base 5 1 v acc.length (byteCells acc)) (ha : a < base) (hB : base ≤ W.heap.size)
    (ht : Told base acc.length (byteCells acc) v (W.alloc o) bs v' w') : Rd w' a s k b ∧ Fr a base w w' ∧ w'.ownsRow base 5 1 v' (acc ++ bs).length (byteCells (acc ++ bs)) := by
  obtain ⟨h1, h2, h3⟩ := told_from (w := W) hr (Below.refl _ _) ho ha hB ht
  exact ⟨h1, hf.trans h2, h3⟩
set_option maxRecDepth 100000 in
set_option maxHeartbeats 4000000 in
theorem closed_any (a : Nat) (s : ByteArray) (k b : Nat) (w : World) (h : Rd w a s k b) (hk : k < s.size) (hs : s.size ≤ 10000000000) (hq92 : s[k] ≠ 92) :
    Calls Tryz.prog 74 #[.pointer (some ⟨a, 0, none⟩)] w fun e w' => Closed a s k b s[k] w e w' := by
  have H := hidE h
  have ha := h.lt
  have HN0 := hidE (next_any a s k b w h hk hs)
  obtain ⟨q, hq⟩ : ∃ q, s[k] = q := ⟨_, rfl⟩
  rw [hq] at HN0 hq92 ⊢
  have HQ92 := hidE hq92
  clear hq92 hq
  generalize hR : textB q (suf s (k + 1)) = R
  have HRR := hidE hR
  clear h hR
  go_enter Tryz.func74, Tryz.ntmps74
  go_wp2_with fail
  refine HN0.out.mono ?_
  rintro e w1 ⟨rfl, m, rfl⟩
  generalize hW : w.drewN m = W
  have HR0 : Hid (Rd W a s k b) := by rw [← hW]; exact H.out.drewN _
  have HF0 : Hid (Fr a w.heap.size w W) := by rw [← hW]; exact (Fr.refl _ _ _).drewN _
  clear hW HN0
  have c1 := HR0.out.c1
  have z1 := HR0.out.z1
  go_wp2_with fail
  clear c1 z1
  go_loopw [3] (fun v wr => ∃ (p : Nat) (acc : List UInt8), k + 1 ≤ p ∧ p ≤ s.size ∧ Rd wr a s p b ∧ Fr a w.heap.size w wr ∧ wr.ownsRow w.heap.size 5 1 v acc.length (byteCells acc) ∧ acc.length ≤ 4 * p ∧ R = putF acc (textB q (suf s p))) (fun _ wr => s.size - atOf wr a)
  case atStart =>
    refine ⟨k + 1, [], Nat.le_refl _, by omega, HR0.out.at (k + 1) _ (by go_num), HF0.out.put _ _, World.ownsRow_nil _ _ _ _, Nat.zero_le _, ?_⟩
    rw [← HRR.out]
    cases textB q (suf s (k + 1)) <;> rfl
  case round =>
    obtain ⟨p, acc, hkp, hp, hr, hf, ho, hl, hR⟩ := hrel
    have HR := hidE hr
    have HF := hidE hf
    have HO := hidE ho
    have HX := hidE hR
    have HUp : Hid (atOf wr a = p) := hr.upTo
    clear hr hf ho hR
    by_cases hlt : p < s.size
    · obtain ⟨c, hc⟩ : ∃ c, s[p] = c := ⟨_, rfl⟩
      have HNX : Hid (∀ W, Rd W a s p b → Calls Tryz.prog 87 #[.pointer (some ⟨a, 0, none⟩)] W fun e w' => e = .returned (.int .u8 (c.toNat : Int)) ∧ ∃ m, w' = W.drewN m) := fun W hW => by
        have := next_any a s p b W hW hlt hs
        rwa [hc] at this
      have HSP : Hid (suf s p = c :: suf s (p + 1)) := by show _ = _; rw [suf_cons hlt, hc]
      clear hc
      go_wp2_with fail
      refine (HNX.out _ HR.out).mono ?_
      rintro e w1 ⟨rfl, m1, rfl⟩
      generalize hW1 : wr.drewN m1 = W1
      have HR1 : Hid (Rd W1 a s p b) := by rw [← hW1]; exact HR.out.drewN _
      have HF1 : Hid (Fr a w.heap.size w W1) := by rw [← hW1]; exact HF.out.drewN _
      have HO1 : Hid (W1.ownsRow w.heap.size 5 1 u3 acc.length (byteCells acc)) := by rw [← hW1]; exact own_drewN HO.out _
      clear hW1 HR HF HO
      have hcl : c.toNat < 256 := c.toNat_lt
      have hql : q.toNat < 256 := q.toNat_lt
      by_cases hcq : c = q
      · have hcq' : ((c.toNat : Int) == q.toNat) = true := eq_bool (by rw [hcq])
        have HE : Hid (R = some (acc, suf s (p + 1))) := by
          show _ = _
          rw [HX.out, HSP.out, textB.eq_def]
          simp [hcq, putF]
        have c1 := HR1.out.c1
        have z1 := HR1.out.z1
        clear hcq HNX HSP HX
        have hcv : ∀ z, (convert 49 9 u3).run Tryz.prog (W1.setCell ⟨a, 1, none⟩ z) = .ok (.string (bsOf acc)) (W1.setCell ⟨a, 1, none⟩ z) := fun z => own_conv (own_set HO1.out ha 1 z)
        go_wp2_with fail
        go_ret
        exact ⟨p + 1, by omega, HR1.out.at (p + 1) _ (by go_num), HF1.out.put _ _, .inl ⟨acc, rfl, by omega, by omega, by rw [HRR.out]; exact HE.out⟩⟩
      · have hcq' : ((c.toNat : Int) == q.toNat) = false := ne_bool (fun e => hcq (by
          have : c.toNat = q.toNat := by omega
          exact UInt8.toNat_inj.1 this))
        go_wp2_with fail
        refine (HNX.out _ HR1.out).mono ?_
        rintro e w1 ⟨rfl, m2, rfl⟩
        generalize hW2 : W1.drewN m2 = W2
        have HR2 : Hid (Rd W2 a s p b) := by rw [← hW2]; exact HR1.out.drewN _
        have HF2 : Hid (Fr a w.heap.size w W2) := by rw [← hW2]; exact HF1.out.drewN _
        have HO2 : Hid (W2.ownsRow w.heap.size 5 1 u3 acc.length (byteCells acc)) := by rw [← hW2]; exact own_drewN HO1.out _
        clear hW2 HR1 HF1 HO1
        have hB2 := HF2.out.size
        by_cases h92 : c.toNat = 92
        · have h92' : ((c.toNat : Int) == 92) = true := eq_bool (by omega)
          have HC92 : Hid (c = 92) := by
            show _ = _
            have : c = UInt8.ofNat 92 := by rw [← h92]; simp
            exact this
          obtain ⟨p1, hp1⟩ : ∃ p1, p + 1 = p1 := ⟨_, rfl⟩
          have HP1 := hidE hp1
          have hp1s : p1 ≤ s.size := by omega
          have hpp : p < p1 := by omega
          have HX2 : Hid (R = putF acc ((escP (suf s p1)).bind fun x => putF x.1 (textB q x.2))) := by
            show _ = _
            rw [HX.out, HSP.out, HC92.out, text_esc q HQ92.out, hp1]
          have c1 := HR2.out.c1
          have z1 := HR2.out.z1
          have HR3 : Hid (∀ z : Int, z = (p : Int) + 1 → Rd (W2.setCell ⟨a, 1, none⟩ (.int .i64 z)) a s p1 b) := fun z hz => HR2.out.at p1 _ (by rw [hz, ← hp1]; go_num)
          have HO3 : Hid (∀ z, (W2.setCell ⟨a, 1, none⟩ z).ownsRow w.heap.size 5 1 u3 acc.length (byteCells acc)) := fun z => own_set HO2.out ha 1 z
          have HF3 : Hid (∀ z, Fr a w.heap.size w (W2.setCell ⟨a, 1, none⟩ z)) := fun z => HF2.out.put _ _
          have HESC : Hid (∀ z : Int, z = (p : Int) + 1 → Calls Tryz.prog 88 #[.pointer (some ⟨a, 0, none⟩), u3] (W2.setCell ⟨a, 1, none⟩ (.int .i64 z)) fun e w' => Escd a w.heap.size s p1 b acc (W2.setCell ⟨a, 1, none⟩ (.int .i64 z)) e w') := fun z hz => by
            by_cases hp1lt : p1 < s.size
            · exact esc_any a w.heap.size s p1 b acc u3 _ (HR3.out z hz) hp1lt hs (HO3.out _) (by simp [World.setCell]; omega) ha (by omega)
            · exact esc_end a w.heap.size s p1 b acc u3 _ (HR3.out z hz) (by omega) hs (by simp [World.setCell]; omega) ha
          clear hp1 h92 HNX HSP HX hcq
          go_wp2_with fail
          refine (HESC.out _ rfl).mono ?_
          rintro e w4 ⟨j, hj1, hj2, hr4, hf4, ⟨v', bs, rfl, ho4, hbl, hjs, hes⟩ | ⟨rfl, hes⟩⟩
          · have HR4 := hidE hr4
            have HF4 : Hid (Fr a w.heap.size w w4) := (HF3.out _).trans hf4
            have HO4 := hidE ho4
            have HE : Hid (R = putF (acc ++ bs) (textB q (suf s (j + 1)))) := by
              show _ = _
              rw [HX2.out, hes, Option.bind_some, putF_app]
            clear hr4 hf4 ho4 hes HX2 c1 z1
            have c1 := HR4.out.c1
            have z1 := HR4.out.z1
            go_wp2_with fail
            go_roundw
            case rel => exact ⟨j + 1, acc ++ bs, by omega, by omega, HR4.out.at (j + 1) _ (by go_num), HF4.out.put _ _, own_set HO4.out ha _ _, by simp; omega, HE.out⟩
            case measure => rw [Rd.upTo (HR4.out.at (j + 1) _ (by go_num)), HUp.out]; omega
          · refine ⟨rfl, j, hj2, hr4, (HF3.out _).trans hf4, .inr ⟨rfl, ?_⟩⟩
            rw [HRR.out, HX2.out, hes]; rfl
        · have h92' : ((c.toNat : Int) == 92) = false := ne_bool (by omega)
          have HE : Hid (R = putF (acc ++ [c]) (textB q (suf s (p + 1)))) := by
            show _ = _
            have h1 : ¬ c = 92 := fun e => h92 (by rw [e]; rfl)
            rw [HX.out, HSP.out, textB.eq_def]
            simp only [hcq, h1, if_false]
            exact putF_snoc _ _ _
          go_wp2_with fail
          refine (HNX.out _ HR2.out).mono ?_
          rintro e w1 ⟨rfl, m3, rfl⟩
          generalize hW3 : W2.drewN m3 = W3
          have HR3 : Hid (Rd W3 a s p b) := by rw [← hW3]; exact HR2.out.drewN _
          have HF3 : Hid (Fr a w.heap.size w W3) := by rw [← hW3]; exact HF2.out.drewN _
          have HO3 : Hid (W3.ownsRow w.heap.size 5 1 u3 acc.length (byteCells acc)) := by rw [← hW3]; exact own_drewN HO2.out _
          clear hW3 HR2 HF2 HO2 hB2
          have hB3 := HF3.out.size
          go_wp2_with (at_builtin; refine append_row (W3.alloc (.cells #[.int .u8 (c.toNat : Int)] 5)) rfl _ _ rfl w.heap.size acc.length u3 (byteCells acc) rfl (own_alloc HO3.out _) ⟨W3.heap.size, 0, none⟩ 1 1 [c] rfl rfl (one_cellA W3 c) (by omega) (by simp; omega) ?_; intro v' w' ht; obtain ⟨hr4, hf4, ho4⟩ := told_fr HR3.out HF3.out HO3.out ha hB3 ht; have c1 := hr4.c1; have z1 := hr4.z1; have HR4 := hidE hr4; have HF4 := hidE hf4; have HO4 := hidE ho4; clear hr4 hf4 ho4 ht)
          go_roundw
          case rel => exact ⟨p + 1, acc ++ [c], by omega, by omega, HR4.out.at (p + 1) _ (by go_num), HF4.out.put _ _, own_set HO4.out ha _ _, by simp; omega, HE.out⟩
          case measure => rw [Rd.upTo (HR4.out.at (p + 1) _ (by go_num)), HUp.out]; omega
    · have HN := hidE (next_end a s p b wr HR.out hlt hs)
      go_wp2_with fail
      refine HN.out.mono ?_
      rintro e w1 ⟨rfl, m, rfl⟩
      refine ⟨rfl, p, hp, HR.out.drewN _, HF.out.drewN _, .inr ⟨rfl, ?_⟩⟩
      rw [HRR.out, HX.out, suf_end (by omega), textB.eq_def]; rfl
end Go.Proofs.YtbjcdpenfijfoaaGreatDoor
