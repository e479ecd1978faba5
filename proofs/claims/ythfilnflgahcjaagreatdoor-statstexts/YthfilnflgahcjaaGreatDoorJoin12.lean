/- The document's UTF-8 is the program's. A row behind a row of the call's own, however many. The document's own: names, told. -/
import Derived.Test.YthfilnflgahcjaaGreatDoorJoin11
import Derived.Test.YthfilnflgahcjaaGreatDoorJoin1
namespace Go.Proofs.YthfilnflgahcjaaGreatDoor
open Go.RowKit Go.Shelf
set_option linter.unusedVariables false

theorem byteN_getD (s : ByteArray) (i j : Nat) : ((s.data.toList.drop i).getD j 0).toNat = byteN s (i + j) := by
  unfold byteN; simp [List.getD]
theorem byteN_lt (s : ByteArray) (i : Nat) : byteN s i < 256 := (s.data.toList.getD i 0).toNat_lt
theorem moreB_iff {s : ByteArray} {i : Nat} : moreB s i = true ↔ i < s.size ∧ 128 ≤ byteN s i ∧ byteN s i ≤ 191 := by
  unfold moreB; simp

/-- A text is valid from a place on as its first rune says. -/
theorem valid_step (s : ByteArray) (i : Nat) (hi : i < s.size) :
    Lib.validD (s.data.toList.drop i) = if runeN s i = 0 then false else Lib.validD (s.data.toList.drop (i + runeN s i)) := by
  have hlen : (s.data.toList.drop i).length = s.size - i := by simp
  have hne : s.data.toList.drop i ≠ [] := by intro e; rw [e] at hlen; simp at hlen; omega
  have e0 := byteN_getD s i 0
  have e1 := byteN_getD s i 1
  have e2 := byteN_getD s i 2
  have e3 := byteN_getD s i 3
  rw [Nat.add_zero] at e0
  by_cases c1 : byteN s i < 128
  · have hr : runeN s i = 1 := by unfold runeN; rw [if_pos c1]
    rw [hr, if_neg (by omega)]
    have hd : s.data.toList.drop i = (s.data.toList.drop i).getD 0 0 :: s.data.toList.drop (i + 1) := by
      have h' : i < s.data.toList.length := by simpa using hi
      rw [List.drop_eq_getElem_cons h']; simp
    rw [hd, Lib.validD_cons _ _ (by rw [e0]; exact c1)]
  · rw [Lib.validD_lead _ hne (by rw [e0]; omega), e0, e1, e2, e3, hlen]
    have h1 := byteN_lt s i
    have hm1 := @moreB_iff s (i + 1)
    have hm2 := @moreB_iff s (i + 2)
    have hm3 := @moreB_iff s (i + 3)
    have key : Lib.checkN (s.size - i) (byteN s (i + 1)) (byteN s (i + 2)) (byteN s (i + 3)) (Lib.firstT (byteN s i) % 8) (Lib.accLo (Lib.firstT (byteN s i) / 16)) (Lib.accHi (Lib.firstT (byteN s i) / 16)) = if runeN s i = 0 then none else some (runeN s i) := by
      have HR0 : runeN s i = if byteN s i < 128 then 1
        else if (194 ≤ byteN s i ∧ byteN s i ≤ 223) ∧ moreB s (i + 1) = true then 2
        else if (224 ≤ byteN s i ∧ byteN s i ≤ 239) ∧ moreB s (i + 1) = true ∧ moreB s (i + 2) = true then
          (if (byteN s i = 224 ∧ byteN s (i + 1) < 160) ∨ (byteN s i = 237 ∧ 159 < byteN s (i + 1)) then 0 else 3)
        else if (240 ≤ byteN s i ∧ byteN s i ≤ 244) ∧ moreB s (i + 1) = true ∧ moreB s (i + 2) = true ∧ moreB s (i + 3) = true then
          (if (byteN s i = 240 ∧ byteN s (i + 1) < 144) ∨ (byteN s i = 244 ∧ 143 < byteN s (i + 1)) then 0 else 4)
        else 0 := rfl
      rw [if_neg c1] at HR0
      simp only [hm1, hm2, hm3] at HR0
      generalize runeN s i = rn at *
      generalize byteN s (i + 1) = b1 at *
      generalize byteN s (i + 2) = b2 at *
      generalize byteN s (i + 3) = b3 at *
      generalize byteN s i = c at *
      clear hm1 hm2 hm3 e0 e1 e2 e3 hne hlen
      by_cases c2 : c < 194
      · have hf : Lib.firstT c = 241 := by unfold Lib.firstT; rw [if_neg c1, if_pos c2]
        have hr : rn = 0 := HR0.trans (by rw [if_neg (by omega), if_neg (by omega), if_neg (by omega)])
        rw [hf, hr]; rfl
      by_cases c3 : c ≤ 223
      · have hf : Lib.firstT c = 2 := by unfold Lib.firstT; rw [if_neg c1, if_neg c2, if_pos (by omega)]
        rw [hf]
        show (if s.size - i < 2 ∨ b1 < 128 ∨ 191 < b1 then none else some 2) = _
        by_cases hm : i + 1 < s.size ∧ 128 ≤ b1 ∧ b1 ≤ 191
        · have hr : rn = 2 := HR0.trans (by rw [if_pos ⟨⟨by omega, c3⟩, hm⟩])
          rw [if_neg (by omega), hr]; rfl
        · have hr : rn = 0 := HR0.trans (by rw [if_neg (fun h => hm h.2), if_neg (by omega), if_neg (by omega)])
          rw [if_pos (by omega), hr]; rfl
      by_cases c4 : c ≤ 239
      · have fin : ∀ lo hi, (lo = (if c = 224 then 160 else 128)) → (hi = (if c = 237 then 159 else 191)) → (if s.size - i < 3 ∨ b1 < lo ∨ hi < b1 ∨ b2 < 128 ∨ 191 < b2 then none else some 3) = (if rn = 0 then none else some rn) := by
          intro lo hi hlo hhi
          by_cases hm : (i + 1 < s.size ∧ 128 ≤ b1 ∧ b1 ≤ 191) ∧ (i + 2 < s.size ∧ 128 ≤ b2 ∧ b2 ≤ 191)
          · have h1 := HR0.trans (by rw [if_neg (by omega), if_pos ⟨⟨by omega, c4⟩, hm⟩])
            by_cases hx : (c = 224 ∧ b1 < 160) ∨ (c = 237 ∧ 159 < b1)
            · rw [if_pos hx] at h1
              rw [if_pos (by subst hlo hhi; rcases hx with ⟨e, h⟩ | ⟨e, h⟩; (rw [if_pos e]; omega); (rw [if_pos e]; omega)), h1]; rfl
            · rw [if_neg hx] at h1
              rw [if_neg (by subst hlo hhi; intro hh; split at hh <;> split at hh <;> omega), h1]; rfl
          · have h1 : rn = 0 := HR0.trans (by rw [if_neg (by omega), if_neg (fun h => hm h.2), if_neg (by omega)])
            rw [if_pos (by subst hlo hhi; split <;> split <;> omega), h1]; rfl
        by_cases d0 : c = 224
        · have hf : Lib.firstT c = 19 := by subst d0; rfl
          rw [hf]; exact fin 160 191 (by rw [if_pos d0]) (by rw [if_neg (by omega)])
        by_cases d1 : c = 237
        · have hf : Lib.firstT c = 35 := by subst d1; rfl
          rw [hf]; exact fin 128 159 (by rw [if_neg (by omega)]) (by rw [if_pos d1])
        · have hf : Lib.firstT c = 3 := by unfold Lib.firstT; split <;> (try omega) <;> (repeat (first | rfl | omega | split))
          rw [hf]; exact fin 128 191 (by rw [if_neg d0]) (by rw [if_neg d1])
      by_cases c5 : c ≤ 244
      · have fin : ∀ lo hi, (lo = (if c = 240 then 144 else 128)) → (hi = (if c = 244 then 143 else 191)) → (if s.size - i < 4 ∨ b1 < lo ∨ hi < b1 ∨ b2 < 128 ∨ 191 < b2 ∨ b3 < 128 ∨ 191 < b3 then none else some 4) = (if rn = 0 then none else some rn) := by
          intro lo hi hlo hhi
          by_cases hm : (i + 1 < s.size ∧ 128 ≤ b1 ∧ b1 ≤ 191) ∧ (i + 2 < s.size ∧ 128 ≤ b2 ∧ b2 ≤ 191) ∧ (i + 3 < s.size ∧ 128 ≤ b3 ∧ b3 ≤ 191)
          · have h1 := HR0.trans (by rw [if_neg (by omega), if_neg (by omega), if_pos ⟨⟨by omega, c5⟩, hm⟩])
            by_cases hx : (c = 240 ∧ b1 < 144) ∨ (c = 244 ∧ 143 < b1)
            · rw [if_pos hx] at h1
              rw [if_pos (by subst hlo hhi; rcases hx with ⟨e, h⟩ | ⟨e, h⟩; (rw [if_pos e]; omega); (rw [if_pos e]; omega)), h1]; rfl
            · rw [if_neg hx] at h1
              rw [if_neg (by subst hlo hhi; intro hh; split at hh <;> split at hh <;> omega), h1]; rfl
          · have h1 : rn = 0 := HR0.trans (by rw [if_neg (by omega), if_neg (by omega), if_neg (fun h => hm h.2)])
            rw [if_pos (by subst hlo hhi; split <;> split <;> omega), h1]; rfl
        by_cases d0 : c = 240
        · have hf : Lib.firstT c = 52 := by subst d0; rfl
          rw [hf]; exact fin 144 191 (by rw [if_pos d0]) (by rw [if_neg (by omega)])
        by_cases d1 : c = 244
        · have hf : Lib.firstT c = 68 := by subst d1; rfl
          rw [hf]; exact fin 128 143 (by rw [if_neg (by omega)]) (by rw [if_pos d1])
        · have hf : Lib.firstT c = 4 := by unfold Lib.firstT; split <;> (try omega) <;> (repeat (first | rfl | omega | split))
          rw [hf]; exact fin 128 191 (by rw [if_neg d0]) (by rw [if_neg d1])
      · have hf : Lib.firstT c = 241 := by unfold Lib.firstT; split <;> (try omega) <;> (repeat (first | rfl | omega | split))
        have hr : rn = 0 := HR0.trans (by rw [if_neg (by omega), if_neg (by omega), if_neg (by omega)])
        rw [hf, hr]; rfl
    rw [key]
    by_cases hz : runeN s i = 0
    · rw [if_pos hz, if_pos hz]
    · rw [if_neg hz, if_neg hz]
      show Lib.validD (List.drop (runeN s i) (List.drop i s.data.toList)) = _
      rw [List.drop_drop]

theorem runeN_le {s : ByteArray} {i : Nat} (hi : i < s.size) : i + runeN s i ≤ s.size := by
  unfold runeN
  have hm1 := @moreB_iff s (i + 1)
  have hm2 := @moreB_iff s (i + 2)
  have hm3 := @moreB_iff s (i + 3)
  split
  · omega
  · split
    · rename_i h; have := hm1.1 h.2; omega
    · split
      · rename_i h; have := hm2.1 h.2.2; split <;> omega
      · split
        · rename_i h; have := hm3.1 h.2.2.2; split <;> omega
        · omega

set_option maxHeartbeats 1000000 in
theorem utf_any (s : ByteArray) (w : World) (hs : s.size ≤ 140737488355328) :
    Calls Tryz.prog 119 #[.string s] w fun e w' => e = .returned (.bool (Lib.validD s.data.toList)) ∧ w' = w := by
  go_enter Tryz.func119, Tryz.ntmps119
  go_wp2_with fail
  go_loop [3] (fun i => ∃ j : Nat, j ≤ s.size ∧ i = .int .i64 j ∧ Lib.validD (s.data.toList.drop j) = Lib.validD s.data.toList) (fun i => s.size - (intOf i).toNat)
  case atStart => exact ⟨0, Nat.zero_le _, rfl, rfl⟩
  case round =>
    obtain ⟨j, hj, rfl, hv⟩ := hrel
    have HV := hidE hv
    clear hv
    by_cases hlt : j < s.size
    · have HST := hidE (valid_step s j hlt)
      have HC := hidE (rune_any s j w hs hlt)
      have hle := runeN_le hlt
      generalize runeN s j = rn at *
      go_wp2_with fail
      refine HC.out.mono ?_
      rintro e w1 ⟨rfl, rfl⟩
      by_cases h0 : rn = 0
      · have h0' : ((rn : Int) == 0) = true := beq_iff_eq.2 (by omega)
        have HF : Hid (Lib.validD s.data.toList = false) := by
          have := HST.out
          rw [if_pos h0, HV.out] at this
          exact this
        clear h0
        go_wp2_with fail
        go_ret
        exact ⟨by rw [HF.out]; rfl, rfl⟩
      · have h0' : ((rn : Int) == 0) = false := beq_eq_false_iff_ne.2 (by omega)
        have HF : Hid (Lib.validD (s.data.toList.drop (j + rn)) = Lib.validD s.data.toList) := by
          have := HST.out
          rw [if_neg h0, HV.out] at this
          exact this.symm
        go_wp2_with fail
        go_round
        case rel => exact ⟨j + rn, hle, by go_num, HF.out⟩
        case measure => simp [intOf]; omega
    · have HF : Hid (Lib.validD s.data.toList = true) := by
        have := HV.out
        rw [List.drop_of_length_le (by simp; omega)] at this
        exact this.symm
      go_wp2_with fail
      go_ret
      exact ⟨by rw [HF.out]; rfl, rfl⟩
end Go.Proofs.YthfilnflgahcjaaGreatDoor

namespace Go.Proofs.YthfilnflgahcjaaGreatDoor
open Go.RowKit Go.Shelf
set_option linter.unusedVariables false
set_option linter.unusedSimpArgs false
theorem run_append_nothing {w : World} {base t ty e size c : Nat} {i : TypeInfo} (ht : Tryz.prog.underlying t = some (.slice e)) (hi : Tryz.prog.info? e = some i) (v : Value) (n : Nat) (xs : List Value) (hown : w.ownsRow base e size v n xs) :
    (Builtin.append_ #[t, t] ty #[v, .slice none 0 c]).run Tryz.prog w = .ok v w := by
  rcases hown.2 with ⟨rfl, rfl⟩ | ⟨g, cap, cur, rfl, _, _, hnc, _⟩
  · simp [Builtin.append_, run_underlying ht, sizeOf, typeInfo, hi, Builtin.lenOf, Builtin.firstCells]
  · simp [Builtin.append_, run_underlying ht, sizeOf, typeInfo, hi, Builtin.lenOf, Builtin.firstCells, hnc, storeCells]
theorem append_many {α : Type} {t e ty k bytes base B : Nat} {z : Value} (hE : ElemIs t e k bytes z) {enc : α → List Value} (hk : ∀ x, (enc x).length = k) (h1 : ∀ x, ∀ u ∈ enc x, u.oneCell' = true) {v vs : Value} {xs ys : List α} {w : World} (hown : ORow e k enc base w v xs) (hs : SRow k enc B w vs ys) (hn : xs.length + ys.length ≤ 1000000) (hb : base ≤ w.heap.size) :
    ∃ v' w', (Builtin.append_ #[t, t] ty #[v, vs]).run Tryz.prog w = .ok v' w' ∧ ORow e k enc base w' v' (xs ++ ys) ∧ Below base w w' ∧ (∀ g, some g ≠ v.ownBlock → g < w.heap.size → w'.heap[g]? = w.heap[g]?) := by
  obtain ⟨ht, i0, hi, hz, hsize, hby, hzs, hk0, hbb⟩ := hE
  obtain ⟨a, c, rfl, l1, l2, hc⟩ := hs
  cases a with
  | none =>
    have hy : ys = [] := by
      rcases hc with hc | ⟨bl, off, e1, _⟩
      · exact hc
      · cases e1
    subst hy
    refine ⟨v, w, run_append_nothing ht hi v _ _ hown, by simpa using hown, Below.refl _ _, fun _ _ _ => rfl⟩
  | some ad =>
    have hlen : ((ys.map enc).flatten).length = ys.length * k := by
      rw [sflat_len (k := k) (ys.map enc) (fun c hc => by obtain ⟨y, _, rfl⟩ := List.mem_map.1 hc; exact hk y), List.length_map]
    obtain ⟨v', w', q1, q2, q3, _⟩ := run_append_own (P := Tryz.prog) (w := w) base t ty e i0 z k bytes ht hi hz hsize hby hzs hk0 v xs.length _ hown ad ys.length c ((ys.map enc).flatten) hlen (fun j u hu => by
      rcases hc with hc | ⟨bl, off, e1, hbl, hcell⟩
      · subst hc; simp at hu
      · obtain rfl := Option.some.inj e1
        have hadd : (⟨bl, off, none⟩ : Addr).add j = ⟨bl, off + j, none⟩ := by unfold Addr.add; split <;> simp_all
        rw [hadd]
        have hj : j < ys.length * k := by rw [← hlen]; exact (List.getElem?_eq_some_iff.1 hu).1
        obtain ⟨q, r, hqr, hr⟩ : ∃ q r, j = q * k + r ∧ r < k := ⟨j / k, j % k, by rw [Nat.mul_comm]; exact (Nat.div_add_mod j k).symm, Nat.mod_lt _ hk0⟩
        subst hqr
        have hq : q < ys.length := by
          rcases Nat.lt_or_ge q ys.length with h | h
          · exact h
          · have := Nat.mul_le_mul_right k h; omega
        have e2 := sflat_at (ys.map enc) q r (enc ys[q]) (fun c hc => by obtain ⟨y, _, rfl⟩ := List.mem_map.1 hc; exact hk y) (by rw [List.getElem?_map, List.getElem?_eq_getElem hq]; rfl) hr
        rw [e2] at hu
        have := hcell q ys[q] (List.getElem?_eq_getElem hq) r u hu
        rw [← Nat.add_assoc]; exact this) (fun u hu => by
      obtain ⟨cs, h2, h3⟩ := List.mem_flatten.1 hu
      obtain ⟨y, _, rfl⟩ := List.mem_map.1 h2
      exact h1 y u h3) (by unfold maxLen; omega) (Nat.le_trans (Nat.mul_le_mul hn hbb) (by decide)) hb
    refine ⟨v', w', q1, ?_, (Below.refl base w).grown q3 hb fun q h => (hown.lt q h).1, fun g hg hl => q3.block g hl hg⟩
    unfold ORow
    rw [List.length_append, List.map_append, List.flatten_append]
    exact q2
/-- A row that was just made. -/
theorem orow_new {α : Type} {e k base : Nat} {enc : α → List Value} (hk : ∀ x, (enc x).length = k) (w : World) (xs : List α) (cs : Array Value) (hcs : cs.toList = (xs.map enc).flatten) (hl : xs.length ≤ 1000000) (hb : base ≤ w.heap.size) :
    ORow e k enc base (w.alloc (.cells cs e)) (.slice (some ⟨w.heap.size, 0, none⟩) xs.length xs.length) xs := by
  unfold ORow
  rw [← hcs]
  refine World.ownsRow_lit w cs xs.length hb (by unfold maxLen; omega) ?_
  rw [← Array.length_toList, hcs, sflat_len (k := k) (xs.map enc) (fun c hc => by obtain ⟨y, _, rfl⟩ := List.mem_map.1 hc; exact hk y), List.length_map]
/-- The first ones of a row. -/
theorem SRow.take {α : Type} {k : Nat} {enc : α → List Value} {B : Nat} {w : World} {a : Option Addr} {l c : Nat} {xs ys : List α} (h : SRow k enc B w (.slice a l c) (xs ++ ys)) : SRow k enc B w (.slice a xs.length c) xs := by
  obtain ⟨a0, c0, e1, h2, h3, h4⟩ := h
  injection e1 with q1 q2 q3
  subst q1 q3
  rw [List.length_append] at h2
  refine ⟨a, c, rfl, by omega, h3, ?_⟩
  rcases h4 with h4 | ⟨bl, off, e2, hl, hc⟩
  · left; exact (List.append_eq_nil_iff.1 h4).1
  · right; exact ⟨bl, off, e2, hl, fun i x hx j u hu => hc i x (by rw [List.getElem?_append_left (List.getElem?_eq_some_iff.1 hx).1]; exact hx) j u hu⟩
end Go.Proofs.YthfilnflgahcjaaGreatDoor

namespace Go.Proofs.YthfilnflgahcjaaGreatDoor
open Go.RowKit Go.Shelf
set_option linter.unusedVariables false
set_option linter.unusedSimpArgs false
def byE (c : UInt8) : List Value := [.int .u8 (c.toNat : Int)]
theorem one_byte (x : UInt8) : ∀ u ∈ byE x, u.oneCell' = true := fun u hu => by simp only [byE, List.mem_cons, List.not_mem_nil, or_false] at hu; rw [hu]; rfl
theorem elem116 : ElemIs 116 5 1 1 (.int .u8 0) := elem_of (by kernel_rfl) (by kernel_rfl) rfl (by decide) (by decide)
theorem byE_flat : ∀ l : List UInt8, (l.map byE).flatten = Lib.byteCells l
  | [] => rfl
  | c :: l => by
    rw [List.map_cons, List.flatten_cons, byE_flat l]; rfl
theorem conv_bytes {w : World} {base : Nat} {v : Value} {l : List UInt8} (h : ORow 5 1 byE base w v l) (hl : l ≠ []) : (convert 116 9 v).run Tryz.prog w = .ok (.string ⟨l.toArray⟩) w := by
  unfold ORow at h
  rw [byE_flat] at h
  have h' := h
  obtain ⟨_, ⟨h1, h2⟩ | ⟨g, cap, cur, h1, _⟩⟩ := h
  · exact absurd (List.eq_nil_of_length_eq_zero h2) hl
  · subst h1
    refine run_convert_bytes_back (P := Tryz.prog) w 116 9 5 ⟨g, 0, none⟩ cap l Tryz.underlying116 Tryz.underlying5 Tryz.underlying9 fun j hj => ?_
    refine h'.cells (g := g) rfl j _ ?_
    simp [Lib.byteCells, hj]
theorem at_byte (s : ByteArray) (j : Nat) (h : j < s.size) : s.data.toList[j]? = some s[j] := by
  rw [List.getElem?_eq_getElem (by simpa using h)]; rfl
theorem dblB_snoc (l : List UInt8) (c : UInt8) : dblB (l ++ [c]) = dblB l ++ (if c = 96 then [96, 96] else [c]) := by simp [dblB]
set_option maxRecDepth 100000 in
set_option maxHeartbeats 4000000 in
theorem rnam_any (s : ByteArray) (hs : s.size ≤ 100000) (w : World) : Calls Tryz.prog 120 #[.string s] w fun e w' => e = .returned (.string (vnameB s)) ∧ Below w.heap.size w w' := by
  have HP := hidE (refPlain_any s (by unfold maxLen; omega) w)
  go_enter Tryz.func120, Tryz.ntmps120
  go_wp2_with fail
  refine HP.out.mono ?_
  rintro e w0 ⟨rfl, hw0⟩
  rw [hw0]
  clear HP hw0
  cases hb : vbareB s with
  | true =>
    have HN : Hid (vnameB s = s) := by show _ = _; unfold vnameB; rw [if_pos hb]
    clear hb
    go_wp2_with fail
    go_ret
    exact ⟨by rw [HN.out]; rfl, Below.refl _ _⟩
  | false =>
    have HN : Hid (vnameB s = ⟨(96 :: (dblB s.data.toList ++ [96])).toArray⟩) := by
      show _ = _
      unfold vnameB
      rw [if_neg (by simp [hb])]
      apply ByteArray.ext
      simp
    clear hb
    obtain ⟨W1, hW1⟩ : ∃ W1, w.alloc (.cells #[.int .u8 96] 5) = W1 := ⟨_, rfl⟩
    have HB1 : Hid (Below w.heap.size w W1) := by rw [← hW1]; exact below_new w _
    have HO1 : Hid (ORow 5 1 byE w.heap.size W1 (.slice (some ⟨w.heap.size, 0, none⟩) 1 1) [96]) := by rw [← hW1]; exact orow_new (e := 5) (k := 1) (enc := byE) (fun _ => rfl) w [96] _ rfl (by simp) (Nat.le_refl _)
    have HW1 := hidE hW1
    clear hW1
    go_upto_region 4 with fail
    rw [HW1.out]
    go_wp2_with fail
    go_loopw [4, 3] (fun i r wr => ∃ j : Nat, j ≤ s.size ∧ i = .int .i64 j ∧ ORow 5 1 byE w.heap.size wr r (96 :: dblB (s.data.toList.take j)) ∧ Below w.heap.size w wr) (fun i _ _ => s.size - (intOf i).toNat)
    case atStart => exact ⟨0, Nat.zero_le _, rfl, HO1.out, HB1.out⟩
    case round =>
      obtain ⟨j, hj, rfl, hor, hbr⟩ := hrel
      have HOR := hidE hor
      have HBR := hidE hbr
      clear HO1 HB1 HW1 hor hbr
      have hlen : (96 :: dblB (s.data.toList.take j)).length ≤ 2 * s.size + 1 := by
        have h1 := dblB_len (s.data.toList.take j)
        have h2 : (s.data.toList.take j).length ≤ s.size := by rw [List.length_take]; show min j s.size ≤ _; omega
        rw [List.length_cons]; omega
      by_cases hlt : j < s.size
      · have HAT := hidE (at_byte s j hlt)
        have hji : (j : Int) < s.size := by omega
        obtain ⟨x, hx⟩ : ∃ x, s[j] = x := ⟨_, rfl⟩
        have HX := hidE hx
        obtain ⟨W2, hW2⟩ : ∃ W2, wr.alloc (.cells #[.int .u8 (s[j].toNat : Int)] 5) = W2 := ⟨_, rfl⟩
        have hb2 : Below wr.heap.size wr W2 := by rw [← hW2]; exact below_new wr _
        obtain ⟨v3, w3, q1, q2, q3, _⟩ := append_one (ty := 116) (c := 1) (bl := wr.heap.size) (off := 0) (x := s[j]) elem116 (fun _ => rfl) one_byte (HOR.out.below hb2) (fun jj u hu => by
          rw [Nat.zero_add, ← hW2]
          exact cell_new _ _ _ _ _ (by simpa [byE] using hu)) (by omega) (Nat.le_trans HBR.out.size hb2.size)
        have HO3 := hidE q2
        have HB3 : Hid (Below w.heap.size w w3) := HBR.out.trans ((hb2.mono HBR.out.size).trans q3)
        have HW2 := hidE hW2
        clear hW2 hb2 q2 q3 hx HBR HOR
        go_upto_region 8 with (at_builtin; rw [HW2.out]; refine Lib.wpList_append_run _ rfl _ _ _ _ rfl _ _ rfl rfl _ _ q1 ?_)
        clear q1 HW2
        by_cases h96 : s[j] = 96
        · have g96 : ((s[j].toNat : Int) == 96) = true := by rw [h96]; rfl
          have HE : Hid (96 :: dblB (s.data.toList.take (j + 1)) = (96 :: dblB (s.data.toList.take j) ++ [s[j]]) ++ [96]) := by
            show _ = _
            rw [List.take_add_one, HAT.out]
            show 96 :: dblB (_ ++ [s[j]]) = _
            rw [dblB_snoc, if_pos h96, h96]; simp
          have hlen' : ((96 :: dblB (s.data.toList.take j)) ++ [s[j]]).length ≤ 2 * s.size + 2 := by rw [List.length_append]; show _ + 1 ≤ _; omega
          obtain ⟨W4, hW4⟩ : ∃ W4, w3.alloc (.cells #[.int .u8 96] 5) = W4 := ⟨_, rfl⟩
          have hb4 : Below w3.heap.size w3 W4 := by rw [← hW4]; exact below_new w3 _
          obtain ⟨v5, w5, q1, q2, q3, _⟩ := append_one (ty := 116) (c := 1) (bl := w3.heap.size) (off := 0) (x := (96 : UInt8)) elem116 (fun _ => rfl) one_byte (HO3.out.below hb4) (fun jj u hu => by
            rw [Nat.zero_add, ← hW4]
            exact cell_new _ _ _ _ _ (by simpa [byE] using hu)) (by omega) (Nat.le_trans HB3.out.size hb4.size)
          have HO5 := hidE q2
          have HB5 : Hid (Below w.heap.size w w5) := HB3.out.trans ((hb4.mono HB3.out.size).trans q3)
          have HW4 := hidE hW4
          clear hW4 hb4 q2 q3 h96 HO3 HB3
          go_wp2_with (at_builtin; rw [HW4.out]; refine Lib.wpList_append_run _ rfl _ _ _ _ rfl _ _ rfl rfl _ _ q1 ?_)
          go_roundw
          case rel => exact ⟨j + 1, by omega, by go_num, by rw [HE.out]; exact HO5.out, HB5.out⟩
          case measure => simp [intOf]; omega
        · have g96 : ((s[j].toNat : Int) == 96) = false := by
            simp only [beq_eq_false_iff_ne]
            intro h
            apply h96
            apply UInt8.toNat_inj.1
            have : s[j].toNat = 96 := by omega
            rw [this]; rfl
          have HE : Hid (96 :: dblB (s.data.toList.take (j + 1)) = 96 :: dblB (s.data.toList.take j) ++ [s[j]]) := by
            show _ = _
            rw [List.take_add_one, HAT.out]
            show 96 :: dblB (_ ++ [s[j]]) = _
            rw [dblB_snoc, if_neg h96]; rfl
          clear h96
          go_wp2_with fail
          go_roundw
          case rel => exact ⟨j + 1, by omega, by go_num, by rw [HE.out]; exact HO3.out, HB3.out⟩
          case measure => simp [intOf]; omega
      · have hji : ¬ (j : Int) < s.size := by omega
        have HQ : Hid (dblB (s.data.toList.take j) = dblB s.data.toList) := by
          show _ = _
          rw [List.take_of_length_le (by show s.size ≤ j; omega)]
        obtain ⟨W3, hW3⟩ : ∃ W3, wr.alloc (.cells #[.int .u8 96] 5) = W3 := ⟨_, rfl⟩
        have hb3 : Below wr.heap.size wr W3 := by rw [← hW3]; exact below_new wr _
        obtain ⟨v4, w4, q1, q2, q3, _⟩ := append_one (ty := 116) (c := 1) (bl := wr.heap.size) (off := 0) (x := (96 : UInt8)) elem116 (fun _ => rfl) one_byte (HOR.out.below hb3) (fun jj u hu => by
          rw [Nat.zero_add, ← hW3]
          exact cell_new _ _ _ _ _ (by simpa [byE] using hu)) (by omega) (Nat.le_trans HBR.out.size hb3.size)
        have hcv := conv_bytes q2 (by simp)
        have HB4 : Hid (Below w.heap.size w w4) := HBR.out.trans ((hb3.mono HBR.out.size).trans q3)
        obtain ⟨ca, cc, hcs⟩ := q2.slice
        subst hcs
        obtain ⟨L, hL⟩ : ∃ L, (96 :: dblB (s.data.toList.take j) ++ [96]).length = L := ⟨_, rfl⟩
        rw [hL] at q1 hcv
        have HW3 := hidE hW3
        clear hW3 hb3 q2 q3 HOR HBR hL
        go_wp2_with (at_builtin; rw [HW3.out]; refine Lib.wpList_append_run _ rfl _ _ _ _ rfl _ _ rfl rfl _ _ q1 ?_)
        go_ret
        refine ⟨?_, HB4.out⟩
        rw [HN.out, HQ.out]
        rfl
end Go.Proofs.YthfilnflgahcjaaGreatDoor

