/- The number two, told. Text, at values without texts, nodes and relationships. works: a map is made, told, and held against another one. -/
import Derived.Test.YtbpmhgcjefpigaaGreatDoorTell3
namespace Go.Proofs.YtbpmhgcjefpigaaGreatDoor
open Go.RowKit Go.Shelf Go.Lib
set_option linter.unusedVariables false

set_option maxRecDepth 100000 in
theorem small_two (w : World) : Calls Tryz.prog 118 #[.int .i64 2] w fun e w' => e = .returned (.string ⟨#[50]⟩) ∧ w' = w := by
  go_enter Tryz.func118, Tryz.ntmps118
  go_wp2_with fail
  go_ret
  exact ⟨rfl, rfl⟩
set_option maxRecDepth 100000 in
theorem appendUint_two (base n : Nat) (v : Value) (xs : List Value) (w : World) (hown : w.ownsRow base 5 1 v n xs) (hB : base ≤ w.heap.size) (hn : n ≤ 1000000000) :
    Calls Tryz.prog 140 #[v, .int .u64 2, .int .i64 10] w fun e w' => ∃ v', e = .returned v' ∧ Told base n xs v w [50] v' w' := by
  go_enter Tryz.func140, Tryz.ntmps140
  go_wp2_with fail
  refine (small_two w).mono ?_
  rintro e _ ⟨rfl, rfl⟩
  go_wp2_with (at_builtin; refine append_text _ rfl _ _ rfl base n v xs rfl hown ⟨#[50]⟩ rfl (by decide) (by show n + 1 ≤ _; omega) hB ?_; intro v' w' ht)
  have HT := hidE ht
  go_ret
  exact ⟨_, rfl, HT.out⟩
set_option maxRecDepth 100000 in
theorem appendInt_two_in (base n : Nat) (v : Value) (xs : List Value) (w : World) (hown : w.ownsRow base 5 1 v n xs) (hB : base ≤ w.heap.size) (hn : n ≤ 1000000000) :
    Calls Tryz.prog 117 #[v, .int .i64 2, .int .i64 10] w fun e w' => ∃ v', e = .returned v' ∧ Told base n xs v w [50] v' w' := by
  have HC := hidE (appendUint_two base n v xs w hown hB hn)
  clear hown
  go_enter Tryz.func117, Tryz.ntmps117
  go_wp2_with fail
  refine HC.out.mono ?_
  rintro e w' ⟨v', rfl, ht⟩
  have HT := hidE ht
  clear ht HC
  go_wp2_with fail
  go_ret
  exact ⟨_, rfl, HT.out⟩
theorem itoa_two : itoa 2 = [50] := by simp [itoa, decDigits]
theorem intOk_two : IntOk 2 := by
  intro base n v xs w hown hB hn _
  rw [itoa_two]
  have HC := hidE (appendInt_two_in base n v xs w hown hB hn)
  clear hown
  go_enter Tryz.func99, Tryz.ntmps99
  go_wp2_with fail
  refine HC.out.mono ?_
  rintro e w' ⟨v', rfl, ht⟩
  have HT := hidE ht
  clear ht HC
  go_wp2_with fail
  go_ret
  exact ⟨_, rfl, HT.out⟩
end Go.Proofs.YtbpmhgcjefpigaaGreatDoor

namespace Go.Proofs.YtbpmhgcjefpigaaGreatDoor
open Go.RowKit Go.Shelf Go.Lib
set_option linter.unusedVariables false

theorem own_slice {w : World} {base n : Nat} {v : Value} {xs : List Value} (h : w.ownsRow base 5 1 v n xs) (hn : 0 < n) : ∃ g cap, v = .slice (some ⟨g, 0, none⟩) n cap := by
  obtain ⟨_, ⟨h1, h2⟩ | ⟨g, cap, cur, h1, _⟩⟩ := h
  · omega
  · exact ⟨g, cap, h1⟩
theorem own_bytes {w : World} {base g cap : Nat} {bs : List UInt8} (h : w.ownsRow base 5 1 (.slice (some ⟨g, 0, none⟩) bs.length cap) bs.length (byteCells bs)) :
    (convert 67 9 (.slice (some ⟨g, 0, none⟩) bs.length cap)).run Tryz.prog w = .ok (.string ⟨bs.toArray⟩) w := by
  refine run_convert_bytes_back (P := Tryz.prog) w 67 9 5 ⟨g, 0, none⟩ cap bs Tryz.underlying67 Tryz.underlying5 Tryz.underlying9 fun j hj => ?_
  refine h.cells (g := g) rfl j _ ?_
  simp [byteCells, hj]

set_option maxHeartbeats 1000000 in
theorem Text_any (T : Tree) (hE : Easy T) (hc : checkN T = 0) (hpos : 0 < (tellB T).length) (hlen : (tellB T).length ≤ 1000000000) (B : Nat) (v : Value) (w : World) (hB : B ≤ w.heap.size) (hv : Lies B w v T) (hT : Tabs w) (hP : TabBelow Tryz.prog w.heap.size w "internal/strconv.uint64pow10" .u64 pow10Tab) (hm : Modest T) :
    Calls Tryz.prog 39 #[v] w fun e w' => e = .returned (.tuple #[.string ⟨(tellB T).toArray⟩, .int .i64 0]) ∧ Below w.heap.size w w' := by
  have hv0 := hv
  obtain ⟨k, b, nn, s, ks, ts⟩ := T
  simp only [Lies] at hv
  obtain ⟨ka, kc, la, lc, rfl, -⟩ := hv
  obtain ⟨W1, hW1⟩ : ∃ W1, w.alloc (.cells #[.int .i64 k, .bool b, .int .i64 nn, .string s, .slice ka ks.length kc, .slice la ts.length lc] 26) = W1 := ⟨_, rfl⟩
  have hb1 : Below w.heap.size w W1 := hW1 ▸ (Below.refl _ _).alloc (Nat.le_refl _) _
  have hq1 : W1.heap[w.heap.size]? = some (.cells #[.int .i64 k, .bool b, .int .i64 nn, .string s, .slice ka ks.length kc, .slice la ts.length lc] 26 (0, 0)) := hW1 ▸ World.alloc_heap_new _ _
  have hl1 := (hv0.below (hb1.mono hB)).mono (Nat.le_trans hB hb1.size)
  have HC := hidE (check_any _ _ _ hl1 (hT.below hb1) hm.1 hm.2)
  rw [hc] at HC
  have HX := hidE (And.intro hb1 (And.intro hq1 hl1))
  have HW1 := hidE hW1
  have HP := hidE (And.intro hP hT)
  have HT := hidE (tell_any _ hE)
  have HL := hidE (And.intro hpos hlen)
  clear hW1 hb1 hq1 hl1 hP hT hE hm hv0 hc hpos hlen
  go_enter Tryz.func39, Tryz.ntmps39
  go_wp2_with fail
  rw [HW1.out]
  refine HC.out.mono ?_
  rintro e w2 ⟨rfl, hb2⟩
  have hb12 : Below w.heap.size w w2 := below_on HX.out.1 hb2
  have hq2 : w2.heap[w.heap.size]? = some (.cells #[.int .i64 k, .bool b, .int .i64 nn, .string s, .slice ka ks.length kc, .slice la ts.length lc] 26 (0, 0)) :=
    (hb2.block w.heap.size (Array.getElem?_eq_some_iff.1 HX.out.2.1).1).trans HX.out.2.1
  have y0 := box_cell hq2 (i := 0) rfl
  have y1 := box_cell hq2 (i := 1) rfl
  have y2 := box_cell hq2 (i := 2) rfl
  have y3 := box_cell hq2 (i := 3) rfl
  have y4 := box_cell hq2 (i := 4) rfl
  have y5 := box_cell hq2 (i := 5) rfl
  have hl2 := (HX.out.2.2.below hb2).mono hb2.size
  have htb : TB w2.heap.size w2 := ⟨fun w' h => HP.out.2.below (hb12.trans (h.mono hb12.size)), fun w' h => HP.out.1 w' (hb12.trans (h.mono hb12.size))⟩
  have HTL := hidE (HT.out w2.heap.size 0 (.slice none 0 0) [] _ w2 (World.ownsRow_nil _ _ _ _) (Nat.le_refl _) hl2 htb (by have := HL.out.2; omega))
  have HB12 := hidE hb12
  clear hb2 hb12 hq2 hl2 htb HC HX HP
  go_wp2_with fail
  refine HTL.out.mono ?_
  rintro e w3 ⟨v', rfl, ht⟩
  have hown := ht.own
  rw [Nat.zero_add, List.nil_append] at hown
  obtain ⟨g, cap, rfl⟩ := own_slice hown HL.out.1
  have hcv := own_bytes hown
  have HF : Hid (Below w.heap.size w w3) := HB12.out.trans ((ht.below (World.ownsRow_nil _ _ _ _) (Nat.le_refl _)).mono HB12.out.size)
  clear ht hown HTL y0 y1 y2 y3 y4 y5
  obtain ⟨bs, hbs⟩ : ∃ bs, tellB (.mk k b nn s ks ts) = bs := ⟨_, rfl⟩
  have HBS := hidE hbs
  rw [hbs] at hcv ⊢
  clear hbs
  go_wp2_with fail
  go_ret2
  exact ⟨by rw [HBS.out]; rfl, HF.out⟩
end Go.Proofs.YtbpmhgcjefpigaaGreatDoor

namespace Go.Proofs.YtbpmhgcjefpigaaGreatDoor
open Go.RowKit Go.Shelf Go.Lib
set_option linter.unusedVariables false

def leafT (k : Int) (b : Bool) (n : Int) : Tree := .mk k b n ⟨#[]⟩ [] []
def listT : Tree := .mk 4 false 0 ⟨#[]⟩ [] [leafT 0 false 0, leafT 1 true 0]
def mapT : Tree := .mk 5 false 0 ⟨#[]⟩ [⟨#[97, 32, 98]⟩, ⟨#[98]⟩] [listT, leafT 2 false 2]
theorem leaf_lies (k : Int) (b : Bool) (n : Int) (B : Nat) (w : World) : Lies B w (leaf k b n ⟨#[]⟩) (leafT k b n) := by
  unfold leafT leaf
  simp only [Lies]
  exact ⟨none, 0, none, 0, rfl, ⟨by show 0 ≤ _; omega, by simp, by unfold maxLen; omega, by simp, by unfold maxLen; omega⟩, .inl rfl, .inl trivial⟩
theorem keyOk_ab : KeyOk ⟨#[97, 32, 98]⟩ := ⟨by decide, by decide, by decide⟩
theorem keyOk_b : KeyOk ⟨#[98]⟩ := ⟨by decide, by decide, by decide⟩
theorem easy_leaf (k : Int) (b : Bool) (n : Int) (h2 : k = 2 → IntOk n) (h3 : k ≠ 3) (h5 : k ≠ 5) (h6 : k ≠ 6) (h7 : k ≠ 7) : Easy (leafT k b n) :=
  .mk h2 h3 h6 h7 (fun h => absurd h h5) (by simp)
theorem easy_map : Easy mapT := by
  refine .mk (fun h => absurd h (by decide)) (by decide) (by decide) (by decide) (fun _ => ⟨rfl, ?_⟩) ?_
  · intro x hx
    simp only [List.mem_cons, List.not_mem_nil, or_false] at hx
    rcases hx with rfl | rfl
    · exact keyOk_ab
    · exact keyOk_b
  · intro t ht
    simp only [List.mem_cons, List.not_mem_nil, or_false] at ht
    rcases ht with rfl | rfl
    · refine .mk (fun h => absurd h (by decide)) (by decide) (by decide) (by decide) (fun h => absurd h (by decide)) ?_
      intro t ht
      simp only [List.mem_cons, List.not_mem_nil, or_false] at ht
      rcases ht with rfl | rfl
      · exact easy_leaf _ _ _ (fun h => absurd h (by decide)) (by decide) (by decide) (by decide) (by decide)
      · exact easy_leaf _ _ _ (fun h => absurd h (by decide)) (by decide) (by decide) (by decide) (by decide)
    · exact easy_leaf _ _ _ (fun _ => intOk_two) (by decide) (by decide) (by decide) (by decide)
theorem tell_map : tellB mapT = [123, 96, 97, 32, 98, 96, 58, 32, 91, 110, 117, 108, 108, 44, 32, 116, 114, 117, 101, 93, 44, 32, 98, 58, 32, 50, 125] := by
  simp only [mapT, listT, leafT, tellB, tellAllB, itoa_two]
  decide
theorem check_map : checkN mapT = 0 := by kernel_rfl
theorem modest_map : Modest mapT := by
  constructor <;> decide
end Go.Proofs.YtbpmhgcjefpigaaGreatDoor

