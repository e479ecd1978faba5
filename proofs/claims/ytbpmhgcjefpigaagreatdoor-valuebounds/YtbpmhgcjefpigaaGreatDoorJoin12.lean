/- Rows that were made: nothing in each place. value.Storable. -/
import Derived.Test.YtbpmhgcjefpigaaGreatDoorJoin11
import Derived.Test.YtbpmhgcjefpigaaGreatDoorJoin7
import Derived.Test.YtbpmhgcjefpigaaGreatDoorJoin10
import Derived.Test.YtbpmhgcjefpigaaGreatDoorJoin8
namespace Go.Proofs.YtbpmhgcjefpigaaGreatDoor
open Go.RowKit Go.Shelf Go.Lib
set_option linter.unusedVariables false

theorem made_at (z : Array Value) (n i : Nat) (h : i < n) : (madeCells z n)[i]? = some (z[i % z.size]!) := by
  unfold madeCells
  rw [Array.getElem?_map, Array.getElem?_range, if_pos h]; rfl
theorem null_lies (B : Nat) (w : World) : LiesR 0 B w (.agg #[.int .i64 0, .bool false, .int .i64 0, .string ⟨#[]⟩, .slice none 0 0, .slice none 0 0]) nullT := by
  simp only [nullT, LiesR]
  exact ⟨none, 0, none, 0, rfl, ⟨by decide, by simp, by unfold maxLen; omega, by simp, by unfold maxLen; omega⟩, .inl rfl, .inl trivial⟩
theorem kids_made {W : World} {g B n : Nat} (h : W.heap[g]? = some (.cells (madeCells #[.int .i64 0, .bool false, .int .i64 0, .string ⟨#[]⟩, .slice none 0 0, .slice none 0 0] (n * 6)) 26 (0, 0))) : KidsLie B W g 0 (List.replicate n nullT) := by
  refine (kidsR_of (lo := 0) (B := B) (List.replicate n nullT) 0 fun i t hi => ?_).lie
  rw [List.getElem?_replicate] at hi
  by_cases hin : i < n
  · rw [if_pos hin] at hi
    obtain rfl := Option.some.inj hi
    have hc : ∀ q, q < 6 → W.cell? ⟨g, 0 + i * 6 + q, none⟩ = some ((#[Value.int .i64 0, .bool false, .int .i64 0, .string ⟨#[]⟩, .slice none 0 0, .slice none 0 0] : Array Value)[q]!) := fun q hq => by
      unfold World.cell?
      simp only [h]
      have := made_at #[.int .i64 0, .bool false, .int .i64 0, .string ⟨#[]⟩, .slice none 0 0, .slice none 0 0] (n * 6) (0 + i * 6 + q) (by omega)
      rw [show (0 + i * 6 + q) % (#[Value.int .i64 0, .bool false, .int .i64 0, .string ⟨#[]⟩, .slice none 0 0, .slice none 0 0] : Array Value).size = q from by show (0 + i * 6 + q) % 6 = q; omega] at this
      simpa using this
    exact ⟨_, _, _, _, _, _, ⟨hc 0 (by omega), hc 1 (by omega), hc 2 (by omega), hc 3 (by omega), hc 4 (by omega), hc 5 (by omega)⟩, null_lies B W⟩
  · rw [if_neg hin] at hi; cases hi
/-- The text of so many zero bytes. -/
def zeros (n : Nat) : ByteArray := ⟨(List.replicate n (0 : UInt8)).toArray⟩
theorem zero_text (W : World) (g n : Nat) (h : W.heap[g]? = some (.cells (madeCells #[.int .u8 0] n) 5 (0, 0))) : (convert 67 9 (.slice (some ⟨g, 0, none⟩) n n)).run Tryz.prog W = .ok (.string (zeros n)) W := by
  have := run_convert_bytes_back (P := Tryz.prog) W 67 9 5 ⟨g, 0, none⟩ n (List.replicate n (0 : UInt8)) Tryz.underlying67 Tryz.underlying5 Tryz.underlying9 (fun j hj => by
    simp only [List.length_replicate] at hj
    rw [add_plain]
    unfold World.cell?
    simp only [h]
    have := made_at #[.int .u8 0] n (0 + j) (by omega)
    rw [show (0 + j) % (#[Value.int .u8 0] : Array Value).size = 0 from by show (0 + j) % 1 = 0; omega] at this
    simpa using this)
  rw [List.length_replicate] at this
  exact this
theorem zeros_size (n : Nat) : (zeros n).size = n := by show (List.replicate n (0 : UInt8)).toArray.size = n; simp
theorem zeros_valid (n : Nat) : Lib.validD (zeros n).data.toList = true := valid_ascii _ fun b hb => by
  obtain ⟨_, rfl⟩ : _ ∧ b = 0 := by simpa [zeros] using hb
  decide
theorem kids_single {W : World} {bl B : Nat} {a0 a1 a2 a3 a4 a5 : Value} {S : Tree} (hc : W.heap[bl]? = some (.cells #[a0, a1, a2, a3, a4, a5] 26 (0, 0))) (h1 : Lies B W (.agg #[a0, a1, a2, a3, a4, a5]) S) : KidsLie B W bl 0 [S] := by
  have hcell : ∀ i v, (#[a0, a1, a2, a3, a4, a5] : Array Value)[i]? = some v → W.cell? ⟨bl, i, none⟩ = some v := by
    intro i v hi; unfold World.cell?; simp only [hc]; simpa using hi
  simp only [KidsLie]
  exact ⟨⟨_, _, _, _, _, _, ⟨hcell 0 _ rfl, hcell 1 _ rfl, hcell 2 _ rfl, hcell 3 _ rfl, hcell 4 _ rfl, hcell 5 _ rfl⟩, h1⟩, trivial⟩
theorem key_single {W : World} {g : Nat} {s : ByteArray} (h : W.heap[g]? = some (.cells #[.string s] 9 (0, 0))) (hs : s.size ≤ maxLen) : KeysLie W.heap.size W (some ⟨g, 0, none⟩) [s] := by
  refine .inr ⟨g, 0, rfl, (Array.getElem?_eq_some_iff.1 h).1, fun i hi => ?_⟩
  obtain rfl : i = 0 := by simp at hi; exact hi
  refine ⟨?_, hs⟩
  unfold World.cell?
  simp only [h]
  rfl
theorem lies_over {W : World} {g0 g1 : Nat} {v0 v1 v2 v3 v4 v5 : Value} (h0 : W.heap[g0]? = some (.cells #[.string ⟨#[107]⟩] 9 (0, 0))) (h1 : W.heap[g1]? = some (.cells #[v0, v1, v2, v3, v4, v5] 26 (0, 0))) (hd : Lies W.heap.size W (.agg #[v0, v1, v2, v3, v4, v5]) (deepT 63)) :
    Lies W.heap.size W (.agg #[.int .i64 5, .bool false, .int .i64 0, .string ⟨#[]⟩, .slice (some ⟨g0, 0, none⟩) 1 1, .slice (some ⟨g1, 0, none⟩) 1 1]) overT := by
  simp only [overT, Lies]
  exact ⟨_, 1, _, 1, rfl, ⟨by decide, by simp, by unfold maxLen; omega, by simp, by unfold maxLen; omega⟩, key_single h0 (by decide), .inr ⟨g1, 0, rfl, (Array.getElem?_eq_some_iff.1 h1).1, kids_single h1 hd⟩⟩
theorem lies_long {W : World} {g n : Nat} (h : W.heap[g]? = some (.cells (madeCells #[.int .i64 0, .bool false, .int .i64 0, .string ⟨#[]⟩, .slice none 0 0, .slice none 0 0] (n * 6)) 26 (0, 0))) (hn : n ≤ 1000000) :
    Lies W.heap.size W (.agg #[.int .i64 4, .bool false, .int .i64 0, .string ⟨#[]⟩, .slice none 0 0, .slice (some ⟨g, 0, none⟩) n n]) (longT n) := by
  simp only [longT, Lies, List.length_replicate]
  exact ⟨none, 0, _, n, rfl, ⟨by decide, by simp, by unfold maxLen; omega, by omega, by unfold maxLen; omega⟩, .inl rfl, .inr ⟨g, 0, rfl, (Array.getElem?_eq_some_iff.1 h).1, kids_made h⟩⟩
theorem lies_text {W : World} {g0 g1 : Nat} {s x : ByteArray} (h0 : W.heap[g0]? = some (.cells #[.string s] 9 (0, 0))) (h1 : W.heap[g1]? = some (.cells #[.int .i64 3, .bool false, .int .i64 0, .string x, .slice none 0 0, .slice none 0 0] 26 (0, 0))) (hs : s.size ≤ 2000000) (hx : x.size ≤ 2000000) :
    Lies W.heap.size W (.agg #[.int .i64 5, .bool false, .int .i64 0, .string ⟨#[]⟩, .slice (some ⟨g0, 0, none⟩) 1 1, .slice (some ⟨g1, 0, none⟩) 1 1]) (textT s x) := by
  have hin : Lies W.heap.size W (.agg #[.int .i64 3, .bool false, .int .i64 0, .string x, .slice none 0 0, .slice none 0 0]) (.mk 3 false 0 x [] []) := by
    simp only [Lies]
    exact ⟨none, 0, none, 0, rfl, ⟨by unfold maxLen; omega, by simp, by unfold maxLen; omega, by simp, by unfold maxLen; omega⟩, .inl rfl, .inl trivial⟩
  simp only [textT, Lies]
  exact ⟨_, 1, _, 1, rfl, ⟨by decide, by simp, by unfold maxLen; omega, by simp, by unfold maxLen; omega⟩, key_single h0 (by unfold maxLen; omega), .inr ⟨g1, 0, rfl, (Array.getElem?_eq_some_iff.1 h1).1, kids_single h1 hin⟩⟩
theorem zeros_more (n : Nat) : (zeros n ++ ⟨#[97]⟩).size = n + 1 ∧ Lib.validD (zeros n ++ ⟨#[97]⟩).data.toList = true := by
  refine ⟨by rw [ByteArray.size_append, zeros_size]; rfl, valid_ascii _ fun b hb => ?_⟩
  rw [ByteArray.data_append, Array.toList_append, List.mem_append] at hb
  rcases hb with hb | hb
  · obtain ⟨_, rfl⟩ : _ ∧ b = 0 := by simpa [zeros] using hb
    decide
  · obtain rfl : b = 97 := by simpa using hb
    decide
end Go.Proofs.YtbpmhgcjefpigaaGreatDoor

namespace Go.Proofs.YtbpmhgcjefpigaaGreatDoor
open Go.RowKit Go.Shelf
set_option linter.unusedVariables false

set_option maxRecDepth 100000 in
set_option maxHeartbeats 4000000 in
theorem Storable_any (T : Tree) (B : Nat) (v : Value) (w : World) (hB : B ≤ w.heap.size) (hv : Lies B w v T) (hT : Tabs w) (hm : Modest T) : Calls Tryz.prog 25 #[v] w fun e w' => e = .returned (.bool (decide (checkN T = 0) && storB T)) ∧ Below w.heap.size w w' := by
  obtain ⟨k, x, n, s, ks, ts⟩ := T
  have hv0 := hv
  simp only [Lies] at hv
  obtain ⟨ka, kc, la, lc, rfl, ⟨hs1, hs2, hs3, hs4, hs5⟩, hk, ht⟩ := hv
  unfold maxLen at hs5
  obtain ⟨W1, hW1⟩ : ∃ W1, w.alloc (.cells #[.int .i64 k, .bool x, .int .i64 n, .string s, .slice ka ks.length kc, .slice la ts.length lc] 26) = W1 := ⟨_, rfl⟩
  have hb1 : Below w.heap.size w W1 := hW1 ▸ (Below.refl _ _).alloc (Nat.le_refl _) _
  have hq1 : W1.heap[w.heap.size]? = some (.cells #[.int .i64 k, .bool x, .int .i64 n, .string s, .slice ka ks.length kc, .slice la ts.length lc] 26 (0, 0)) := hW1 ▸ World.alloc_heap_new _ _
  have hlt1 : w.heap.size < W1.heap.size := (Array.getElem?_eq_some_iff.1 hq1).1
  have HX : Hid (∀ W, Below W1.heap.size W1 W → Below w.heap.size w W ∧ W.cell? ⟨w.heap.size, 0, none⟩ = some (.int .i64 k) ∧ W.cell? ⟨w.heap.size, 5, none⟩ = some (.slice la ts.length lc)) := fun W hb => by
    have e := (hb.block _ hlt1).trans hq1
    exact ⟨hb1.trans (hb.mono (by omega)), by unfold World.cell?; simp only [e]; rfl, by unfold World.cell?; simp only [e]; rfl⟩
  have HT : Hid (ts = [] ∨ ∃ bl off, la = some ⟨bl, off, none⟩ ∧ bl < B ∧ KidsLie B w bl off ts) := ht
  have HCK := hidE (check_any _ _ W1 ((hv0.below (hb1.mono hB)).mono (Nat.le_trans hB hb1.size)) (hT.below hb1) hm.1 hm.2)
  have HW1 := hidE hW1
  obtain ⟨cn, hcn⟩ : ∃ c, checkN (.mk k x n s ks ts) = c := ⟨_, rfl⟩
  rw [hcn] at HCK ⊢
  have HS : Hid (storB (.mk k x n s ks ts) = (if k = 4 then ts.all fun t => plainB t.kind && (t.kind == firstK ts) else plainB k)) := rfl
  clear hW1 hq1 ht hk hv0 hT hm hcn
  go_enter Tryz.func25, Tryz.ntmps25
  go_wp2_with fail
  rw [HW1.out]
  refine HCK.out.mono ?_
  rintro e w2 ⟨rfl, hb2⟩
  have HB2 := hidE hb2
  obtain ⟨hbw2, q0, q5⟩ := HX.out w2 hb2
  have HBW2 := hidE hbw2
  clear hb2 hbw2 HW1 HCK
  by_cases hc : cn = 0
  · have hc' : (cn != 0) = false := by simp [hc]
    have HD : Hid (decide (cn = 0) = true) := decide_eq_true hc
    clear hc
    by_cases k4 : k = 4
    · have k4' : (k != 4) = false := by simp [k4]
      have HS2 : Hid (storB (.mk k x n s ks ts) = ts.all fun t => plainB t.kind && (t.kind == firstK ts)) := HS.out.trans (if_pos k4)
      clear HS k4
      go_wp2_with fail
      clear q0 q5
      go_loopw [17] (fun i wr => ∃ j : Nat, j ≤ ts.length ∧ i = .int .i64 j ∧ Below W1.heap.size W1 wr ∧ (ts.take j).all (fun t => plainB t.kind && (t.kind == firstK ts)) = true) (fun i _ => ts.length - (intOf i).toNat)
      case atStart => exact ⟨0, Nat.zero_le _, rfl, HB2.out, rfl⟩
      case round =>
        obtain ⟨j, hj, rfl, hbr, hal⟩ := hrel
        have HBR := hidE hbr
        have HAL := hidE hal
        obtain ⟨hbw, q0, q5⟩ := HX.out wr hbr
        have HBW := hidE hbw
        clear hbr hbw hal
        by_cases hlt : j < ts.length
        · obtain ⟨bl, off, rfl, hbl, hkk⟩ := HT.out.resolve_left (by intro e; subst e; simp at hlt)
          obtain ⟨⟨p0, p1, p2, p3, p4, p5⟩, hx⟩ : ∃ t, ts[j]? = some t := ⟨_, List.getElem?_eq_getElem hlt⟩
          have hkw := hkk.below (HBW.out.mono hB) hbl
          obtain ⟨ja, jc, jl, jd, ⟨c0, c1, c2, c3, c4, c5⟩, _⟩ := hkw.cells hx
          have d0 := hkw.first (by omega)
          have HX2 := hidE hx
          obtain ⟨fk, hfk⟩ : ∃ f, firstK ts = f := ⟨_, rfl⟩
          rw [hfk] at d0
          have HFK := hidE hfk
          have hl0 : (0 : Int) < ts.length := by omega
          have hbs : bl < wr.heap.size := by have := HBW.out.size; omega
          have hws : w.heap.size < wr.heap.size := by have := HBR.out.size; omega
          obtain ⟨pp, hpp⟩ : ∃ b, plainB p0 = b := ⟨_, rfl⟩
          have HPP := hidE hpp
          have HPL : Hid (∀ W, Calls Tryz.prog 66 #[.int .i64 p0] W fun e w' => e = .returned (.bool pp) ∧ w' = W) := fun W => by
            rw [← hpp]; exact plain_any _ _
          clear hkk hkw hx hfk hpp
          obtain ⟨W3, hW3⟩ : ∃ W3, wr.alloc (.cells #[.int .i64 p0, .bool p1, .int .i64 p2, .string p3, .slice ja p4.length jc, .slice jl p5.length jd] 26) = W3 := ⟨_, rfl⟩
          have hb3 : Below wr.heap.size wr W3 := hW3 ▸ (Below.refl _ _).alloc (Nat.le_refl _) _
          have z0 : W3.cell? ⟨wr.heap.size, 0, none⟩ = some (.int .i64 p0) := hW3 ▸ cell_new _ _ _ _ _ rfl
          have z5 : W3.cell? ⟨w.heap.size, 5, none⟩ = some (.slice (some ⟨bl, off, none⟩) ts.length lc) := (hb3.cell (p := ⟨w.heap.size, 5, none⟩) hws).trans q5
          have zd : W3.cell? ⟨bl, off, none⟩ = some (.int .i64 fk) := (hb3.cell (p := ⟨bl, off, none⟩) hbs).trans d0
          have HB3 := hidE hb3
          have HW3 := hidE hW3
          clear hb3 hW3
          go_wp2_with fail
          rw [HW3.out]
          clear c0 c1 c2 c3 c4 c5 q0 q5 d0
          cases pp with
          | true =>
            go_quiet ((go_at_call 66; exact Calls.quiet_of_same (HPL.out _)))
            by_cases e : p0 = fk
            · have e' : (p0 != fk) = false := by simp [e]
              go_wp2_with fail
              go_roundw
              case rel => exact ⟨j + 1, by omega, by go_num, below_drewN (HBR.out.trans (HB3.out.mono HBR.out.size)) _, take_all_snoc HAL.out HX2.out (by rw [HFK.out]; show (plainB p0 && (p0 == fk)) = true; rw [HPP.out]; simp [e])⟩
              case measure => simp [intOf]; omega
            · have e' : (p0 != fk) = true := by simp [e]
              have HA : Hid ((ts.all fun t => plainB t.kind && (t.kind == firstK ts)) = false) := all_false HX2.out (by rw [HFK.out]; simp [Tree.kind, e])
              go_wp2_with fail
              go_ret
              exact ⟨by rw [HD.out, HS2.out, HA.out]; rfl, below_drewN (HBW.out.trans (HB3.out.mono HBW.out.size)) _⟩
          | false =>
            have HA : Hid ((ts.all fun t => plainB t.kind && (t.kind == firstK ts)) = false) := all_false HX2.out (by simp [Tree.kind, HPP.out])
            go_quiet ((go_at_call 66; exact Calls.quiet_of_same (HPL.out _)))
            go_wp2_with fail
            go_ret
            exact ⟨by rw [HD.out, HS2.out, HA.out]; rfl, below_drewN (HBW.out.trans (HB3.out.mono HBW.out.size)) _⟩
        · have HA : Hid ((ts.all fun t => plainB t.kind && (t.kind == firstK ts)) = true) := by
            have := HAL.out
            rw [List.take_of_length_le (by omega)] at this
            exact this
          go_wp2_with fail
          go_ret
          exact ⟨by rw [HD.out, HS2.out, HA.out]; rfl, HBW.out⟩
    · have k4' : (k != 4) = true := by simp [k4]
      have HS2 : Hid (storB (.mk k x n s ks ts) = plainB k) := HS.out.trans (if_neg k4)
      clear HS
      go_wp2_with fail
      refine (plain_any _ _).mono ?_
      rintro e w3 ⟨rfl, rfl⟩
      obtain ⟨pp, hpp⟩ : ∃ b, plainB k = b := ⟨_, rfl⟩
      rw [hpp]
      have HPP := hidE hpp
      clear hpp
      go_wp2_with fail
      go_ret
      exact ⟨by rw [HD.out, HS2.out, HPP.out]; rfl, HBW2.out⟩
  · have hc' : (cn != 0) = true := by simp [hc]
    have HD : Hid (decide (cn = 0) = false) := decide_eq_false hc
    clear hc
    go_wp2_with fail
    go_ret
    exact ⟨by rw [HD.out]; rfl, HBW2.out⟩
end Go.Proofs.YtbpmhgcjefpigaaGreatDoor

