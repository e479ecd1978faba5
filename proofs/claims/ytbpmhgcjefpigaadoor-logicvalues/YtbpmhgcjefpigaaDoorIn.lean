/- In: whether a value is among others. -/
import Derived.Test.YtbpmhgcjefpigaaDoorEquals
import Derived.Test.YtbpmhgcjefpigaaDoorOf
namespace Go.Proofs.YtbpmhgcjefpigaaDoor
open Go.RowKit Go.Shelf
set_option linter.unusedVariables false

theorem tb_or (a b : Int) (ha : a = 0 ∨ a = 1 ∨ a = 2) (hb : b = 0 ∨ b = 1 ∨ b = 2) : tb 0 1 2 1 1 2 2 2 2 a b = max a b := by
  rcases ha with rfl | rfl | rfl <;> rcases hb with rfl | rfl | rfl <;> rfl
theorem orF_three (zs : List Int) : ∀ a : Int, (a = 0 ∨ a = 1 ∨ a = 2) → (zs.foldl (fun a z => tb 0 1 2 1 1 2 2 2 2 a (kn z)) a = 0 ∨ zs.foldl (fun a z => tb 0 1 2 1 1 2 2 2 2 a (kn z)) a = 1 ∨ zs.foldl (fun a z => tb 0 1 2 1 1 2 2 2 2 a (kn z)) a = 2) := by
  induction zs with
  | nil => intro a h; exact h
  | cons z r ih =>
    intro a h
    simp only [List.foldl_cons]
    apply ih
    rw [tb_or a (kn z) h (kn_three z)]
    rcases h with rfl | rfl | rfl <;> rcases kn_three z with e | e | e <;> rw [e] <;> decide
theorem orL_three (zs : List Int) : orL zs = 0 ∨ orL zs = 1 ∨ orL zs = 2 := orF_three zs 0 (.inl rfl)
theorem kn_self {a : Int} (h : a = 0 ∨ a = 1 ∨ a = 2) : kn a = a := by rcases h with rfl | rfl | rfl <;> rfl
theorem orL_pair (zs : List Int) (z : Int) : orL [orL zs, z] = orL (zs ++ [z]) := by
  have h := orL_three zs
  have e1 : orL (zs ++ [z]) = tb 0 1 2 1 1 2 2 2 2 (orL zs) (kn z) := by simp [orL]
  rw [e1]
  show tb 0 1 2 1 1 2 2 2 2 (tb 0 1 2 1 1 2 2 2 2 0 (kn (orL zs))) (kn z) = _
  rw [kn_self h, tb_or 0 _ (.inl rfl) h]
  congr 1
  omega

/-- What In answers. -/
def inN (T : Tree) (ts : List Tree) : Int := orL (ts.map (equalN T))

theorem box_cells {w w1 : World} {A : Array Value} (hb : Below (w.alloc (.cells A 30)).heap.size (w.alloc (.cells A 30)) w1) : Below w.heap.size w w1 ∧ (∀ i v, A[i]? = some v → w1.cell? ⟨w.heap.size, i, none⟩ = some v) :=
  ⟨below_alloc hb, fun i v hi => alloc_cell _ _ _ _ _ _ hi hb⟩

set_option maxHeartbeats 2000000 in
theorem in_any (T : Tree) (ts : List Tree) (B : Nat) (v : Value) (la : Option Addr) (lc : Nat) (w : World) (hB : B ≤ w.heap.size) (hv : Lies B w v T) (hl : ListLies B w la ts) (h1 : ts.length ≤ lc) (h2 : lc ≤ maxLen) (hT : Tabs w) (hm : Modest T) (hms : ∀ t ∈ ts, Modest t) :
    Calls Tryd.prog 23 #[v, .slice la ts.length lc] w fun e w' => e = .returned (.int .i64 (inN T ts)) ∧ Below w.heap.size w w' := by
  unfold maxLen at h2
  obtain ⟨k, x, n, s, ks, us⟩ := T
  have HV := hidE hv
  simp only [Lies] at hv
  obtain ⟨ka, kc, ua, uc, rfl, _, _, _⟩ := hv
  have HMS := hidE hms
  clear hms
  obtain ⟨W1, hW1⟩ : ∃ W1, w.alloc (.cells #[.int .i64 k, .bool x, .int .i64 n, .string s, .slice ka ks.length kc, .slice ua us.length uc] 30) = W1 := ⟨_, rfl⟩
  have HBX : Hid (∀ W, Below W1.heap.size W1 W → Below w.heap.size w W ∧ (∀ i v, (#[Value.int .i64 k, .bool x, .int .i64 n, .string s, .slice ka ks.length kc, .slice ua us.length uc] : Array Value)[i]? = some v → W.cell? ⟨w.heap.size, i, none⟩ = some v)) := fun W hb => by
    rw [← hW1] at hb; exact box_cells hb
  have HW1 := hidE hW1
  clear hW1
  go_enter Tryd.func23, Tryd.ntmps23
  go_wp2_with fail
  rw [HW1.out]
  go_loopw [10, 5] (fun i f wr => ∃ j : Nat, j ≤ ts.length ∧ i = .int .i64 j ∧ f = .int .i64 (inN (.mk k x n s ks us) (ts.take j)) ∧ Below W1.heap.size W1 wr) (fun i _ _ => ts.length - (intOf i).toNat)
  case atStart => exact ⟨0, Nat.zero_le _, rfl, rfl, Below.refl _ _⟩
  case round =>
    obtain ⟨j, hj, rfl, rfl, hbr⟩ := hrel
    obtain ⟨hbw, hq⟩ := HBX.out _ hbr
    by_cases hlt : j < ts.length
    · obtain ⟨bl, off, rfl, hbl, hkl⟩ := hl.resolve_left (by intro e; subst e; simp at hlt)
      obtain ⟨⟨p0, p1, p2, p3, p4, p5⟩, hx⟩ : ∃ t, ts[j]? = some t := ⟨_, List.getElem?_eq_getElem hlt⟩
      obtain ⟨ja, jc, jl, jd, ⟨c0, c1, c2, c3, c4, c5⟩, hlx⟩ := (hkl.below (hbw.mono hB) hbl).cells hx
      have hal : Below wr.heap.size wr (wr.alloc (.cells #[.int .i64 p0, .bool p1, .int .i64 p2, .string p3, .slice ja p4.length jc, .slice jl p5.length jd] 30)) := (Below.refl _ _).alloc (Nat.le_refl _) _
      have hBr : B ≤ wr.heap.size := Nat.le_trans hB hbw.size
      have HC := hidE (Equal_any (.mk k x n s ks us) (.mk p0 p1 p2 p3 p4 p5) B _ _ (wr.alloc (.cells #[.int .i64 p0, .bool p1, .int .i64 p2, .string p3, .slice ja p4.length jc, .slice jl p5.length jd] 30)) (Nat.le_trans hBr hal.size)
        ((HV.out.below (hbw.mono hB)).below (hal.mono hBr)) (hlx.below (hal.mono hBr)) ((hT.below hbw).below hal) hm (HMS.out _ (List.mem_of_getElem? hx)))
      have HST : Hid (inN (.mk k x n s ks us) (ts.take (j + 1)) = orL [inN (.mk k x n s ks us) (ts.take j), equalN (.mk k x n s ks us) (.mk p0 p1 p2 p3 p4 p5)]) := by
        show _ = _
        unfold inN
        rw [orL_pair, List.take_add_one, hx, List.map_append]
        rfl
      have q0 := hq 0 _ rfl
      have q1 := hq 1 _ rfl
      have q2 := hq 2 _ rfl
      have q3 := hq 3 _ rfl
      have q4 := hq 4 _ rfl
      have q5 := hq 5 _ rfl
      clear hx hkl hlx hal hq
      generalize inN (.mk k x n s ks us) (ts.take j) = acc at *
      generalize equalN (.mk k x n s ks us) (.mk p0 p1 p2 p3 p4 p5) = et at *
      have hlt0 : w.heap.size < wr.heap.size := by have h1 := hbr.size; have h2 := HW1.out; have h3 : W1.heap.size = w.heap.size + 1 := by rw [← h2]; simp
                                                   omega
      go_wp2_with fail
      refine HC.out.mono ?_
      rintro e w2 ⟨rfl, hk2⟩
      have hb2 : Below wr.heap.size wr w2 := below_alloc hk2
      clear hk2 c0 c1 c2 c3 c4 c5 q0 q1 q2 q3 q4 q5
      go_wp2_with fail
      refine (or_two _ _ _).mono ?_
      rintro e w3 ⟨rfl, hk3⟩
      have HB3 : Hid (Below W1.heap.size W1 w3) := below_on hbr (below_on hb2 hk3)
      clear hk3 hb2
      generalize hof : orL [acc, et] = of at *
      go_wp2_with fail
      refine (holds_any _ _).mono ?_
      rintro e w4 ⟨rfl, rfl⟩
      by_cases z : of = 2
      · have z' : (of == 2) = true := eq_bool z
        have HF : Hid (inN (.mk k x n s ks us) ts = of) := by
          show _ = _
          have h := HST.out
          unfold inN at h ⊢
          rw [z] at h
          rw [List.map_take] at h
          rw [orL_ends h, z]
        clear z hof
        go_wp2_with fail
        go_ret
        exact ⟨by rw [HF.out]; rfl, (HBX.out _ HB3.out).1⟩
      · have z' : (of == 2) = false := ne_bool z
        clear z hof
        go_wp2_with fail
        go_roundw
        case rel => exact ⟨j + 1, by omega, by go_num, by rw [HST.out], HB3.out⟩
        case measure => simp [intOf]; omega
    · have hje : ts.take j = ts := List.take_of_length_le (by omega)
      have HF : Hid (inN (.mk k x n s ks us) ts = inN (.mk k x n s ks us) (ts.take j)) := by show _ = _; rw [hje]
      clear hje hq
      go_wp2_with fail
      go_ret
      exact ⟨by rw [HF.out]; rfl, hbw⟩
end Go.Proofs.YtbpmhgcjefpigaaDoor
