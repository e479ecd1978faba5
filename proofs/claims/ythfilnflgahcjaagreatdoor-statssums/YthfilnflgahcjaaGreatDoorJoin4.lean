/- The walk of a region that draws its order: first what reads, then, one by one, what makes memory, then what waits for all. Numbers together, the share of a number in another, how many nodes there are. How rows and keys stand in cells. The first row of each key, by definition. The small functions: what a row's key is, its number. A row of the call's own, and some zeros more. -/
import Derived.Test.YthfilnflgahcjaaGreatDoorJoin3
import Derived.Test.YthfilnflgahcjaaGreatDoorJoin2
import Derived.Lib.AppendZeros
namespace Go.Proofs.YthfilnflgahcjaaGreatDoor
open Go.RowKit
section
variable {P : Program} {ops : Array Oper} {md : Region.Mode} {Q : Exit → Act → World → Prop} {keep : Nat → Bool}
def wpSched (P : Program) (ops : Array Oper) (keep : Nat → Bool) (Q : Exit → Act → World → Prop) : List (Bool × Nat) → Act → World → Prop
  | [], a, w => Q .normal a w
  | (true, i) :: r, a, w => ∃ oi v, ops[i]? = some oi ∧ YieldsIf P ops (upS w) oi v a ∧ wpSched P ops keep Q r (a.put oi.dst v) w
  | (false, i) :: r, a, w =>
    if keep i = true then wpOp P ops NoQ i (fun a' w' => Below w.heap.size w w' ∧ wpSched P ops keep Q r a' w') a w
    else wpOp P ops Q i (wpSched P ops keep Q r) a w
def checkB (md : Region.Mode) (ops : Array Oper) (keep : Nat → Bool) : List (Bool × Nat) → Array Bool → Bool
  | [], listed => (Region.ready md ops listed).isEmpty
  | (true, i) :: r, listed => (Region.ready md ops listed).contains i && (Region.free md ops listed i && (keep i && (((List.range ops.size).all fun j => j == i || (keep j || waitsB md ops ops.size j i)) && checkB md ops keep r (listed.setIfInBounds i true))))
  | (false, i) :: r, listed => (Region.ready md ops listed == [i]) && checkB md ops keep r (listed.setIfInBounds i true)
theorem sched_sound (hs : Region.noSelect ops = true) : ∀ (l : List (Bool × Nat)) (listed : Array Bool) (a : Act) (w : World), checkB md ops keep l listed = true → Closed md ops listed → wpSched P ops keep Q l a w → wpAnyU P md ops keep Q l.length listed a w
  | [], listed, a, w, hc, _, h => ⟨by simpa [checkB] using hc, h⟩
  | (true, i) :: r, listed, a, w, hc, hcl, ⟨oi, v, hi, hy, h⟩ => by
    simp only [checkB, Bool.and_eq_true] at hc
    obtain ⟨h1, h2, h3, h4, h5⟩ := hc
    have hr : i ∈ Region.ready md ops listed := by simpa using h1
    refine wpAnyU_first hi (Region.noSelect_spec hs) h3 (fun j hj hji hkj => ?_) r.length listed a w hcl (Region.free_spec hi h2) hr hy (sched_sound hs r _ _ _ h5 (closed_set hcl hr) h)
    have := List.all_eq_true.1 h4 j (List.mem_range.2 hj)
    simpa [hji, hkj] using this
  | (false, i) :: r, listed, a, w, hc, hcl, h => by
    simp only [checkB, Bool.and_eq_true, beq_iff_eq] at hc
    obtain ⟨h1, h2⟩ := hc
    have hr : i ∈ Region.ready md ops listed := by rw [h1]; exact List.mem_cons_self
    refine ⟨fun h0 => (by rw [h0] at h1; cases h1), fun j hj => ?_⟩
    rw [h1] at hj
    obtain rfl : j = i := by simpa using hj
    rw [wpSched] at h
    split
    · rename_i hk
      rw [if_pos hk] at h
      exact wpOp_mono (fun a' w' h' => ⟨h'.1, sched_sound hs r _ _ _ h2 (closed_set hcl hr) h'.2⟩) h
    · rename_i hk
      rw [if_neg hk] at h
      exact wpOp_mono (fun a' w' h' => sched_sound hs r _ _ _ h2 (closed_set hcl hr) h') h
def upC (w : World) : World → Prop := fun w' => ∃ u : Up w, w' = u.x
def nthL : List Oper → Nat → Option Oper
  | [], _ => none
  | o :: _, 0 => some o
  | _ :: l, n + 1 => nthL l n
theorem nthL_get : ∀ (l : List Oper) (n : Nat), nthL l n = l[n]?
  | [], n => by simp [nthL]
  | o :: l, 0 => rfl
  | o :: l, n + 1 => by rw [nthL, nthL_get l n]; simp
def pickL (L : List Oper) : List Nat → List Oper
  | [] => []
  | i :: r => match nthL L i with
    | some o => o :: pickL L r
    | none => pickL L r
/-- One that makes memory, in the frame that is there. -/
def wpLoud (P : Program) (L : List Oper) (i : Nat) (K : Act → World → Prop) (a : Act) (w : World) : Prop :=
  wpList P L.toArray (fun e a' w' => e = .normal ∧ K a' w') (pickL L [i]) a w
def wpCalm (P : Program) (L : List Oper) (Q : Exit → Act → World → Prop) : List (List Nat × Nat) → List Nat → List Nat → Act → World → Prop
  | [], S, T, a, w => wpQuiet P L.toArray (upC w) (fun a' => wpList P L.toArray Q (pickL L T) a' w) (pickL L S) a
  | (S, i) :: r, S', T, a, w => wpQuiet P L.toArray (upC w) (fun a' => wpLoud P L i (fun a'' w'' => Below w.heap.size w w'' ∧ wpCalm P L Q r S' T a'' w'') a' w) (pickL L S) a
def reads (L : List Oper) (S : List Nat) : Bool := S.all fun i => match nthL L i with | some o => isRead o.op | none => false
def tailS (S T : List Nat) : List (Bool × Nat) := S.map (fun i => (true, i)) ++ T.map (fun i => (false, i))
def schedOf : List (List Nat × Nat) → List Nat → List Nat → List (Bool × Nat)
  | [], S, T => tailS S T
  | (S, i) :: r, S', T => S.map (fun i => (true, i)) ++ (false, i) :: schedOf r S' T
def partsB (L : List Oper) (T : List Nat) : List (List Nat × Nat) → Bool
  | [] => true
  | (S, i) :: r => reads L S && ((nthL L i).isSome && (!T.contains i && partsB L T r))
def calmB (L : List Oper) (A : List (List Nat × Nat)) (S T : List Nat) : Bool :=
  Region.noSelect L.toArray && (partsB L T A && (reads L S && ((T.all fun i => (nthL L i).isSome) && ((schedOf A S T).length == L.length && checkB .any L.toArray (fun j => !T.contains j) (schedOf A S T) (Array.replicate L.length false)))))
theorem seg_quiet {L : List Oper} {r : List (Bool × Nat)} {w : World} {K : Act → Prop} (hK : ∀ a, K a → wpSched P L.toArray keep Q r a w) : ∀ (S : List Nat) (a : Act), reads L S = true →
    wpQuiet P L.toArray (upC w) K (pickL L S) a → wpSched P L.toArray keep Q (S.map (fun i => (true, i)) ++ r) a w
  | [], a, _, h => hK a h
  | i :: S, a, hr, h => by
    simp only [reads, List.all_cons, Bool.and_eq_true] at hr
    obtain ⟨h1, h2⟩ := hr
    cases ho : nthL L i with
    | none => rw [ho] at h1; cases h1
    | some o =>
      rw [ho] at h1
      simp only [pickL, ho, wpQuiet] at h
      have hi : L.toArray[i]? = some o := by rw [List.getElem?_toArray, ← nthL_get, ho]
      by_cases hw : Region.wanted o (yielded L.toArray a.tmps) = true
      · rw [if_pos hw] at h
        obtain ⟨v, h3, h4⟩ := h
        refine ⟨o, v, hi, .inl ⟨hw, fun x hx => ?_⟩, seg_quiet hK S _ h2 h4⟩
        have h5 := h3 x ⟨⟨x, hx⟩, rfl⟩
        unfold Oper.quietAt at h5
        generalize hres : (execOp a.eval o).run P x = res at h5
        cases res with
        | halt y z => simp only [Oper.quietUpon] at h5
        | ok n z =>
          obtain ⟨u, rfl⟩ := read_value h1 hres
          simp only [Oper.quietUpon] at h5
          rw [h5.1, h5.2]
      · rw [if_neg hw] at h
        exact ⟨o, undef, hi, .inr ⟨by simpa using hw, rfl⟩, seg_quiet hK S _ h2 h⟩
theorem oper_only {o : Oper} {a : Act} {w : World} {K K' : Act → World → Prop} (h : o.wp P a w K (fun e a' w' => e = .normal ∧ K' a' w')) : o.wp P a w K NoQ := by
  unfold Oper.wp at *
  generalize (execOp a.eval o).run P w = res at *
  cases res with
  | ok n w' =>
    cases n <;> simp only [Oper.upon] at h ⊢ <;> first | exact h | skip
    exact Calls.mono h fun e w'' he => by
      cases e with
      | returned v => exact he
      | panicked c => exact Exit.noConfusion he.1
      | outgrown => exact he.elim fun _ h => h.elim fun _ h => Exit.noConfusion h.1
  | halt x w' => cases x <;> simp only [Oper.upon] at h ⊢; exact Exit.noConfusion h.1
theorem seg_loud {L : List Oper} {r : List (Bool × Nat)} {i : Nat} {a : Act} {w : World} {K : Act → World → Prop} (hk : keep i = true) (hn : (nthL L i).isSome = true) (hK : ∀ a w', K a w' → Below w.heap.size w w' ∧ wpSched P L.toArray keep Q r a w')
    (h : wpLoud P L i K a w) : wpSched P L.toArray keep Q ((false, i) :: r) a w := by
  rw [wpSched, if_pos hk]
  unfold wpLoud at h
  cases ho : nthL L i with
  | none => rw [ho] at hn; cases hn
  | some o =>
    have hi : L.toArray[i]? = some o := by rw [List.getElem?_toArray, ← nthL_get, ho]
    simp only [pickL, ho, wpList] at h
    unfold wpOp
    simp only [hi]
    split
    · rename_i hw
      rw [if_pos hw] at h
      rcases h with h | ⟨_, _, _, h, _⟩
      · exact .inl (Oper.wp_mono (fun a' w' h' => hK a' w' h'.2) (oper_only h))
      · cases h
    · rename_i hw
      rw [if_neg hw] at h
      exact hK _ _ h.2
theorem seg_tail {L : List Oper} : ∀ (T : List Nat) (a : Act) (w : World), (∀ i ∈ T, keep i = false ∧ (nthL L i).isSome = true) → wpList P L.toArray Q (pickL L T) a w → wpSched P L.toArray keep Q (T.map (fun i => (false, i))) a w
  | [], a, w, _, h => h
  | i :: T, a, w, hT, h => by
    obtain ⟨hk, hn⟩ := hT i List.mem_cons_self
    rw [List.map_cons, wpSched, if_neg (by rw [hk]; exact Bool.false_ne_true)]
    cases ho : nthL L i with
    | none => rw [ho] at hn; cases hn
    | some o =>
      have hi : L.toArray[i]? = some o := by rw [List.getElem?_toArray, ← nthL_get, ho]
      simp only [pickL, ho, wpList] at h
      have ih := fun a w => seg_tail T a w (fun j hj => hT j (List.mem_cons_of_mem _ hj))
      unfold wpOp
      simp only [hi]
      split
      · rename_i hw
        rw [if_pos hw] at h
        exact h.imp (Oper.wp_mono ih) id
      · rename_i hw
        rw [if_neg hw] at h
        exact ih _ _ h
theorem calm_sched {L : List Oper} {S T : List Nat} (hS : reads L S = true) (hT : ∀ i ∈ T, keep i = false ∧ (nthL L i).isSome = true) (hkT : ∀ i, T.contains i = false → keep i = true) : ∀ (A : List (List Nat × Nat)) (a : Act) (w : World), partsB L T A = true →
    wpCalm P L Q A S T a w → wpSched P L.toArray keep Q (schedOf A S T) a w
  | [], a, w, _, h => seg_quiet (fun a' h' => seg_tail T a' w hT h') S a hS h
  | (S1, i) :: r, a, w, hA, h => by
    simp only [partsB, Bool.and_eq_true, Bool.not_eq_true'] at hA
    obtain ⟨h1, h2, h3, h4⟩ := hA
    exact seg_quiet (fun a' h' => seg_loud (hkT i h3) h2 (fun a'' w'' h'' => ⟨h''.1, calm_sched hS hT hkT r a'' w'' h4 h''.2⟩) h') S1 a h1 h
/-- A region that draws its order. -/
theorem wp_calm {id : Nat} {L : List Oper} {a : Act} {w : World} (A : List (List Nat × Nat)) (S T : List Nat) (hm : P.follows .mixedOrders = true) (hB : calmB L A S T = true) (h : wpCalm P L Q A S T a w.drew) : (Code.region id L.toArray true).wp P Q a w := by
  simp only [calmB, Bool.and_eq_true, beq_iff_eq] at hB
  obtain ⟨h1, h2, h3, h4, h5, h6⟩ := hB
  refine wp_region_any hm (wpAny_of_U (keep := fun j => !T.contains j) _ _ _ _ ?_)
  have h7 := sched_sound (P := P) (Q := Q) h1 (schedOf A S T) (Array.replicate L.length false) a w.drew h6 ⟨by simp, fun j oj _ hl => by
    rcases Nat.lt_or_ge j L.length with hj | hj
    · simp [hj] at hl
    · simp [hj] at hl⟩ (calm_sched h3 (fun i hi => ⟨by simpa using hi, List.all_eq_true.1 h4 i hi⟩) (fun i hi => by rw [hi]; rfl) A a w.drew h2 h)
  rw [h5] at h7
  simpa using h7
end
end Go.Proofs.YthfilnflgahcjaaGreatDoor

namespace Go.Proofs.YthfilnflgahcjaaGreatDoor
open Go.RowKit Go.Shelf
set_option linter.unusedVariables false
set_option linter.unusedSimpArgs false
attribute [local go_sem] Oper.semAt_some
def intE (n : Int) : List Value := [.int .i64 n]
theorem cutI_nonneg (n : Int) : 0 ≤ cutI n := by unfold cutI; split <;> (try split) <;> omega
theorem cutI_le (n : Int) : cutI n ≤ 4611686018427387904 := by unfold cutI; split <;> (try split) <;> omega
/-- Numbers behind a sum. -/
def plusF : Int → List Int → Int
  | t, [] => t
  | t, n :: r => plusF (t + (if 4611686018427387904 - t < cutI n then 4611686018427387904 - t else cutI n)) r
def plusI (l : List Int) : Int := plusF 0 l
theorem plusF_at {t : Int} {l : List Int} {j : Nat} {n : Int} (h : l[j]? = some n) : plusF t (l.drop j) = plusF (t + (if 4611686018427387904 - t < cutI n then 4611686018427387904 - t else cutI n)) (l.drop (j + 1)) := by
  obtain ⟨hj, hx⟩ := List.getElem?_eq_some_iff.1 h
  rw [List.drop_eq_getElem_cons hj, hx]; rfl
set_option maxRecDepth 100000 in
set_option maxHeartbeats 4000000 in
theorem plus_any (l : List Int) (v : Value) (B : Nat) (w : World) (hB : B ≤ w.heap.size) (hv : SRow 1 intE B w v l) :
    Calls Tryz.prog 34 #[v] w fun e w' => e = .returned (.int .i64 (plusI l)) ∧ w' = w := by
  obtain ⟨a, c, rfl, h1, h2, h3⟩ := hv
  have H3 := hidE h3
  obtain ⟨n, hn⟩ : ∃ n, l.length = n := ⟨_, rfl⟩
  have HN := hidE hn
  rw [hn] at h1 ⊢
  obtain ⟨res, hres⟩ : ∃ r, plusI l = r := ⟨_, rfl⟩
  have HR := hidE hres
  rw [hres]
  clear h3 hn hres
  go_enter Tryz.func34, Tryz.ntmps34
  go_wp2_with fail
  go_loopw [3, 8] (fun s i wr => ∃ (t : Int) (j : Nat), j ≤ n ∧ s = .int .i64 t ∧ i = .int .i64 j ∧ 0 ≤ t ∧ t ≤ 4611686018427387904 ∧ plusF t (l.drop j) = res ∧ wr = w) (fun _ i _ => n - (intOf i).toNat)
  case atStart => exact ⟨0, 0, Nat.zero_le _, rfl, rfl, by omega, by omega, HR.out, rfl⟩
  case round =>
    obtain ⟨t, j, hj, rfl, rfl, ht0, ht1, hrs, rfl⟩ := hrel
    have HRS := hidE hrs
    clear hrs
    by_cases hlt : j < n
    · have hlt' : (j : Int) < n := by omega
      obtain ⟨x, hx⟩ : ∃ q, l[j]? = some q := ⟨_, List.getElem?_eq_getElem (by have := HN.out; omega)⟩
      obtain ⟨bl, off, rfl, hbl, hc⟩ := H3.out.resolve_left (by intro e; rw [e] at hx; simp at hx)
      have cx := hc j x hx 0 _ rfl
      rw [Nat.mul_one, Nat.add_zero] at cx
      have HE := plusF_at (t := t) hx
      rw [HRS.out] at HE
      have HE := hidE HE
      clear hx hc
      have hc0 := cutI_nonneg x
      have hc1 := cutI_le x
      have HC := hidE (fun W => cut_any x W)
      obtain ⟨cx1, hcx⟩ : ∃ q, cutI x = q := ⟨_, rfl⟩
      rw [hcx] at HE hc0 hc1
      rw [hcx] at HC
      clear hcx
      go_wp2_with (go_at_call 52; refine (HC.out _).mono ?_; rintro e _ ⟨rfl, rfl⟩)
      go_roundw
      case rel => exact ⟨_, j + 1, by omega, rfl, by go_num, by split <;> omega, by split <;> omega, HE.out.symm, trivial⟩
      case measure => simp [intOf]; omega
    · have HF : Hid (res = t) := by
        show _ = _
        rw [← HRS.out, List.drop_of_length_le (by have := HN.out; omega)]
        rfl
      have hlt' : ¬ (j : Int) < n := by omega
      go_wp2_with fail
      go_ret
      exact ⟨by rw [HF.out]; rfl, rfl⟩
/-- The share of a number in another. -/
def shareI (a b : Int) : Int := (cutI a + ((if cutI b < 1 then 1 else cutI b) - 1)) / (if cutI b < 1 then 1 else cutI b)
set_option maxRecDepth 100000 in
set_option maxHeartbeats 4000000 in
theorem share_any (a b : Int) (w : World) : Calls Tryz.prog 32 #[.int .i64 a, .int .i64 b] w fun e w' => e = .returned (.int .i64 (shareI a b)) ∧ w' = w := by
  have h0 := cutI_nonneg a
  have h1 := cutI_le a
  have k0 := cutI_nonneg b
  have k1 := cutI_le b
  have HA := hidE (fun W => cut_any a W)
  have HB := hidE (fun W => cut_any b W)
  unfold shareI
  generalize cutI a = x at *
  generalize cutI b = y at *
  obtain ⟨m, hm⟩ : ∃ m, (if y < 1 then 1 else y) = m := ⟨_, rfl⟩
  have hm1 : 1 ≤ m := by rw [← hm]; split <;> omega
  have hm2 : m ≤ 4611686018427387904 := by rw [← hm]; split <;> omega
  rw [hm]
  go_enter Tryz.func32, Tryz.ntmps32
  go_wp2_with (first | (go_at_call_of 52 a; refine (HA.out _).mono ?_; rintro e _ ⟨rfl, rfl⟩) | (go_at_call_of 52 b; refine (HB.out _).mono ?_; rintro e _ ⟨rfl, rfl⟩))
  go_ret
  exact ⟨rfl, rfl⟩
end Go.Proofs.YthfilnflgahcjaaGreatDoor

namespace Go.Proofs.YthfilnflgahcjaaGreatDoor
open Go.RowKit Go.Shelf Go.Maps
set_option linter.unusedVariables false
set_option linter.unusedSimpArgs false
def strE (s : ByteArray) : List Value := [.string s]
def strV (s : ByteArray) : Value := .string s
def okS (s : ByteArray) : Prop := s.size ≤ maxLen
theorem strT : KeyT 9 strV okS := ⟨string_keyed Tryz.underlying9, fun x hx => ⟨.string x.data.toList, by simp [keyOf, Tryz.underlying9, mapKey, strV]; exact hx⟩, fun x y h => by injection h⟩
theorem zero164 (w : World) : (zeroValue 164).run Tryz.prog w = .ok (.agg #[]) w := by kernel_rfl
theorem map163 : Tryz.prog.underlying 163 = some (.map 9 164) := by kernel_rfl
theorem map170 : Tryz.prog.underlying 170 = some (.map 66 164) := by kernel_rfl
theorem map200 : Tryz.prog.underlying 200 = some (.map 64 164) := by kernel_rfl
def labC (x : ByteArray × Int) : List Value := [.string x.1, .int .i64 x.2]
def labV (x : ByteArray × Int) : Value := .agg #[.string x.1, .int .i64 x.2]
def okL (x : ByteArray × Int) : Prop := okS x.1 ∧ W64 x.2
abbrev EndR := ByteArray × ByteArray × Bool × Int
def endC (x : EndR) : List Value := [.string x.1, .string x.2.1, .bool x.2.2.1, .int .i64 x.2.2.2]
def endV (x : EndR) : Value := .agg #[.string x.1, .string x.2.1, .bool x.2.2.1, .int .i64 x.2.2.2]
def okE (x : EndR) : Prop := okS x.1 ∧ okS x.2.1 ∧ W64 x.2.2.2
def endK (x : EndR) : EndR := (x.1, x.2.1, x.2.2.1, 0)
abbrev KeyR := ByteArray × ByteArray × Int × Int
def keyC (x : KeyR) : List Value := [.string x.1, .string x.2.1, .int .i64 x.2.2.1, .int .i64 x.2.2.2]
def keyV (x : KeyR) : Value := .agg #[.string x.1, .string x.2.1, .int .i64 x.2.2.1, .int .i64 x.2.2.2]
def okK (x : KeyR) : Prop := okS x.1 ∧ okS x.2.1 ∧ W64 x.2.2.1 ∧ W64 x.2.2.2
def keyK (x : KeyR) : KeyR := (x.1, x.2.1, 0, 0)
theorem w64_zero : W64 0 := w64 (by omega) (by omega)
theorem agg_inj {a b : Array Value} (h : Value.agg a = Value.agg b) : a.toList = b.toList := by injection h with h; rw [h]
theorem endT : KeyT 64 endV okE := ⟨Keyed.of_law law64, fun x hx => key64 _ _ _ _ hx.1 hx.2.1 hx.2.2, fun x y h => by
  obtain ⟨a, b, c, d⟩ := x
  obtain ⟨a', b', c', d'⟩ := y
  have := agg_inj h
  simp at this
  obtain ⟨rfl, rfl, rfl, rfl⟩ := this
  rfl⟩
theorem keyT : KeyT 66 keyV okK := ⟨Keyed.of_law law66, fun x hx => key66 _ _ _ _ hx.1 hx.2.1 hx.2.2.1 hx.2.2.2, fun x y h => by
  obtain ⟨a, b, c, d⟩ := x
  obtain ⟨a', b', c', d'⟩ := y
  have := agg_inj h
  simp at this
  obtain ⟨rfl, rfl, rfl, rfl⟩ := this
  rfl⟩
theorem labT : KeyT 42 labV okL := ⟨Keyed.of_law law42, fun x hx => key42 _ _ hx.1 hx.2, fun x y h => by
  obtain ⟨a, b⟩ := x
  obtain ⟨a', b'⟩ := y
  have := agg_inj h
  simp at this
  obtain ⟨rfl, rfl⟩ := this
  rfl⟩
theorem typT : KeyT 62 labV okL := ⟨Keyed.of_law law62, fun x hx => key62 _ _ hx.1 hx.2, labT.inj⟩
theorem elem28 : ElemIs 28 42 2 24 (.agg #[.string ⟨#[]⟩, .int .i64 0]) := elem_of (by kernel_rfl) (by kernel_rfl) rfl (by decide) (by decide)
theorem elem29 : ElemIs 29 62 2 24 (.agg #[.string ⟨#[]⟩, .int .i64 0]) := elem_of (by kernel_rfl) (by kernel_rfl) rfl (by decide) (by decide)
theorem elem30 : ElemIs 30 64 4 48 (.agg #[.string ⟨#[]⟩, .string ⟨#[]⟩, .bool false, .int .i64 0]) := elem_of (by kernel_rfl) (by kernel_rfl) rfl (by decide) (by decide)
theorem elem31 : ElemIs 31 66 4 48 (.agg #[.string ⟨#[]⟩, .string ⟨#[]⟩, .int .i64 0, .int .i64 0]) := elem_of (by kernel_rfl) (by kernel_rfl) rfl (by decide) (by decide)
theorem elem44 : ElemIs 44 2 1 8 (.int .i64 0) := elem_of (by kernel_rfl) (by kernel_rfl) rfl (by decide) (by decide)
theorem elem43 : ElemIs 43 9 1 16 (.string ⟨#[]⟩) := elem_of (by kernel_rfl) (by kernel_rfl) rfl (by decide) (by decide)
theorem one_lab (x : ByteArray × Int) : ∀ u ∈ labC x, u.oneCell' = true := fun u hu => by simp only [labC, List.mem_cons, List.not_mem_nil, or_false] at hu; rcases hu with rfl | rfl <;> rfl
theorem one_end (x : EndR) : ∀ u ∈ endC x, u.oneCell' = true := fun u hu => by simp only [endC, List.mem_cons, List.not_mem_nil, or_false] at hu; rcases hu with rfl | rfl | rfl | rfl <;> rfl
theorem one_key (x : KeyR) : ∀ u ∈ keyC x, u.oneCell' = true := fun u hu => by simp only [keyC, List.mem_cons, List.not_mem_nil, or_false] at hu; rcases hu with rfl | rfl | rfl | rfl <;> rfl
theorem one_int (x : Int) : ∀ u ∈ intE x, u.oneCell' = true := fun u hu => by simp only [intE, List.mem_cons, List.not_mem_nil, or_false] at hu; rw [hu]; rfl
theorem one_str (x : ByteArray) : ∀ u ∈ strE x, u.oneCell' = true := fun u hu => by simp only [strE, List.mem_cons, List.not_mem_nil, or_false] at hu; rw [hu]; rfl
end Go.Proofs.YthfilnflgahcjaaGreatDoor

namespace Go.Proofs.YthfilnflgahcjaaGreatDoor
open Go.RowKit Go.Shelf
set_option linter.unusedVariables false
section
variable {R K : Type} [DecidableEq K]
/-- The rows whose keys are still wanted, and the keys that are left. -/
def goFirst (key : R → K) : List R → List K → List R × List K
  | [], left => ([], left)
  | r :: rs, left => if left = [] then ([], []) else if key r ∈ left then (r :: (goFirst key rs (delS (key r) left)).1, (goFirst key rs (delS (key r) left)).2) else goFirst key rs left
def firstsL (key : R → K) (zero : R) (rows : List R) (keys : List K) : List R :=
  (goFirst key rows (keys.foldl putS [])).1 ++ List.replicate (goFirst key rows (keys.foldl putS [])).2.length zero
theorem goFirst_none {key : R → K} : ∀ (rows : List R), goFirst key rows [] = ([], [])
  | [] => rfl
  | r :: rs => by rw [goFirst, if_pos rfl]
theorem goFirst_hit {key : R → K} {rows : List R} {left : List K} {j : Nat} {r : R} (h : rows[j]? = some r) (hl : left ≠ []) (hm : key r ∈ left) : goFirst key (rows.drop j) left = (r :: (goFirst key (rows.drop (j + 1)) (delS (key r) left)).1, (goFirst key (rows.drop (j + 1)) (delS (key r) left)).2) := by
  obtain ⟨hj, hx⟩ := List.getElem?_eq_some_iff.1 h
  rw [List.drop_eq_getElem_cons hj, hx, goFirst, if_neg hl, if_pos hm]
theorem goFirst_miss {key : R → K} {rows : List R} {left : List K} {j : Nat} {r : R} (h : rows[j]? = some r) (hl : left ≠ []) (hm : key r ∉ left) : goFirst key (rows.drop j) left = goFirst key (rows.drop (j + 1)) left := by
  obtain ⟨hj, hx⟩ := List.getElem?_eq_some_iff.1 h
  rw [List.drop_eq_getElem_cons hj, hx, goFirst, if_neg hl, if_neg hm]
theorem goFirst_len {key : R → K} : ∀ (rows : List R) (left : List K), (goFirst key rows left).1.length + (goFirst key rows left).2.length = left.length
  | [], left => by simp [goFirst]
  | r :: rs, left => by
    rw [goFirst]
    split
    · rename_i h; simp [h]
    · split
      · rename_i hl hm
        have := goFirst_len (key := key) rs (delS (key r) left)
        have := delS_len hm
        simp only [List.length_cons]; omega
      · exact goFirst_len rs left
theorem putS_len (l : List K) (k : K) : (putS l k).length ≤ l.length + 1 := by
  unfold putS
  split <;> simp
theorem puts_len : ∀ (ks : List K) (l : List K), (ks.foldl putS l).length ≤ l.length + ks.length
  | [], l => by simp
  | k :: r, l => by
    have := puts_len r (putS l k)
    have := putS_len l k
    simp only [List.foldl_cons, List.length_cons]; omega
theorem puts_at {ks : List K} {j : Nat} {k : K} (h : ks[j]? = some k) : (ks.take (j + 1)).foldl putS [] = putS ((ks.take j).foldl putS []) k := by
  rw [List.take_add_one, h]
  simp
theorem puts_nodup : ∀ (ks : List K) (l : List K), l.Nodup → (ks.foldl putS l).Nodup
  | [], l, h => h
  | k :: r, l, h => puts_nodup r _ (putS_nodup h k)
end
end Go.Proofs.YthfilnflgahcjaaGreatDoor

namespace Go.Proofs.YthfilnflgahcjaaGreatDoor
open Go.RowKit Go.Shelf
set_option linter.unusedVariables false
set_option linter.unusedSimpArgs false
attribute [local go_sem] Oper.semAt_some
theorem f56_any (s : ByteArray) (n : Int) (w : World) : Calls Tryz.prog 56 #[.agg #[.string s, .int .i64 n]] w fun e w' => e = .returned (.string s) ∧ Below w.heap.size w w' := by
  go_enter Tryz.func56, Tryz.ntmps56
  go_wp2
  go_ret
  exact ⟨rfl, (Below.refl _ _).alloc (Nat.le_refl _) _⟩
theorem f59_any (s : ByteArray) (n : Int) (w : World) : Calls Tryz.prog 59 #[.agg #[.string s, .int .i64 n]] w fun e w' => e = .returned (.string s) ∧ Below w.heap.size w w' := by
  go_enter Tryz.func59, Tryz.ntmps59
  go_wp2
  go_ret
  exact ⟨rfl, (Below.refl _ _).alloc (Nat.le_refl _) _⟩
theorem f60_any (s : ByteArray) (n : Int) (w : World) : Calls Tryz.prog 60 #[.agg #[.string s, .int .i64 n]] w fun e w' => e = .returned (.int .i64 n) ∧ Below w.heap.size w w' := by
  go_enter Tryz.func60, Tryz.ntmps60
  go_wp2
  go_ret
  exact ⟨rfl, (Below.refl _ _).alloc (Nat.le_refl _) _⟩
theorem f111_any (s t : ByteArray) (b : Bool) (n : Int) (w : World) : Calls Tryz.prog 111 #[.agg #[.string s, .string t, .bool b, .int .i64 n]] w fun e w' => e = .returned (.int .i64 n) ∧ Below w.heap.size w w' := by
  go_enter Tryz.func111, Tryz.ntmps111
  go_wp2
  go_ret
  exact ⟨rfl, (Below.refl _ _).alloc (Nat.le_refl _) _⟩
set_option maxHeartbeats 1000000 in
theorem f108_any (s t : ByteArray) (b : Bool) (n : Int) (w : World) : Calls Tryz.prog 108 #[.agg #[.string s, .string t, .bool b, .int .i64 n]] w fun e w' => e = .returned (.agg #[.string s, .string t, .bool b, .int .i64 0]) ∧ Below w.heap.size w w' := by
  go_enter Tryz.func108, Tryz.ntmps108
  go_wp2
  refine bodyPost_ret (by simp [results, Tryz.results108, go_sem]) rfl ⟨rfl, ((Below.refl _ _).alloc (Nat.le_refl _) _).alloc (by simp) _⟩
set_option maxHeartbeats 1000000 in
theorem f62_any (s t : ByteArray) (m n : Int) (w : World) : Calls Tryz.prog 62 #[.agg #[.string s, .string t, .int .i64 m, .int .i64 n]] w fun e w' => e = .returned (.agg #[.string s, .string t, .int .i64 0, .int .i64 0]) ∧ Below w.heap.size w w' := by
  go_enter Tryz.func62, Tryz.ntmps62
  go_wp2
  refine bodyPost_ret (by simp [results, Tryz.results62, go_sem]) rfl ⟨rfl, ((Below.refl _ _).alloc (Nat.le_refl _) _).alloc (by simp) _⟩
end Go.Proofs.YthfilnflgahcjaaGreatDoor

namespace Go.Proofs.YthfilnflgahcjaaGreatDoor
open Go.RowKit Go.Shelf
set_option linter.unusedVariables false
set_option linter.unusedSimpArgs false
theorem zero_cells {α : Type} {k : Nat} {z : Value} {enc : α → List Value} {x : α} (hz : z.cells.toList = enc x) (hk : (enc x).length = k) (hk0 : 0 < k) : ∀ m, (Builtin.zeroCells z.cells m).toList = ((List.replicate m x).map enc).flatten := by
  intro m
  have hsz : z.cells.size = k := by rw [← hk, ← hz]; simp
  refine List.ext_getElem? fun i => ?_
  have hlen : ((List.replicate m x).map enc).flatten.length = m * k := by
    rw [sflat_len (k := k) _ (fun c hc => by obtain ⟨y, hy, rfl⟩ := List.mem_map.1 hc; rw [List.eq_of_mem_replicate hy]; exact hk)]
    simp
  by_cases hi : i < m * k
  · have hq : i / k < m := Nat.div_lt_of_lt_mul (by rwa [Nat.mul_comm] at hi)
    have hdm : i / k * k + i % k = i := by rw [Nat.mul_comm]; exact Nat.div_add_mod i k
    have e := sflat_at (k := k) ((List.replicate m x).map enc) (i / k) (i % k) (enc x) (fun c hc => by obtain ⟨y, hy, rfl⟩ := List.mem_map.1 hc; rw [List.eq_of_mem_replicate hy]; exact hk) (by simp [hq]) (Nat.mod_lt _ hk0)
    rw [hdm] at e
    rw [e, ← hz]
    have hm : i % k < z.cells.size := by rw [hsz]; exact Nat.mod_lt _ hk0
    simp only [Builtin.zeroCells, hsz, Array.toList_map, Array.toList_range, List.getElem?_map, List.getElem?_range hi, Option.map_some, Array.getElem?_toList]
    rw [Array.getElem?_eq_getElem hm, getElem!_pos z.cells _ hm]
  · rw [List.getElem?_eq_none (show (Builtin.zeroCells z.cells m).toList.length ≤ i by simp only [Builtin.zeroCells, Array.toList_map, Array.toList_range, List.length_map, List.length_range, hsz]; omega), List.getElem?_eq_none (by rw [hlen]; omega)]
theorem append_zeros {α : Type} {t tn e ty k bytes base m : Nat} {z : Value} (hE : ElemIs t e k bytes z) (htn : Tryz.prog.underlying tn = some (.int .i64)) {enc : α → List Value} {x : α} (hk : ∀ x, (enc x).length = k) (h1 : ∀ x, ∀ u ∈ enc x, u.oneCell' = true) (hzx : z.cells.toList = enc x) {v : Value} {xs : List α} {w : World} (hown : ORow e k enc base w v xs) (hn : xs.length + m ≤ 1000000) (hb : base ≤ w.heap.size) :
    ∃ v' w', (Builtin.append_ #[t, tn] ty #[v, .int .i64 m]).run Tryz.prog w = .ok v' w' ∧ ORow e k enc base w' v' (xs ++ List.replicate m x) ∧ Below base w w' := by
  obtain ⟨ht, i, hi, hz, hsize, hby, hzs, hk0, hbb⟩ := hE
  subst hsize hby
  have hw : IntKind.i64.wrap (m : Int) = m := by rw [IntKind.wrap_i64]; omega
  have hw0 : IntKind.i64.wrap 0 = 0 := by rw [IntKind.wrap_i64]; rfl
  have hneg : ¬ ((m : Int) < 0) := by omega
  have hbm : m * i.bytes ≤ 1000000 * 4096 := Nat.mul_le_mul (by omega) hbb
  have h48i : ¬ (281474976710656 < (m : Int) * (i.bytes : Int)) := by
    rw [← Int.natCast_mul]
    omega
  obtain ⟨news, hnews⟩ : ∃ l, (Builtin.zeroCells z.cells m).toList = l := ⟨_, rfl⟩
  have hnx := hnews.symm.trans (zero_cells hzx (hk x) hk0 m)
  have hnl : news.length = m * i.size := by rw [← hnews]; simp [Builtin.zeroCells, hzs]
  have hn1 : ∀ u ∈ news, u.oneCell' = true := by
    intro u hu
    rw [hnx] at hu
    obtain ⟨c, hc, hu⟩ := List.mem_flatten.1 hu
    obtain ⟨y, hy, rfl⟩ := List.mem_map.1 hc
    exact h1 y u hu
  have hza : Builtin.zeroCells z.cells m = news.toArray := by rw [← hnews]
  have fin : ∀ {v' : Value} {w' : World}, w'.ownsRow base e i.size v' (xs.length + m) ((xs.map enc).flatten ++ news) → ORow e i.size enc base w' v' (xs ++ List.replicate m x) := fun {v' w'} h => by
    unfold ORow
    rw [List.length_append, List.length_replicate, List.map_append, List.flatten_append, ← hnx]
    exact h
  have hlen : ((xs.map enc).flatten ++ news).length = (xs.length + m) * i.size := by rw [List.length_append, hown.1, hnl, Nat.add_mul]
  have grown : ∀ (old : Nat), old < xs.length + m →
      (w.drew.alloc (.cells (((xs.map enc).flatten).toArray ++ news.toArray ++ Builtin.zeroCells z.cells (grownCap w (xs.length + m) old e - (xs.length + m))) e)).ownsRow base e i.size
        (.slice (some ⟨w.heap.size, 0, none⟩) (xs.length + m) (grownCap w (xs.length + m) old e)) (xs.length + m) ((xs.map enc).flatten ++ news) := by
    intro old ho
    have hge := grownCap_ge w (xs.length + m) old e
    have hcm : grownCap w (xs.length + m) old e ≤ maxLen := grownCap_le_maxLen w (xs.length + m) old e (by unfold maxLen; omega)
    refine ⟨hlen, .inr ⟨w.heap.size, _, _, rfl, hb, heap_alloc_new w.drew _, hge, hcm, ?_, ?_⟩⟩
    · simp only [Array.size_append, List.size_toArray, size_zeroCells, hzs, hown.1, hnl, ← Nat.add_mul]
      rw [Nat.add_sub_cancel' hge]
    · simp only [Array.toList_append, List.append_assoc]
      rw [← List.append_assoc, ← hlen]
      exact List.take_left
  have up : ∀ o, Below base w (w.drew.alloc o) := fun o => ((Below.refl base w).drew).alloc hb o
  rcases hown.2 with ⟨rfl, hx0⟩ | ⟨g, cap, cur, rfl, hbg, hg, hnc, hcm, hcs, htake⟩
  · have hx : xs = [] := List.eq_nil_of_length_eq_zero hx0
    subst hx
    by_cases hm : m = 0
    · subst hm
      refine ⟨.slice none 0 0, w, ?_, orow_nil _ _ _ _ _, Below.refl _ _⟩
      simp [Builtin.append_, run_underlying ht, run_underlying htn, sizeOf, typeInfo, hi, asInt, asIntOf, hw0]
    · have hr := Lib.run_append_nil_zeros (P := Tryz.prog) w t tn ty e i z .i64 .i64 ht htn hi hz m (by omega) hk0 (by omega) (by omega)
      have hgr := grown 0 (by simp; omega)
      simp only [List.length_nil, Nat.zero_add, List.map_nil, List.flatten_nil, List.nil_append, Array.empty_append] at hgr
      rw [hza] at hr
      refine ⟨_, _, hr, fin ?_, up _⟩
      simpa using hgr
  · by_cases hroom : xs.length + m ≤ cap
    · have hfit : xs.length * i.size + news.length ≤ cur.size := by rw [hnl, hcs, ← Nat.add_mul]; exact Nat.mul_le_mul_right _ hroom
      have hst := run_storeCells_at Tryz.prog g (xs.length * i.size) e news 0 cur w hg (by simpa using hfit) hn1
      simp only [Nat.add_zero] at hst
      have hr : (Builtin.append_ #[t, tn] ty #[.slice (some ⟨g, 0, none⟩) xs.length cap, .int .i64 m]).run Tryz.prog w = .ok (.slice (some ⟨g, 0, none⟩) (xs.length + m) cap) (w.setRow g (cur.toList.take (xs.length * i.size) ++ news ++ cur.toList.drop (xs.length * i.size + news.length)).toArray) := by
        by_cases hm : m = 0
        · subst hm
          have hn0 : news = [] := List.eq_nil_of_length_eq_zero (by rw [hnl, Nat.zero_mul])
          subst hn0
          simp [Builtin.append_, run_underlying ht, run_underlying htn, sizeOf, typeInfo, zeroValue, hi, hz, asInt, asIntOf, hw0, hnc, Addr.add_lit, hst]
        · have hns : ¬ (m * i.size = 0) := Nat.mul_ne_zero hm (by omega)
          simp [Builtin.append_, run_underlying ht, run_underlying htn, sizeOf, typeInfo, zeroValue, hi, hz, asInt, asIntOf, hw, hneg, hns, h48i, hroom, hza, Addr.add_lit, hst]
      refine ⟨_, _, hr, fin ⟨hlen, .inr ⟨g, cap, _, rfl, hbg, setRow_heap w g cur _ e _ hg, hroom, hcm, ?_, ?_⟩⟩, ⟨rfl, rfl, rfl, by simp, fun k hk => setRow_other w g k _ (by omega)⟩⟩
      · simp only [List.size_toArray, List.length_append, List.length_take, List.length_drop, Array.length_toList]
        omega
      · rw [htake, ← hlen]
        exact List.take_left
    · have holds : ∀ j u, ((xs.map enc).flatten)[j]? = some u → w.cell? ((⟨g, 0, none⟩ : Addr).add j) = some u := World.ownsRow.cells (g := g) hown rfl
      have hm : ¬ m = 0 := by omega
      have hns : ¬ (m * i.size = 0) := Nat.mul_ne_zero hm (by omega)
      have h63' : ¬ (9223372036854775807 < ((xs.length : Int) + (m : Int))) := by omega
      have hfit := growslice_fits (need := xs.length + m) (old := cap) (bytes := i.bytes) (by omega) (Nat.le_trans (Nat.mul_le_mul hn hbb) (by decide))
      have h48' : ¬ (281474976710656 < Builtin.nextslicecap (xs.length + m) cap * i.bytes) := by omega
      have hfo := run_firstCells_some (P := Tryz.prog) w.drew i.size xs.length ⟨g, 0, none⟩ xs.length cap _ hown.1 (by simpa using holds)
      have hr : (Builtin.append_ #[t, tn] ty #[.slice (some ⟨g, 0, none⟩) xs.length cap, .int .i64 m]).run Tryz.prog w = .ok (.slice (some ⟨w.heap.size, 0, none⟩) (xs.length + m) (grownCap w (xs.length + m) cap e)) (w.drew.alloc (.cells (((xs.map enc).flatten).toArray ++ news.toArray ++ Builtin.zeroCells z.cells (grownCap w (xs.length + m) cap e - (xs.length + m))) e)) := by
        simp [Builtin.append_, run_underlying ht, run_underlying htn, sizeOf, typeInfo, zeroValue, hi, hz, asInt, asIntOf, hw, hneg, hns, h48i, hroom, h63', h48', Question.forced, hza, hfo, newRow, grownCap]
        exact congrArg (fun a => w.drew.alloc (.cells a e)) (by apply Array.ext'; simp [List.append_assoc])
      exact ⟨_, _, hr, fin (grown cap (by omega)), up _⟩
end Go.Proofs.YthfilnflgahcjaaGreatDoor

