/- Reserved names, and which words are keywords. -/
import Derived.Test.YtbjcdpenfijfoaaGreatDoorJoin7
import Derived.Laws.Tables
import Derived.Laws.Rows
namespace Go.Proofs.YtbjcdpenfijfoaaGreatDoor
open Go.RowKit Go.Shelf Go.Lexed
set_option linter.unusedVariables false
set_option linter.unusedSimpArgs false
theorem below_drewN {B : Nat} {w w1 : World} (h : Below B w w1) (n : Nat) : Below B w (w1.drewN n) := ⟨h.os, h.tape, h.output, h.size, h.block⟩
theorem is_any (k p n : Int) (t key : ByteArray) (ht : t.size ≤ 10000000000) (hk : key.size ≤ 10000000000) (w : World) :
    Calls Tryz.prog 29 #[.agg #[.int .i64 k, .int .i64 p, .string t, .int .u64 n], .string key] w fun e w' => e = .returned (.bool (decide (k = 1) && decide (lowL t.data.toList = lowL key.data.toList))) ∧ Below w.heap.size w w' := by
  have HA := hidE (fun w => alike_any t key ht hk w)
  generalize decide (lowL t.data.toList = lowL key.data.toList) = v at HA ⊢
  go_enter Tryz.func29, Tryz.ntmps29
  by_cases h : k = 1
  · subst h
    go_wp2_with fail
    refine (HA.out _).mono ?_
    rintro e w1 ⟨rfl, m, rfl⟩
    go_wp2_with fail
    go_ret
    exact ⟨rfl, below_drewN ((Below.refl _ _).alloc (Nat.le_refl _) _) _⟩
  · have h' : (k == 1) = false := ne_bool h
    rw [decide_eq_false h, Bool.false_and]
    go_wp2_with fail
    go_ret
    exact ⟨rfl, (Below.refl _ _).alloc (Nat.le_refl _) _⟩
/-- The keywords, as the program lists them. -/
def kwL : List ByteArray := [⟨#[97, 110, 100]⟩, ⟨#[97, 115]⟩, ⟨#[97, 115, 99]⟩, ⟨#[98, 121]⟩, ⟨#[99, 97, 115, 101]⟩, ⟨#[99, 111, 110, 116, 97, 105, 110, 115]⟩, ⟨#[99, 114, 101, 97, 116, 101]⟩, ⟨#[100, 101, 108, 101, 116, 101]⟩, ⟨#[100, 101, 115, 99]⟩, ⟨#[100, 101, 115, 99, 101, 110, 100, 105, 110, 103]⟩, ⟨#[97, 115, 99, 101, 110, 100, 105, 110, 103]⟩, ⟨#[100, 101, 116, 97, 99, 104]⟩, ⟨#[100, 105, 115, 116, 105, 110, 99, 116]⟩, ⟨#[101, 108, 115, 101]⟩, ⟨#[101, 110, 100]⟩, ⟨#[101, 110, 100, 115]⟩, ⟨#[102, 97, 108, 115, 101]⟩, ⟨#[105, 110]⟩, ⟨#[105, 115]⟩, ⟨#[108, 105, 109, 105, 116]⟩, ⟨#[109, 97, 116, 99, 104]⟩, ⟨#[110, 111, 116]⟩, ⟨#[110, 117, 108, 108]⟩, ⟨#[111, 110]⟩, ⟨#[111, 112, 116, 105, 111, 110, 97, 108]⟩, ⟨#[111, 114]⟩, ⟨#[111, 114, 100, 101, 114]⟩, ⟨#[114, 101, 109, 111, 118, 101]⟩, ⟨#[114, 101, 116, 117, 114, 110]⟩, ⟨#[115, 101, 116]⟩, ⟨#[115, 107, 105, 112]⟩, ⟨#[115, 116, 97, 114, 116, 115]⟩, ⟨#[116, 104, 101, 110]⟩, ⟨#[116, 114, 117, 101]⟩, ⟨#[117, 110, 119, 105, 110, 100]⟩, ⟨#[119, 104, 101, 110]⟩, ⟨#[119, 104, 101, 114, 101]⟩, ⟨#[119, 105, 116, 104]⟩, ⟨#[120, 111, 114]⟩]
def kwA : Array Value := #[Value.string ⟨#[97, 110, 100]⟩, Value.string ⟨#[97, 115]⟩, Value.string ⟨#[97, 115, 99]⟩, Value.string ⟨#[98, 121]⟩, Value.string ⟨#[99, 97, 115, 101]⟩, Value.string ⟨#[99, 111, 110, 116, 97, 105, 110, 115]⟩, Value.string ⟨#[99, 114, 101, 97, 116, 101]⟩, Value.string ⟨#[100, 101, 108, 101, 116, 101]⟩, Value.string ⟨#[100, 101, 115, 99]⟩, Value.string ⟨#[100, 101, 115, 99, 101, 110, 100, 105, 110, 103]⟩, Value.string ⟨#[97, 115, 99, 101, 110, 100, 105, 110, 103]⟩, Value.string ⟨#[100, 101, 116, 97, 99, 104]⟩, Value.string ⟨#[100, 105, 115, 116, 105, 110, 99, 116]⟩, Value.string ⟨#[101, 108, 115, 101]⟩, Value.string ⟨#[101, 110, 100]⟩, Value.string ⟨#[101, 110, 100, 115]⟩, Value.string ⟨#[102, 97, 108, 115, 101]⟩, Value.string ⟨#[105, 110]⟩, Value.string ⟨#[105, 115]⟩, Value.string ⟨#[108, 105, 109, 105, 116]⟩, Value.string ⟨#[109, 97, 116, 99, 104]⟩, Value.string ⟨#[110, 111, 116]⟩, Value.string ⟨#[110, 117, 108, 108]⟩, Value.string ⟨#[111, 110]⟩, Value.string ⟨#[111, 112, 116, 105, 111, 110, 97, 108]⟩, Value.string ⟨#[111, 114]⟩, Value.string ⟨#[111, 114, 100, 101, 114]⟩, Value.string ⟨#[114, 101, 109, 111, 118, 101]⟩, Value.string ⟨#[114, 101, 116, 117, 114, 110]⟩, Value.string ⟨#[115, 101, 116]⟩, Value.string ⟨#[115, 107, 105, 112]⟩, Value.string ⟨#[115, 116, 97, 114, 116, 115]⟩, Value.string ⟨#[116, 104, 101, 110]⟩, Value.string ⟨#[116, 114, 117, 101]⟩, Value.string ⟨#[117, 110, 119, 105, 110, 100]⟩, Value.string ⟨#[119, 104, 101, 110]⟩, Value.string ⟨#[119, 104, 101, 114, 101]⟩, Value.string ⟨#[119, 105, 116, 104]⟩, Value.string ⟨#[120, 111, 114]⟩]
theorem kwA_eq : kwA = (kwL.map Value.string).toArray := rfl
theorem kwA_at {q : Nat} {K : ByteArray} (h : kwL[q]? = some K) : kwA[q]? = some (.string K) := by
  rw [kwA_eq]; simp [h]
theorem kwA_size : kwA.size = 39 := rfl
theorem index_kw {A : Array Value} {q : Nat} {K : ByteArray} (hq : q < 39) (hA : A[q]? = some (.string K)) (W : World) : (Instr.index 67 (.agg A) (.int .i64 (q : Int))).run Tryz.prog W = .ok (.string K) W := by
  have h1 : (0 : Int) ≤ q ∧ (q : Int) < 39 := by omega
  simp [Instr.index, run_underlying Tryz.underlying67, asIntOf, h1, go_sem]
  rw [if_pos hq, hA]
  rfl
section
variable {ops : Array Oper} {rest : List Oper} {o : Oper} {a : Act} {w : World} {Q : Exit → Act → World → Prop}
/-- A table that is built of constants. -/
theorem table_build {t : TypeId} {cells : Array Value} (hg : o.guard = none) (parts : Array (Nat × Operand)) (ho : o.op = .build t parts) (hf : Tryz.prog.built t (parts.map fun (i, x) => (i, a.eval x)).toList = some cells)
    (h : wpList Tryz.prog ops Q rest (a.put o.dst (.agg cells)) w) : wpList Tryz.prog ops Q (o :: rest) a w :=
  wpList_build hg t parts ho (by rw [hf]; rfl) (by rw [hf]; exact h)
theorem setRow_alloc (w : World) (old cs : Array Value) (t : TypeId) : (w.alloc (.cells old t)).setRow w.heap.size cs = w.alloc (.cells cs t) := by
  unfold World.setRow World.alloc
  cases w with
  | mk heap tape drawn os output =>
    congr 1
    apply Array.ext
    · simp
    · intro k h1 h2
      simp only [Array.getElem_modify, Array.getElem_push]
      split
      · rename_i hk; subst hk; simp
      · rename_i hk
        split
        · rfl
        · rename_i h3; simp at h1; omega
/-- .. and is laid into its new block. -/
theorem table_store {t : TypeId} {cells old : Array Value} (hg : o.guard = none) (x y : Operand) (ho : o.op = .store t x y) (hx : a.eval x = .pointer (some ⟨w.heap.size, 0, none⟩)) (hy : a.eval y = .agg cells)
    (hi : (Tryz.prog.info? t).map (·.size) = some cells.size) (hold : old.size = cells.size) (h1 : cells.all (·.oneCell') = true)
    (h : wpList Tryz.prog ops Q rest (a.put o.dst undef) (w.alloc (.cells cells t))) : wpList Tryz.prog ops Q (o :: rest) a (w.alloc (.cells old t)) :=
  wpList_store_row hg t x y ho w.heap.size cells hx hy t old (World.alloc_heap_new _ _) hi hold h1 (by rw [setRow_alloc]; exact h)
/-- .. and read out of it. -/
theorem table_load {t : TypeId} {cells : Array Value} {n : Nat} {e : TypeId} (hg : o.guard = none) (x : Operand) (ho : o.op = .load t x) (g : Nat) (hx : a.eval x = .pointer (some ⟨g, 0, none⟩)) (hc : w.heap[g]? = some (.cells cells t (0, 0)))
    (hu : Tryz.prog.underlying t = some (.array n e)) (hi : (Tryz.prog.info? t).map (·.size) = some cells.size)
    (h : wpList Tryz.prog ops Q rest (a.put o.dst (.agg cells)) w) : wpList Tryz.prog ops Q (o :: rest) a w :=
  wpList_plain hg fun _ hK => wp_load_row t x ho g hx t cells (0, 0) (.array n e) hc hu rfl hi (hK _ _ h)
end
theorem kw_info : (Tryz.prog.info? 67).map (·.size) = some kwA.size := by kernel_rfl
theorem kw_one : kwA.all (·.oneCell') = true := by kernel_rfl
theorem kw_new (w : World) : (w.alloc (.cells kwA 67)).heap[w.heap.size]? = some (.cells kwA 67 (0, 0)) := World.alloc_heap_new _ _
/-- Is a text a keyword? -/
def resB (l : List UInt8) : Bool := kwL.any fun K => decide (lowL l = lowL K.data.toList)
theorem kw_small : ∀ K ∈ kwL, K.size ≤ 100 := by decide
theorem any_step {α : Type} (p : α → Bool) {l : List α} {q : Nat} {x : α} (h : l[q]? = some x) : (l.drop q).any p = (p x || (l.drop (q + 1)).any p) := by
  obtain ⟨hq, rfl⟩ := List.getElem?_eq_some_iff.1 h
  rw [List.drop_eq_getElem_cons hq, List.any_cons]
set_option maxRecDepth 100000 in
set_option maxHeartbeats 4000000 in
theorem res_any (s : ByteArray) (hs : s.size ≤ 10000000000) (w : World) : Calls Tryz.prog 25 #[.string s] w fun e w' => e = .returned (.bool (resB s.data.toList)) ∧ Below w.heap.size w w' := by
  have HV : Hid (resB s.data.toList = (kwL.drop 0).any fun K => decide (lowL s.data.toList = lowL K.data.toList)) := rfl
  generalize resB s.data.toList = v at HV ⊢
  obtain ⟨A, hA⟩ : ∃ A, A = kwA := ⟨_, rfl⟩
  have HA := hidE hA
  have hn : (w.alloc (.cells A 67)).heap[w.heap.size]? = some (.cells A 67 (0, 0)) := World.alloc_heap_new _ _
  have hi : (Tryz.prog.info? 67).map (·.size) = some A.size := by rw [hA]; exact kw_info
  have ho : A.all (·.oneCell') = true := by rw [hA]; exact kw_one
  have hz : (39 : Nat) = A.size := by rw [hA]; rfl
  have HI := hidE hi
  have HO := hidE ho
  have HN := hidE hn
  have HZ := hidE hz
  clear hA hn hi ho hz
  go_enter Tryz.func25, Tryz.ntmps25
  go_wp2_with (first
    | (refine table_build (cells := A) rfl _ rfl (by rw [HA.out]; as_aux_lemma => kernel_rfl) ?_)
    | (refine table_store (cells := A) rfl _ _ rfl rfl rfl HI.out HZ.out HO.out ?_)
    | (refine table_load (cells := A) rfl _ rfl w.heap.size rfl HN.out Tryz.underlying67 HI.out ?_))
  clear HI HO HN HZ
  have HB : Hid (Below w.heap.size w (w.alloc (.cells A 67))) := (Below.refl _ _).alloc (Nat.le_refl _) _
  generalize w.alloc (.cells A 67) = W at HB ⊢
  go_loopw [8] (fun x wr => ∃ q : Nat, q ≤ 39 ∧ x = .int .i64 q ∧ (∃ m, wr = W.drewN m) ∧ v = (kwL.drop q).any fun K => decide (lowL s.data.toList = lowL K.data.toList)) (fun x _ => 39 - (intOf x).toNat)
  case atStart => exact ⟨0, by omega, rfl, ⟨0, rfl⟩, HV.out⟩
  case round =>
    obtain ⟨q, hq, rfl, hw, hv⟩ := hrel
    have HW := hidE hw
    have HX := hidE hv
    clear hw hv
    by_cases hlt : q < 39
    · have hlt' : (q : Int) < 39 := by omega
      obtain ⟨K, hK⟩ : ∃ K, kwL[q]? = some K := ⟨_, List.getElem?_eq_getElem (by exact hlt)⟩
      have hidx := index_kw hlt (show A[q]? = some (.string K) by rw [HA.out]; exact kwA_at hK) wr
      have HS := hidE (any_step (fun K : ByteArray => decide (lowL s.data.toList = lowL K.data.toList)) hK)
      have hKs := kw_small K (List.mem_of_getElem? hK)
      have HC := hidE (fun w => alike_any s K hs (by omega) w)
      clear hK hKs
      generalize decide (lowL s.data.toList = lowL K.data.toList) = b at HC HS
      go_wp2_with fail
      refine (HC.out _).mono ?_
      rintro e w1 ⟨rfl, m, rfl⟩
      cases b with
      | true =>
        have HN : Hid (v = true) := by show _ = _; rw [HX.out, HS.out]; rfl
        go_wp2_with fail
        go_ret
        rw [HN.out]
        obtain ⟨m', e⟩ := HW.out
        exact ⟨rfl, by rw [e]; exact below_drewN (below_drewN HB.out _) _⟩
      | false =>
        have HN : Hid (v = (kwL.drop (q + 1)).any fun K => decide (lowL s.data.toList = lowL K.data.toList)) := by show _ = _; rw [HX.out, HS.out]; rfl
        go_wp2_with fail
        go_roundw
        case rel => exact ⟨q + 1, by omega, by go_num, drew_on HW.out _, HN.out⟩
        case measure => simp [intOf]; omega
    · have hlt' : ¬ (q : Int) < 39 := by omega
      have HN : Hid (v = false) := by
        show _ = _
        rw [HX.out, List.drop_eq_nil_of_le (by show 39 ≤ q; omega)]; rfl
      go_wp2_with fail
      go_ret
      rw [HN.out]
      obtain ⟨m', e⟩ := HW.out
      exact ⟨rfl, by rw [e]; exact below_drewN HB.out _⟩
end Go.Proofs.YtbjcdpenfijfoaaGreatDoor
