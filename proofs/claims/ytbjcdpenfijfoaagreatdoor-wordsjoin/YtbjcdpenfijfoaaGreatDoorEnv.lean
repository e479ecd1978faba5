/- What the library's own variables hold, and that it stays. -/
import Derived.Test.YtbjcdpenfijfoaaGreatDoorPass
import Derived.Test.YtbjcdpenfijfoaaGreatDoorShelf
namespace Go.Proofs.YtbjcdpenfijfoaaGreatDoor
open Go.RowKit Go.Shelf Go.Lexed
set_option linter.unusedVariables false
set_option linter.unusedSimpArgs false
theorem gPow : Tryz.prog.globalNamed "internal/strconv.uint64pow10" = some 3 := by kernel_rfl
/-- An error's variable holds an error, or none. -/
def ErrAt (w : World) (g : Nat) : Prop := ∃ ev : Value, w.cell? ⟨g, 0, none⟩ = some ev ∧ (ev = .nilIface ∨ ∃ te pe, ev = .iface te pe)
structure Env (w : World) : Prop where
  room : 8 ≤ w.heap.size
  tabs : Lib.Utf8Tabs (Tryz.laysValid_ren.g 3) (Tryz.laysValid_ren.g 4) w
  ml : ∃ m, w.cell? ⟨2, 0, none⟩ = some (.int .i64 m)
  pow : Lib.TabIs Tryz.prog w "internal/strconv.uint64pow10" .u64 Lib.pow10Tab
  syn : ErrAt w 4
  rng : ErrAt w 5
theorem Env.keep {w w' : World} (h : Env w) (hk : ∀ k, k < 8 → w'.heap[k]? = w.heap[k]?) (hs : 8 ≤ w'.heap.size) : Env w' := by
  have hc : ∀ p : Addr, p.block < 8 → w'.cell? p = w.cell? p := fun p hp => World.cell?_of_block (hk _ hp)
  refine ⟨hs, ⟨fun c hb => ?_, fun i hi => ⟨?_, ?_⟩⟩, ?_, ?_, ?_, ?_⟩
  · rw [hc _ (by show 0 < 8; decide)]; exact h.tabs.1 c hb
  · rw [hc _ (by show 1 < 8; decide)]; exact (h.tabs.2 i hi).1
  · rw [hc _ (by show 1 < 8; decide)]; exact (h.tabs.2 i hi).2
  · rw [hc _ (by show 2 < 8; decide)]; exact h.ml
  · have := h.pow
    unfold Lib.TabIs World.var? at this ⊢
    rw [gPow] at this ⊢
    simp only [Option.bind_some, hk 3 (by decide)] at this ⊢
    exact this
  · unfold ErrAt; rw [hc _ (by show 4 < 8; decide)]; exact h.syn
  · unfold ErrAt; rw [hc _ (by show 5 < 8; decide)]; exact h.rng
theorem Env.below {w w' : World} {B : Nat} (h : Env w) (hb : Below B w w') (hB : 8 ≤ B) : Env w' := h.keep (fun k hk => hb.block k (by omega)) (Nat.le_trans h.room hb.size)
theorem Env.drewN {w : World} (h : Env w) (n : Nat) : Env (w.drewN n) := h.keep (fun _ _ => rfl) h.room
theorem Env.fr {w w' : World} {a B : Nat} (h : Env w) (hf : Fr a B w w') (ha : 8 ≤ a) (hB : 8 ≤ B) : Env w' := h.keep (fun k hk => hf.block k (by omega) (by omega)) (Nat.le_trans h.room hf.size)
theorem valid_any (s : ByteArray) (hs : s.size ≤ 10000000000) (w : World) (hE : Env w) : Calls Tryz.prog 42 #[.string s] w fun e w' => e = .returned (.bool (Lib.validD s.data.toList)) ∧ Below w.heap.size w w' :=
  Any.utf8_ValidString Tryz.laysValid s w (by omega) hE.tabs
end Go.Proofs.YtbjcdpenfijfoaaGreatDoor
