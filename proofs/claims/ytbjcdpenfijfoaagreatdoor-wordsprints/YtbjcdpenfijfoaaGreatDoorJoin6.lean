/- The reader of a text, and what stays while it reads. The reader goes over letters and digits. -/
import Derived.Test.YtbjcdpenfijfoaaGreatDoorJoin5
import Derived.RegionDies
namespace Go.Proofs.YtbjcdpenfijfoaaGreatDoor
open Go.RowKit Go.Shelf Go.Lexed
set_option linter.unusedVariables false
set_option linter.unusedSimpArgs false
/-- Nothing below B has turned but block a. -/
structure Fr (a B : Nat) (w w' : World) : Prop where
  os : w'.os = w.os
  tape : w'.tape = w.tape
  output : w'.output = w.output
  size : w.heap.size ≤ w'.heap.size
  block : ∀ k, k < B → k ≠ a → w'.heap[k]? = w.heap[k]?
theorem Fr.refl (a B : Nat) (w : World) : Fr a B w w := ⟨rfl, rfl, rfl, Nat.le_refl _, fun _ _ _ => rfl⟩
theorem Fr.trans {a B : Nat} {w w1 w2 : World} (h : Fr a B w w1) (k : Fr a B w1 w2) : Fr a B w w2 :=
  ⟨k.os.trans h.os, k.tape.trans h.tape, k.output.trans h.output, Nat.le_trans h.size k.size, fun i hi ha => (k.block i hi ha).trans (h.block i hi ha)⟩
theorem Fr.mono {a B C : Nat} {w w' : World} (h : Fr a B w w') (hC : C ≤ B) : Fr a C w w' := ⟨h.os, h.tape, h.output, h.size, fun i hi => h.block i (by omega)⟩
theorem Fr.of_below {a B : Nat} {w w' : World} (h : Below B w w') : Fr a B w w' := ⟨h.os, h.tape, h.output, h.size, fun i hi _ => h.block i hi⟩
theorem Fr.set {a B : Nat} {w w' : World} (h : Fr a B w w') {p : Addr} (hp : p.block = a) (u : Value) : Fr a B w (w'.setCell p u) :=
  ⟨h.os, h.tape, h.output, (by simp [World.setCell]; exact h.size), fun i hi ha => (Below.heap_setCell _ _ _ _ (by rw [hp]; exact ha)).trans (h.block i hi ha)⟩
theorem Fr.put {a B : Nat} {w w' : World} (h : Fr a B w w') (c : Nat) (u : Value) : Fr a B w (w'.setCell ⟨a, c, none⟩ u) := h.set rfl u
theorem Fr.alloc {a B : Nat} {w w' : World} (h : Fr a B w w') (hB : B ≤ w'.heap.size) (o : Obj) : Fr a B w (w'.alloc o) :=
  ⟨h.os, h.tape, h.output, Nat.le_trans h.size (by simp), fun i hi ha => (Below.heap_alloc _ _ _ (by omega)).trans (h.block i hi ha)⟩
theorem Fr.drew {a B : Nat} {w w' : World} (h : Fr a B w w') : Fr a B w w'.drew := ⟨h.os, h.tape, h.output, h.size, h.block⟩
theorem Fr.drewN {a B : Nat} {w w' : World} (h : Fr a B w w') (n : Nat) : Fr a B w (w'.drewN n) := ⟨h.os, h.tape, h.output, h.size, h.block⟩
theorem Fr.cell {a B : Nat} {w w' : World} (h : Fr a B w w') {p : Addr} (h1 : p.block < B) (h2 : p.block ≠ a) : w'.cell? p = w.cell? p := World.cell?_of_block (h.block _ h1 h2)
/-- Where the block is new, nothing that was there has turned. -/
theorem Fr.below {a B : Nat} {w w' : World} (h : Fr a B w w') {C : Nat} (hC : C ≤ B) (ha : C ≤ a) : Below C w w' := ⟨h.os, h.tape, h.output, h.size, fun i hi => h.block i (by omega) (by omega)⟩

/-- What a reader is: its text, up to where it is read, where what is under way begins. -/
def Rd (w : World) (a : Nat) (s : ByteArray) (k b : Nat) : Prop := w.heap[a]? = some (.cells #[.string s, .int .i64 (k : Int), .int .i64 (b : Int)] 69 (0, 0))
section
variable {w : World} {a : Nat} {s : ByteArray} {k b : Nat}
theorem Rd.lt (h : Rd w a s k b) : a < w.heap.size := (Array.getElem?_eq_some_iff.1 h).1
theorem Rd.c0 (h : Rd w a s k b) : w.cell? ⟨a, 0, none⟩ = some (.string s) := by simp [World.cell?, show w.heap[a]? = _ from h]
theorem Rd.c1 (h : Rd w a s k b) : w.cell? ⟨a, 1, none⟩ = some (.int .i64 (k : Int)) := by simp [World.cell?, show w.heap[a]? = _ from h]
theorem Rd.c2 (h : Rd w a s k b) : w.cell? ⟨a, 2, none⟩ = some (.int .i64 (b : Int)) := by simp [World.cell?, show w.heap[a]? = _ from h]
theorem Rd.z1 (h : Rd w a s k b) : w.frozen? ⟨a, 1, none⟩ = false := by simp [World.frozen?, show w.heap[a]? = _ from h]
theorem Rd.z2 (h : Rd w a s k b) : w.frozen? ⟨a, 2, none⟩ = false := by simp [World.frozen?, show w.heap[a]? = _ from h]
theorem Rd.drewN (h : Rd w a s k b) (n : Nat) : Rd (w.drewN n) a s k b := h
theorem Rd.kept {w' : World} (h : Rd w a s k b) (e : w'.heap[a]? = w.heap[a]?) : Rd w' a s k b := e.trans h
theorem Rd.below {w' : World} {B : Nat} (h : Rd w a s k b) (hb : Below B w w') (hB : a < B) : Rd w' a s k b := (hb.block a hB).trans h
theorem Rd.at (h : Rd w a s k b) (q : Nat) (z : Int) (hz : z = q) : Rd (w.setCell ⟨a, 1, none⟩ (.int .i64 z)) a s q b := by
  subst hz
  have hl := h.lt
  unfold Rd at h ⊢
  have e : w.heap[a] = .cells #[.string s, .int .i64 (k : Int), .int .i64 (b : Int)] 69 (0, 0) := by
    rw [Array.getElem?_eq_getElem hl] at h; exact Option.some.inj h
  simp [World.setCell, hl, Array.getElem_modify, e]
theorem Rd.begin (h : Rd w a s k b) (q : Nat) (z : Int) (hz : z = q) : Rd (w.setCell ⟨a, 2, none⟩ (.int .i64 z)) a s k q := by
  subst hz
  have hl := h.lt
  unfold Rd at h ⊢
  have e : w.heap[a] = .cells #[.string s, .int .i64 (k : Int), .int .i64 (b : Int)] 69 (0, 0) := by
    rw [Array.getElem?_eq_getElem hl] at h; exact Option.some.inj h
  simp [World.setCell, hl, Array.getElem_modify, e]
end
/-- How a word that can't be read is given up. -/
def gaveUp : Ending := .panicked [{ v := .iface 24 (.int .i64 130), recovered := false }]
theorem need_true (w : World) : Calls Tryz.prog 72 #[.bool true] w fun e w' => e = .returned (.tuple #[]) ∧ w' = w := by
  go_enter Tryz.func72, Tryz.ntmps72
  go_wp2_with fail
  go_end0
  exact ⟨rfl, rfl⟩
theorem need_false (w : World) : Calls Tryz.prog 72 #[.bool false] w fun e w' => e = gaveUp ∧ w' = w := by
  go_enter Tryz.func72, Tryz.ntmps72
  go_wp2_with fail
  exact ⟨rfl, rfl, rfl⟩
theorem need_any (so : Bool) (w : World) : Calls Tryz.prog 72 #[.bool so] w fun e w' => e = (if so then .returned (.tuple #[]) else gaveUp) ∧ w' = w := by
  cases so
  · exact need_false w
  · exact need_true w
/-- The next bytes; nothing, if there are fewer. -/
def aheadB (s : ByteArray) (k n : Nat) : ByteArray := if s.size - k < n then ⟨#[]⟩ else s.extract k (k + n)
theorem ahead_any (a : Nat) (s : ByteArray) (k b n : Nat) (w : World) (h : Rd w a s k b) (hk : k ≤ s.size) (hs : s.size ≤ 10000000000) (hn : n ≤ 1000) (hn0 : 0 < n) :
    Calls Tryz.prog 77 #[.pointer (some ⟨a, 0, none⟩), .int .i64 (n : Int)] w fun e w' => e = .returned (.string (aheadB s k n)) ∧ ∃ m, w' = w.drewN m := by
  have c0 := h.c0
  have c1 := h.c1
  unfold aheadB
  go_enter Tryz.func77, Tryz.ntmps77
  by_cases hl : s.size - k < n
  · rw [if_pos hl]
    have hl' : (s.size : Int) - k < n := by omega
    go_wp2_with fail
    go_quiet (fail)
    go_wp2_with fail
    go_ret
    exact ⟨rfl, _, rfl⟩
  · rw [if_neg hl]
    have hl' : ¬ (s.size : Int) - k < n := by omega
    have h1 : (k : Int) + n ≤ s.size := by omega
    have h2 : (k : Int) ≤ k + n := by omega
    have h3 : (0 : Int) ≤ k := by omega
    go_wp2_with fail
    go_quiet (fail)
    go_wp2_with fail
    go_quiet (fail)
    go_wp2_with fail
    go_ret
    exact ⟨rfl, _, World.drewN_drewN _ _ _⟩
theorem next_any (a : Nat) (s : ByteArray) (k b : Nat) (w : World) (h : Rd w a s k b) (hk : k < s.size) (hs : s.size ≤ 10000000000) :
    Calls Tryz.prog 87 #[.pointer (some ⟨a, 0, none⟩)] w fun e w' => e = .returned (.int .u8 (s[k].toNat : Int)) ∧ ∃ m, w' = w.drewN m := by
  have c0 := h.c0
  have c1 := h.c1
  have hl' : (k : Int) < s.size := by omega
  go_enter Tryz.func87, Tryz.ntmps87
  go_wp2_with fail
  go_quiet ((go_at_call 72; exact Calls.quiet_of_same (need_true _)))
  go_wp2_with fail
  go_quiet (fail)
  go_wp2_with fail
  go_ret
  exact ⟨rfl, _, World.drewN_drewN _ _ _⟩
theorem next_end (a : Nat) (s : ByteArray) (k b : Nat) (w : World) (h : Rd w a s k b) (hk : ¬ k < s.size) (hs : s.size ≤ 10000000000) :
    Calls Tryz.prog 87 #[.pointer (some ⟨a, 0, none⟩)] w fun e w' => e = gaveUp ∧ ∃ m, w' = w.drewN m := by
  have c0 := h.c0
  have c1 := h.c1
  have hl' : ¬ (k : Int) < s.size := by omega
  go_enter Tryz.func87, Tryz.ntmps87
  go_wp2_with fail
  go_region_dies
  all_goals (refine (need_false _).mono ?_; rintro e w1 ⟨rfl, rfl⟩; exact ⟨rfl, rfl, 1, rfl⟩)
end Go.Proofs.YtbjcdpenfijfoaaGreatDoor

namespace Go.Proofs.YtbjcdpenfijfoaaGreatDoor
open Go.RowKit Go.Shelf Go.Lexed
set_option linter.unusedVariables false
set_option linter.unusedSimpArgs false
/-- Up to where a reader has read. -/
def atOf (w : World) (a : Nat) : Nat := match w.cell? ⟨a, 1, none⟩ with
  | some (.int _ z) => z.toNat
  | _ => 0
theorem Rd.upTo {w : World} {a : Nat} {s : ByteArray} {k b : Nat} (h : Rd w a s k b) : atOf w a = k := by simp [atOf, h.c1]
set_option maxHeartbeats 2000000 in
theorem run_any (a : Nat) (s : ByteArray) (k b : Nat) (w : World) (h : Rd w a s k b) (hk : k ≤ s.size) (hs : s.size ≤ 10000000000) :
    Calls Tryz.prog 71 #[.pointer (some ⟨a, 0, none⟩)] w fun e w' => e = .returned (.string (bsOf ((suf s k).takeWhile isLD))) ∧ ∃ j : Nat, k ≤ j ∧ j ≤ s.size ∧ suf s j = (suf s k).dropWhile isLD ∧ Rd w' a s j b ∧ Fr a w.heap.size w w' := by
  have HV : Hid (∀ q, k ≤ q → (s.extract k q).data.toList.all isLD = true → (∀ c ∈ (suf s q).head?, isLD c = false) → bsOf ((suf s k).takeWhile isLD) = s.extract k q ∧ suf s q = (suf s k).dropWhile isLD) := fun q hq ha he => by
    obtain ⟨e1, e2⟩ := run_to hq ha he
    exact ⟨by rw [e1, of_bs], e2.symm⟩
  generalize bsOf ((suf s k).takeWhile isLD) = V at HV ⊢
  generalize (suf s k).dropWhile isLD = D at HV ⊢
  have c1 := h.c1
  have H := hidE h
  go_enter Tryz.func71, Tryz.ntmps71
  go_wp2_with fail
  clear c1 h
  go_loopw [] (fun wr => ∃ q : Nat, k ≤ q ∧ q ≤ s.size ∧ Rd wr a s q b ∧ Fr a w.heap.size w wr ∧ (s.extract k q).data.toList.all isLD = true) (fun wr => s.size - atOf wr a)
  case atStart => exact ⟨k, Nat.le_refl _, hk, H.out, Fr.refl _ _ _, by simp [ext_list]⟩
  case round =>
    obtain ⟨q, hkq, hq, hr, hf, hall⟩ := hrel
    have HR := hidE hr
    have HF := hidE hf
    have HA := hidE hall
    have c0 := hr.c0
    have c1 := hr.c1
    have z1 := hr.z1
    clear hr hf hall
    by_cases hlt : q < s.size
    · have hlt' : (q : Int) < s.size := by omega
      obtain ⟨m, hm⟩ : ∃ m, s[q].toNat = m := ⟨_, rfl⟩
      have hm' : (s[q].toNat : Int) = m := by rw [hm]
      have hm2 : m < 256 := by rw [← hm]; exact s[q].toNat_lt
      have HM := hidE hm
      clear hm
      have HLet := hidE (fun w => letter_any m hm2 w)
      have HDig := hidE (fun w => digit_any m hm2 w)
      have HN : Hid (isLD s[q] = (letN m || digN m)) := by show _ = _; rw [isLD_let, HM.out]
      have HX : Hid (isLD s[q] = true → (s.extract k (q + 1)).data.toList.all isLD = true) := fun hx => by
        rw [ext_snoc hkq hlt, List.all_append, HA.out]; simp [hx]
      have HY : Hid (isLD s[q] = false → V = s.extract k q ∧ suf s q = D) := fun hx => HV.out q hkq HA.out (fun c hc => by rw [head_suf hlt c hc]; exact hx)
      have h0 : (0 : Int) ≤ k := by omega
      have h1 : (k : Int) ≤ q := by omega
      have h2 : (q : Int) ≤ s.size := by omega
      cases hl : letN m with
      | true =>
        have HX2 := hidE (HX.out (by rw [HN.out, hl]; rfl))
        rw [hl] at HLet
        go_wp2_with fail
        go_quiet ((go_at_call 70; exact Calls.quiet_of_same (HLet.out _)))
        go_wp2_with fail
        go_roundw
        case rel => exact ⟨q + 1, by omega, by omega, (HR.out.drewN _).at (q + 1) _ (by go_num), (HF.out.drewN _).put _ _, HX2.out⟩
        case measure => rw [Rd.upTo ((HR.out.drewN _).at (q + 1) _ (by go_num)), HR.out.upTo]; omega
      | false =>
        rw [hl] at HLet
        cases hd : digN m with
        | true =>
          have HX2 := hidE (HX.out (by rw [HN.out, hl, hd]; rfl))
          rw [hd] at HDig
          go_wp2_with fail
          go_quiet ((first | (go_at_call 70; exact Calls.quiet_of_same (HLet.out _)) | (go_at_call 75; exact Calls.quiet_of_same (HDig.out _))))
          go_wp2_with fail
          go_roundw
          case rel => exact ⟨q + 1, by omega, by omega, (HR.out.drewN _).at (q + 1) _ (by go_num), (HF.out.drewN _).put _ _, HX2.out⟩
          case measure => rw [Rd.upTo ((HR.out.drewN _).at (q + 1) _ (by go_num)), HR.out.upTo]; omega
        | false =>
          have HY2 := hidE (HY.out (by rw [HN.out, hl, hd]; rfl))
          rw [hd] at HDig
          go_wp2_with fail
          go_quiet ((first | (go_at_call 70; exact Calls.quiet_of_same (HLet.out _)) | (go_at_call 75; exact Calls.quiet_of_same (HDig.out _))))
          go_wp2_with fail
          go_quiet (fail)
          go_wp2_with fail
          go_ret
          refine ⟨?_, q, hkq, hq, HY2.out.2, (HR.out.drewN _).drewN _, (HF.out.drewN _).drewN _⟩
          rw [HY2.out.1]
          rfl
    · have hlt' : ¬ (q : Int) < s.size := by omega
      have HY2 := hidE (HV.out q hkq HA.out (head_end (by omega)))
      have h0 : (0 : Int) ≤ k := by omega
      have h1 : (k : Int) ≤ q := by omega
      have h2 : (q : Int) ≤ s.size := by omega
      have hlt2 : decide ((q : Int) < s.size) = false := decide_eq_false hlt'
      go_wp2_with fail
      go_quiet (fail)
      go_wp2_with fail
      go_quiet (fail)
      go_wp2_with fail
      go_ret
      refine ⟨?_, q, hkq, hq, HY2.out.2, (HR.out.drewN _).drewN _, (HF.out.drewN _).drewN _⟩
      rw [HY2.out.1]
      rfl
end Go.Proofs.YtbjcdpenfijfoaaGreatDoor

