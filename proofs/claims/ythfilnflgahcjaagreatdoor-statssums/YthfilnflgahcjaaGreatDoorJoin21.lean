/- Values numbered by their texts as they come (numbering 96, 126); what a text is, is handed in. A key's counts, numbered. Worths: a key's row and a value's number, as a key of a map; the map that counts them. Counts gathered one behind the other; the labels of a node; what begins and ends where. -/
import Derived.Test.YthfilnflgahcjaaGreatDoorJoin20
import Derived.Test.YthfilnflgahcjaaGreatDoorJoin3
import Derived.Test.YthfilnflgahcjaaGreatDoorJoin9
namespace Go.Proofs.YthfilnflgahcjaaGreatDoor
open Go.RowKit Go.Shelf Go.Maps
set_option linter.unusedVariables false
set_option linter.unusedSimpArgs false
attribute [local go_sem] Oper.semAt_some
theorem map187 : Tryz.prog.underlying 187 = some (.map 9 3) := by kernel_rfl
theorem mg_len {α : Type} {kt : TypeId} {enc : α → Value} {ok : α → Prop} {t e ty : TypeId} (ht : Tryz.prog.underlying t = some (.map kt e)) {w : World} {b : Nat} {es : List (α × Value)} (h : MG enc ok w b es) : (Builtin.len_ #[t] ty #[.map (some b)]).run Tryz.prog w = .ok (.int .i64 es.length) w := by
  obtain ⟨ar, clock, h1, h2, h3, hS⟩ := h
  have hl : ar.size = es.length := by have := congrArg List.length h2; simpa using this
  simp [Builtin.len_, run_underlying ht, MapKept.run_getObj_map h1, hl, goInt, Builtin.lenOf, Result.andThen]
/-- Texts with their places. -/
def placed : List ByteArray → Nat → List (ByteArray × Value)
  | [], _ => []
  | t :: r, i => (t, .int .i64 i) :: placed r (i + 1)
theorem placed_snoc (t : ByteArray) : ∀ (ts : List ByteArray) (i : Nat), placed (ts ++ [t]) i = placed ts i ++ [(t, .int .i64 ((i + ts.length : Nat) : Int))]
  | [], i => by simp [placed]
  | a :: r, i => by simp only [List.cons_append, placed, placed_snoc t r (i + 1), List.length_cons]; rw [show i + 1 + r.length = i + (r.length + 1) by omega]
theorem placed_len : ∀ (ts : List ByteArray) (i : Nat), (placed ts i).length = ts.length
  | [], i => rfl
  | a :: r, i => by simp [placed, placed_len r]
/-- Where a text stands. -/
def posOf (t : ByteArray) : List ByteArray → Nat
  | [] => 0
  | a :: r => if a = t then 0 else posOf t r + 1
theorem placed_mem {t : ByteArray} {v : Value} : ∀ {ts : List ByteArray} {i : Nat}, (t, v) ∈ placed ts i → t ∈ ts
  | [], i, h => by simp [placed] at h
  | a :: r, i, h => by
    rcases List.mem_cons.1 h with h | h
    · rw [(Prod.mk.inj h).1]; exact List.mem_cons_self
    · exact List.mem_cons_of_mem _ (placed_mem h)
theorem placed_hit {t : ByteArray} : ∀ {ts : List ByteArray} {i : Nat}, ts.Nodup → t ∈ ts → (t, Value.int .i64 ((i + posOf t ts : Nat) : Int)) ∈ placed ts i ∧ ∀ p ∈ placed ts i, p.1 = t → p.2 = .int .i64 ((i + posOf t ts : Nat) : Int)
  | [], i, _, h => by simp at h
  | a :: r, i, hn, h => by
    obtain ⟨h1, h2⟩ := List.nodup_cons.1 hn
    by_cases e : a = t
    · subst e
      simp only [posOf, if_true, placed, Nat.add_zero]
      refine ⟨List.mem_cons_self, fun p hp hpt => ?_⟩
      rcases List.mem_cons.1 hp with rfl | hp
      · rfl
      · exact absurd (placed_mem (t := p.1) (v := p.2) hp) (by rw [hpt]; exact h1)
    · have hr : t ∈ r := (List.mem_cons.1 h).resolve_left (fun h => e h.symm)
      obtain ⟨q1, q2⟩ := placed_hit (i := i + 1) h2 hr
      simp only [posOf, if_neg e, placed]
      rw [show i + (posOf t r + 1) = i + 1 + posOf t r by omega]
      refine ⟨List.mem_cons_of_mem _ q1, fun p hp hpt => ?_⟩
      rcases List.mem_cons.1 hp with rfl | hp
      · exact absurd hpt e
      · exact q2 p hp hpt
theorem posOf_new {t : ByteArray} : ∀ {ts : List ByteArray}, t ∉ ts → posOf t ts = ts.length
  | [], _ => rfl
  | a :: r, h => by
    rw [posOf, if_neg (fun e => h (by rw [e]; exact List.mem_cons_self)), posOf_new (fun h' => h (List.mem_cons_of_mem _ h'))]; rfl
theorem posOf_lt {t : ByteArray} : ∀ {ts : List ByteArray}, t ∈ ts → posOf t ts < ts.length
  | [], h => by simp at h
  | a :: r, h => by
    rw [posOf]
    split
    · simp
    · rename_i e
      have := posOf_lt ((List.mem_cons.1 h).resolve_left (fun h => e h.symm))
      simp; omega
/-- Texts, and one that may be new. -/
def withT (t : ByteArray) (ts : List ByteArray) : List ByteArray := if posOf t ts < ts.length then ts else ts ++ [t]
theorem withT_old {t : ByteArray} {ts : List ByteArray} (h : t ∈ ts) : withT t ts = ts := if_pos (posOf_lt h)
theorem withT_new {t : ByteArray} {ts : List ByteArray} (h : t ∉ ts) : withT t ts = ts ++ [t] := if_neg (by rw [posOf_new h]; omega)
set_option maxRecDepth 100000 in
theorem numbering_any (w : World) : Calls Tryz.prog 96 #[] w fun e w' => ∃ bx m, e = .returned (.func (.func 126) #[] #[.pointer (some ⟨bx, 0, none⟩)]) ∧ Rec w' bx #[.map (some m)] 187 ∧ MG strV okS w' m (placed [] 0) ∧ w.heap.size ≤ bx ∧ w.heap.size ≤ m ∧ bx ≠ m ∧ Below w.heap.size w w' := by
  have hmk : ∀ W : World, (Instr.makeMap 187 none).run Tryz.prog W = .ok (.map (some W.heap.size)) (W.alloc (.map #[] 0)) := fun W => rfl
  go_enter Tryz.func96, Tryz.ntmps96
  go_wp2_with fail
  go_ret
  have hb : Below (w.heap.size + 1) (w.alloc (.map #[] 0)) ((w.alloc (.map #[] 0)).alloc (.cells #[.map (some w.heap.size)] 187)) := (Below.refl _ _).alloc (by simp) _
  have hr := rec_new (w.alloc (.map #[] 0)) #[.map (some w.heap.size)] 187
  rw [World.size_alloc] at hr
  refine ⟨w.heap.size + 1, w.heap.size, rfl, hr, MG.block (mg_none w) (hb.block _ (by omega)), by omega, Nat.le_refl _, by omega, ((Below.refl _ _).alloc (Nat.le_refl _) _).trans (hb.mono (by omega))⟩
set_option maxRecDepth 100000 in
set_option maxHeartbeats 4000000 in
theorem number_any (k : Int) (b : Bool) (n : Int) (s : ByteArray) (ka la : Option Addr) (kl kc ll lc : Nat) (tx : ByteArray) (er : Int) (ts : List ByteArray) (bx m : Nat) (w : World) (hr : Rec w bx #[.map (some m)] 187) (hm : MG strV okS w m (placed ts 0)) (hne : bx ≠ m) (hnd : ts.Nodup) (hl : ts.length ≤ 1000000) (hok : okS tx)
    (htx : ∀ W, Below w.heap.size w W → Calls Tryz.prog 127 #[.agg #[.int .i64 k, .bool b, .int .i64 n, .string s, .slice ka kl kc, .slice la ll lc]] W fun e w' => e = .returned (.tuple #[.string tx, .int .i64 er]) ∧ Below W.heap.size W w') :
    Calls Tryz.prog 126 #[.agg #[.int .i64 k, .bool b, .int .i64 n, .string s, .slice ka kl kc, .slice la ll lc], .pointer (some ⟨bx, 0, none⟩)] w fun e w' => e = .returned (.int .i64 (posOf tx ts)) ∧ MG strV okS w' m (placed (withT tx ts) 0) ∧ (∀ i, i < w.heap.size → i ≠ m → w'.heap[i]? = w.heap[i]?) ∧ (∀ B, B ≤ m → B ≤ w.heap.size → Below B w w') := by
  have HT := hidE htx
  have HR := hidE hr
  have HMM := hidE hm
  have hbx := hr.lt
  have hmx := MG.lt hm
  obtain ⟨z, hz2⟩ : ∃ z, posOf tx ts = z := ⟨_, rfl⟩
  rw [hz2]
  have HZ2 := hidE hz2
  clear htx hr hm hz2
  obtain ⟨W1, hW1⟩ : ∃ W, w.alloc (.cells #[.int .i64 k, .bool b, .int .i64 n, .string s, .slice ka kl kc, .slice la ll lc] 88) = W := ⟨_, rfl⟩
  have hb1 : Below w.heap.size w W1 := by rw [← hW1]; exact (Below.refl _ _).alloc (Nat.le_refl _) _
  have hr1 : Rec W1 w.heap.size #[.int .i64 k, .bool b, .int .i64 n, .string s, .slice ka kl kc, .slice la ll lc] 88 := by rw [← hW1]; exact rec_new _ _ _
  have c0 := hr1.cell 0 rfl
  have c1 := hr1.cell 1 rfl
  have c2 := hr1.cell 2 rfl
  have c3 := hr1.cell 3 rfl
  have c4 := hr1.cell 4 rfl
  have c5 := hr1.cell 5 rfl
  have HB1 := hidE hb1
  clear hb1 hr1
  go_enter Tryz.func126, Tryz.ntmps126
  go_upto_region 1 with fail
  try rw [hW1]
  clear hW1
  go_wp2_with fail
  refine (HT.out _ HB1.out).mono ?_
  rintro e W2 ⟨rfl, hb2⟩
  have HB2 : Hid (Below w.heap.size w W2) := Below.on HB1.out hb2
  have d0 := (HR.out.below HB2.out HR.out.lt).cell 0 rfl
  have hm2 : MG strV okS W2 m (placed ts 0) := MG.block HMM.out (HB2.out.block m hmx)
  clear hb2 c0 c1 c2 c3 c4 c5
  have hz : ∀ w, (zeroValue 3).run Tryz.prog w = .ok (.int .i64 0) w := Tryz.zeroValue3
  by_cases hin : tx ∈ ts
  · obtain ⟨p1, p2⟩ := placed_hit (i := 0) hnd hin
    have lk := (mg_hit (z := .int .i64 0) strT map187 hm2 tx _ hok p1 p2).1
    rw [Nat.zero_add, HZ2.out] at lk
    have HW : Hid (withT tx ts = ts) := withT_old hin
    have HM2 := hidE hm2
    simp only [strV] at lk
    clear p1 p2 hm2
    go_wp2_with fail
    go_ret
    exact ⟨rfl, by rw [HW.out]; exact HM2.out, fun i hi _ => HB2.out.block i hi, fun B h1 h2 => HB2.out.mono h2⟩
  · have hnm : ∀ p ∈ placed ts 0, p.1 ≠ tx := fun p hp e => hin (by rw [← e]; exact placed_mem (v := p.2) hp)
    have lk := (mg_miss (z := .int .i64 0) strT map187 hz hm2 tx hok hnm).1
    have ln := mg_len (ty := 3) map187 hm2
    rw [placed_len] at ln
    obtain ⟨w4, f1, f2, f3, f4, f5⟩ := mg_new strT map187 hm2 tx (.int .i64 ts.length) hok hnm
    have HW : Hid (placed (withT tx ts) 0 = placed ts 0 ++ [(tx, .int .i64 ts.length)]) := by
      show _ = _
      rw [withT_new hin, placed_snoc, Nat.zero_add]
    have HNEW : Hid (MG strV okS w4 m (placed (withT tx ts) 0) ∧ (∀ i, i < w.heap.size → i ≠ m → w4.heap[i]? = w.heap[i]?) ∧ (∀ B, B ≤ m → B ≤ w.heap.size → Below B w w4)) :=
      ⟨by rw [HW.out]; exact f2, fun i hi him => (f4 i him).trans (HB2.out.block i hi), fun B h1 h2 => (HB2.out.mono h2).trans (f5.mono h1)⟩
    have hz3 : ts.length = z := by rw [← posOf_new hin]; exact HZ2.out
    rw [hz3] at ln f1
    simp only [strV] at lk f1
    clear f2 f3 f4 f5 hm2 hz3 hnm hl
    go_wp2_with fail
    go_ret
    exact ⟨rfl, HNEW.out.1, HNEW.out.2.1, HNEW.out.2.2⟩
end Go.Proofs.YthfilnflgahcjaaGreatDoor

namespace Go.Proofs.YthfilnflgahcjaaGreatDoor
open Go.RowKit Go.Shelf Go.Maps
set_option linter.unusedVariables false
set_option linter.unusedSimpArgs false
attribute [local go_sem] Oper.semAt_some
theorem map157 : Tryz.prog.underlying 157 = some (.map 66 2) := by kernel_rfl
set_option maxRecDepth 100000 in
set_option maxHeartbeats 4000000 in
theorem f97_any (s t : ByteArray) (z c : Int) (bx : Nat) (m : Nat) (w : World) (hr : Rec w bx #[.map (some m)] 157) (hlk : ∀ W, W.heap[m]? = w.heap[m]? → (Instr.lookup 157 (.map (some m)) (keyV (s, t, 0, 0)) false).run Tryz.prog W = .ok (.int .i64 c) W) (hm : m < w.heap.size) :
    Calls Tryz.prog 97 #[keyV (s, t, 0, 0), .int .i64 z, .pointer (some ⟨bx, 0, none⟩)] w fun e w' => e = .returned (keyV (s, t, z, c)) ∧ Below w.heap.size w w' := by
  have HL := hidE hlk
  simp only [keyV] at HL ⊢
  have hbx := hr.lt
  go_enter Tryz.func97, Tryz.ntmps97
  go_upto_region 1 with fail
  have hb : ∀ y : Int, Below w.heap.size w ((w.alloc (.cells #[.string s, .string t, .int .i64 y, .int .i64 0] 66)).alloc (.cells #[.string ⟨#[]⟩, .string ⟨#[]⟩, .int .i64 0, .int .i64 0] 66)) := fun y => ((Below.refl w.heap.size w).alloc (Nat.le_refl _) _).alloc (by simp) _
  have d0 : ∀ y : Int, ((w.alloc (.cells #[.string s, .string t, .int .i64 y, .int .i64 0] 66)).alloc (.cells #[.string ⟨#[]⟩, .string ⟨#[]⟩, .int .i64 0, .int .i64 0] 66)).cell? ⟨bx, 0, none⟩ = some (.map (some m)) := fun y => ((hr.up (.cells #[.string s, .string t, .int .i64 y, .int .i64 0] 66)).up (.cells #[.string ⟨#[]⟩, .string ⟨#[]⟩, .int .i64 0, .int .i64 0] 66)).cell 0 rfl
  have lk := fun y : Int => HL.out _ ((hb y).drew.block m hm)
  clear hr hlk hb
  go_region_with fail
  all_goals
    go_wp2_with fail
    refine bodyPost_ret (v := .agg #[.string s, .string t, .int .i64 z, .int .i64 c]) (by simp [results, Tryz.results97, go_sem]) rfl ⟨rfl, ?_⟩
    exact (((Below.refl w.heap.size w).alloc (Nat.le_refl _) _).alloc (by simp) _).drew
end Go.Proofs.YthfilnflgahcjaaGreatDoor

namespace Go.Proofs.YthfilnflgahcjaaGreatDoor
open Go.RowKit Go.Shelf Go.Maps
set_option linter.unusedVariables false
set_option linter.unusedSimpArgs false
theorem law156 : WideMaps.KeyLaw Tryz.prog 156 := deep_law_laid laid_out (m := 3) (by omega) (by rw [many_types]; decide) (by kernel_rfl) (by kernel_rfl)
theorem cells156 : Tryz.prog.cellsOf 156 = 5 := by kernel_rfl
theorem key156 (a0 : ByteArray) (a1 : ByteArray) (a2 : Int) (a3 : Int) (a4 : Int) (ha0 : a0.size ≤ maxLen) (ha1 : a1.size ≤ maxLen) (ha2 : W64 a2) (ha3 : W64 a3) (ha4 : W64 a4) : ∃ l, keyOf Tryz.prog 156 (.agg #[.string a0, .string a1, .int .i64 a2, .int .i64 a3, .int .i64 a4]) = some l := by
  have e66 : ∀ d, Tryz.prog.keyLits (d + 2) 66 [.string a0, .string a1, .int .i64 a2, .int .i64 a3] = some [.string a0.data.toList, .string a1.data.toList, .int .i64 a2, .int .i64 a3] := by
    intro d
    unfold Program.keyLits
    unfold W64 at *
    simp [Tryz.underlying66, cells66, Program.keyLits, Tryz.underlying9, Tryz.underlying2, Tryz.underlying4, cells9, cells2, cells4, ha0, ha1, ha2, ha3]
  have e3 : ∀ d, Tryz.prog.keyLits (d + 2) 3 [.int .i64 a4] = some [.int .i64 a4] := by
    intro d
    unfold Program.keyLits
    unfold W64 at *
    simp [Tryz.underlying3, cells3, ha4]
  have e : ∀ d, Tryz.prog.keyLits (d + 3) 156 [.string a0, .string a1, .int .i64 a2, .int .i64 a3, .int .i64 a4] = some [.string a0.data.toList, .string a1.data.toList, .int .i64 a2, .int .i64 a3, .int .i64 a4] := by
    intro d
    unfold Program.keyLits
    simp [Tryz.underlying156, cells156, cells66, cells3, e66 d, e3 d]
  unfold keyOf
  rw [Tryz.underlying156]
  dsimp only
  rw [if_pos (by rw [show Tryz.prog.keyType 156 = true by kernel_rfl]; simp [Value.formed, Tryz.underlying156, cells156]), many_types]
  exact ⟨_, by rw [show (Value.agg #[.string a0, .string a1, .int .i64 a2, .int .i64 a3, .int .i64 a4]).cells.toList = [.string a0, .string a1, .int .i64 a2, .int .i64 a3, .int .i64 a4] from rfl, show 314 + 1 = 312 + 3 from rfl, e]; rfl⟩
abbrev WorR := KeyR × Int
def worV (x : WorR) : Value := .agg #[.string x.1.1, .string x.1.2.1, .int .i64 x.1.2.2.1, .int .i64 x.1.2.2.2, .int .i64 x.2]
def okW (x : WorR) : Prop := okK x.1 ∧ W64 x.2
theorem worT : KeyT 156 worV okW := ⟨Keyed.of_law law156, fun x hx => key156 _ _ _ _ _ hx.1.1 hx.1.2.1 hx.1.2.2.1 hx.1.2.2.2 hx.2, fun x y h => by
  obtain ⟨⟨a, b, c, d⟩, e⟩ := x
  obtain ⟨⟨a', b', c', d'⟩, e'⟩ := y
  have := agg_inj h
  simp at this
  obtain ⟨rfl, rfl, rfl, rfl, rfl⟩ := this
  rfl⟩
theorem map152 : Tryz.prog.underlying 152 = some (.map 156 2) := by kernel_rfl
/-- One more of a worth: the facts. -/
theorem worth_bump {W : World} {b : Nat} {ks : List WorR} (h : MC worV okW W b (cnt ks)) (x : WorR) (hx : okW x) (hl : ks.length ≤ 1000000000) :
    ∃ (st : Nat) (w1 w2 : World) (c : Int), 0 ≤ c ∧ c ≤ 1000000000 ∧ IntKind.i64.wrap (c + 1) = c + 1 ∧ (Instr.lookup 152 (.map (some b)) (worV x) false).run Tryz.prog W.drew = .ok (.int .i64 c) W.drew ∧ (Instr.mapEntry 152 (.map (some b)) (worV x)).run Tryz.prog W.drew = .ok (.tuple #[.int .i64 c, .int .i64 st]) w1 ∧ (Instr.lookup 152 (.map (some b)) (worV x) false).run Tryz.prog w1 = .ok (.int .i64 c) w1 ∧ (Instr.entryStore 152 (.map (some b)) (.int .i64 st) (.int .i64 (c + 1))).run Tryz.prog w1 = .ok () w2 ∧ MC worV okW w2 b (cnt (ks ++ [x])) ∧ w2.heap.size = W.heap.size ∧ (∀ i, i ≠ b → w2.heap[i]? = W.heap[i]?) ∧ Below b W w2 := by
  obtain ⟨st, w1, w2, q1, q2, q3, q4, q5, q6, q7, q8⟩ := mc_bump worT map152 (w := W.drew) h (cnt_nodup _) x hx 1
  have hc := cnt_count ks x
  refine ⟨st, w1, w2, _, hc.1, by omega, by rw [IntKind.wrap_i64]; omega, q1, q2, q3, q4, by rw [cnt_snoc]; exact q5, q6, q7, ((Below.refl b W).drew).trans q8⟩
/-- Some more of a key: the facts. -/
theorem key_bump {W : World} {b : Nat} {cs : List (KeyR × Int)} (h : MC keyV okK W b cs) (hn : (cs.map Prod.fst).Nodup) (x : KeyR) (hx : okK x) (d : Int) :
    ∃ (st : Nat) (w1 w2 : World), (Instr.lookup 157 (.map (some b)) (keyV x) false).run Tryz.prog W.drew = .ok (.int .i64 (countOf x cs)) W.drew ∧ (Instr.mapEntry 157 (.map (some b)) (keyV x)).run Tryz.prog W.drew = .ok (.tuple #[.int .i64 (countOf x cs), .int .i64 st]) w1 ∧ (Instr.lookup 157 (.map (some b)) (keyV x) false).run Tryz.prog w1 = .ok (.int .i64 (countOf x cs)) w1 ∧ (Instr.entryStore 157 (.map (some b)) (.int .i64 st) (.int .i64 (countOf x cs + d))).run Tryz.prog w1 = .ok () w2 ∧ MC keyV okK w2 b (bump x d cs) ∧ w2.heap.size = W.heap.size ∧ (∀ i, i ≠ b → w2.heap[i]? = W.heap[i]?) ∧ Below b W w2 := by
  obtain ⟨st, w1, w2, q1, q2, q3, q4, q5, q6, q7, q8⟩ := mc_bump keyT map157 (w := W.drew) h hn x hx d
  exact ⟨st, w1, w2, q1, q2, q3, q4, q5, q6, q7, ((Below.refl b W).drew).trans q8⟩
end Go.Proofs.YthfilnflgahcjaaGreatDoor

namespace Go.Proofs.YthfilnflgahcjaaGreatDoor
open Go.RowKit Go.Shelf Go.Maps
set_option linter.unusedVariables false
set_option linter.unusedSimpArgs false
set_option linter.unusedSectionVars false
section
variable {α : Type} [DecidableEq α]
/-- Counts gathered, one behind the other. -/
def gather (l : List (α × Int)) : List (α × Int) := l.foldl (fun cs p => bump p.1 p.2 cs) []
theorem gather_snoc (l : List (α × Int)) (p : α × Int) : gather (l ++ [p]) = bump p.1 p.2 (gather l) := by simp [gather]
theorem gather_nodup (l : List (α × Int)) : ((gather l).map Prod.fst).Nodup := by
  unfold gather
  suffices h : ∀ (l : List (α × Int)) (cs : List (α × Int)), (cs.map Prod.fst).Nodup → ((l.foldl (fun cs p => bump p.1 p.2 cs) cs).map Prod.fst).Nodup from h l [] List.nodup_nil
  intro l
  induction l with
  | nil => intro cs h; exact h
  | cons t r ih => intro cs h; exact ih _ (bump_nodup _ _ _ h)
theorem gather_keys (l : List (α × Int)) (x : α) : x ∈ (gather l).map Prod.fst ↔ x ∈ l.map Prod.fst := by
  unfold gather
  suffices h : ∀ (l : List (α × Int)) (cs : List (α × Int)), x ∈ (l.foldl (fun cs p => bump p.1 p.2 cs) cs).map Prod.fst ↔ x ∈ cs.map Prod.fst ∨ x ∈ l.map Prod.fst by
    have := h l []
    simpa using this
  intro l
  induction l with
  | nil => intro cs; simp
  | cons t r ih =>
    intro cs
    rw [List.foldl_cons, ih, bump_keys, List.map_cons, List.mem_cons]
    constructor
    · rintro ((h | h) | h)
      · exact .inr (.inl h)
      · exact .inl h
      · exact .inr (.inr h)
    · rintro (h | h | h)
      · exact .inl (.inr h)
      · exact .inl (.inl h)
      · exact .inr h
/-- What comes to one key. -/
def sumAt (x : α) : List (α × Int) → Int
  | [] => 0
  | p :: r => (if p.1 = x then p.2 else 0) + sumAt x r
theorem gather_count (l : List (α × Int)) (x : α) : countOf x (gather l) = sumAt x l := by
  unfold gather
  suffices h : ∀ (l : List (α × Int)) (cs : List (α × Int)), countOf x (l.foldl (fun cs p => bump p.1 p.2 cs) cs) = countOf x cs + sumAt x l by
    have := h l []
    simpa [countOf] using this
  intro l
  induction l with
  | nil => intro cs; simp [sumAt]
  | cons t r ih =>
    intro cs
    rw [List.foldl_cons, ih, count_bump, sumAt]
    by_cases h : x = t.1
    · rw [if_pos h, if_pos h.symm]; omega
    · rw [if_neg h, if_neg (Ne.symm h)]; omega
theorem sumAt_perm {l l' : List (α × Int)} (h : l.Perm l') (x : α) : sumAt x l = sumAt x l' := by
  induction h with
  | nil => rfl
  | cons p _ ih => simp only [sumAt, ih]
  | swap p q t => simp only [sumAt]; omega
  | trans _ _ h1 h2 => exact h1.trans h2
theorem sumAt_le {x : α} {c : Int} (hc : 0 ≤ c) : ∀ {l : List (α × Int)}, (∀ p ∈ l, 0 ≤ p.2 ∧ p.2 ≤ c) → 0 ≤ sumAt x l ∧ sumAt x l ≤ c * l.length
  | [], _ => by simp [sumAt]
  | p :: r, h => by
    have h1 := h p List.mem_cons_self
    have h2 := sumAt_le (x := x) hc (l := r) fun q hq => h q (List.mem_cons_of_mem _ hq)
    simp only [sumAt, List.length_cons, Int.natCast_add, Int.natCast_one, Int.mul_add, Int.mul_one]
    split <;> omega
theorem mem_count {x : α} {n : Int} : ∀ {cs : List (α × Int)}, (cs.map Prod.fst).Nodup → ((x, n) ∈ cs ↔ x ∈ cs.map Prod.fst ∧ countOf x cs = n)
  | [], _ => by simp
  | (a, m) :: r, h => by
    simp only [List.map_cons, List.nodup_cons] at h
    have ih := mem_count (x := x) (n := n) h.2
    rw [List.mem_cons, ih, List.map_cons, List.mem_cons, countOf]
    by_cases e : a = x
    · subst e
      rw [if_pos rfl]
      constructor
      · rintro (h1 | h1)
        · exact ⟨.inl rfl, (Prod.mk.inj h1).2.symm⟩
        · exact absurd h1.1 h.1
      · rintro ⟨_, h1⟩
        exact .inl (by rw [h1])
    · rw [if_neg e]
      constructor
      · rintro (h1 | h1)
        · exact absurd (Prod.mk.inj h1).1.symm e
        · exact ⟨.inr h1.1, h1.2⟩
      · rintro ⟨h1 | h1, h2⟩
        · exact absurd h1.symm e
        · exact .inr ⟨h1, h2⟩
theorem nodup_of_fst {l : List (α × Int)} (h : (l.map Prod.fst).Nodup) : l.Nodup := by
  rw [List.nodup_iff_pairwise_ne] at *
  exact (List.pairwise_map.1 h).imp fun h e => h (by rw [e])
theorem same_counts {cs ds : List (α × Int)} (h1 : (cs.map Prod.fst).Nodup) (h2 : (ds.map Prod.fst).Nodup) (hk : ∀ x, x ∈ cs.map Prod.fst ↔ x ∈ ds.map Prod.fst) (hn : ∀ x, countOf x cs = countOf x ds) : cs.Perm ds :=
  (List.perm_ext_iff_of_nodup (nodup_of_fst h1) (nodup_of_fst h2)).2 fun ⟨x, n⟩ => by rw [mem_count h1, mem_count h2, hk, hn]
theorem gather_perm {l l' : List (α × Int)} (h : l.Perm l') : (gather l).Perm (gather l') :=
  same_counts (gather_nodup _) (gather_nodup _) (fun x => by rw [gather_keys, gather_keys]; exact (h.map _).mem_iff) fun x => by rw [gather_count, gather_count, sumAt_perm h]
theorem bump_len (k : α) (d : Int) : ∀ (cs : List (α × Int)), (bump k d cs).length ≤ cs.length + 1
  | [] => by simp [bump]
  | (a, n) :: r => by
    rw [bump]
    split
    · simp
    · have := bump_len k d r
      simp; omega
theorem gather_len (l : List (α × Int)) : (gather l).length ≤ l.length := by
  unfold gather
  suffices h : ∀ (l : List (α × Int)) (cs : List (α × Int)), (l.foldl (fun cs p => bump p.1 p.2 cs) cs).length ≤ cs.length + l.length by
    have := h l []
    simpa using this
  intro l
  induction l with
  | nil => intro cs; simp
  | cons t r ih =>
    intro cs
    have := ih (bump t.1 t.2 cs)
    have := bump_len t.1 t.2 cs
    simp only [List.foldl_cons, List.length_cons]; omega
theorem cnt_len (l : List α) : (cnt l).length ≤ l.length := by
  unfold cnt
  suffices h : ∀ (l : List α) (cs : List (α × Int)), (l.foldl (fun cs p => bump p 1 cs) cs).length ≤ cs.length + l.length by
    have := h l []
    simpa using this
  intro l
  induction l with
  | nil => intro cs; simp
  | cons t r ih =>
    intro cs
    have := ih (bump t 1 cs)
    have := bump_len t 1 cs
    simp only [List.foldl_cons, List.length_cons]; omega
theorem cnt_keys (l : List α) (x : α) : x ∈ (cnt l).map Prod.fst ↔ x ∈ l := by
  unfold cnt
  suffices h : ∀ (l : List α) (cs : List (α × Int)), x ∈ (l.foldl (fun cs p => bump p 1 cs) cs).map Prod.fst ↔ x ∈ cs.map Prod.fst ∨ x ∈ l by
    have := h l []
    simpa using this
  intro l
  induction l with
  | nil => intro cs; simp
  | cons t r ih =>
    intro cs
    rw [List.foldl_cons, ih, bump_keys, List.mem_cons]
    constructor
    · rintro ((h | h) | h)
      · exact .inr (.inl h)
      · exact .inl h
      · exact .inr (.inr h)
    · rintro (h | h | h)
      · exact .inl (.inr h)
      · exact .inl (.inl h)
      · exact .inr h
theorem cnt_vals (l : List α) : ∀ p ∈ cnt l, 0 ≤ p.2 ∧ p.2 ≤ l.length := fun ⟨x, n⟩ hp => by
  have := ((mem_count (cnt_nodup l)).1 hp).2
  have h2 := cnt_count l x
  rw [this] at h2
  exact h2
end
/-- The labels of the node of a number. -/
def labsAt : List NodeP → Int → List ByteArray
  | [], _ => []
  | n :: r, i => if n.id = i then n.labels else labsAt r i
def outOf (ns : List NodeP) (p : JointR × Int) : List (EndR × Int) := (labsAt ns p.1.1).map fun l => ((p.1.2.1, l, p.1.2.2, 0), p.2)
def endsOf (ns : List NodeP) (js : List (JointR × Int)) : List (EndR × Int) := js.flatMap (outOf ns)
theorem endsOf_snoc (ns : List NodeP) (js : List (JointR × Int)) (p : JointR × Int) : endsOf ns (js ++ [p]) = endsOf ns js ++ outOf ns p := by simp [endsOf]
theorem endsOf_perm (ns : List NodeP) {js js' : List (JointR × Int)} (h : js.Perm js') : (endsOf ns js).Perm (endsOf ns js') := h.flatMap_right _
theorem endsOf_len (ns : List NodeP) (K : Nat) (hK : ∀ i, (labsAt ns i).length ≤ K) : ∀ (js : List (JointR × Int)), (endsOf ns js).length ≤ js.length * K
  | [] => by simp [endsOf]
  | p :: r => by
    have h1 := endsOf_len ns K hK r
    have h2 := hK p.1.1
    have e : endsOf ns (p :: r) = outOf ns p ++ endsOf ns r := by simp [endsOf]
    rw [e, List.length_append, outOf, List.length_map, List.length_cons, Nat.succ_mul]; omega
theorem labsAt_le {ns : List NodeP} {K : Nat} (h : ∀ n ∈ ns, n.labels.length ≤ K) : ∀ (i : Int), (labsAt ns i).length ≤ K := by
  intro i
  induction ns with
  | nil => simp [labsAt]
  | cons n r ih =>
    rw [labsAt]
    split
    · exact h n List.mem_cons_self
    · exact ih fun m hm => h m (List.mem_cons_of_mem _ hm)
theorem labsAt_hit : ∀ {ns : List NodeP} {j : Nat} {x : NodeP}, (ns.map NodeP.id).Nodup → ns[j]? = some x → labsAt ns x.id = x.labels
  | [], j, x, _, h => by simp at h
  | n :: r, 0, x, _, h => by
    simp only [List.getElem?_cons_zero, Option.some.injEq] at h
    rw [labsAt, if_pos (by rw [h]), h]
  | n :: r, j + 1, x, hd, h => by
    simp only [List.map_cons, List.nodup_cons] at hd
    simp only [List.getElem?_cons_succ] at h
    have hm : x.id ∈ r.map NodeP.id := List.mem_map_of_mem (List.mem_of_getElem? h)
    have hne : ¬ n.id = x.id := fun e => hd.1 (by rw [e]; exact hm)
    rw [labsAt, if_neg hne, labsAt_hit hd.2 h]
theorem labsAt_miss : ∀ {ns : List NodeP} {i : Int}, (∀ n ∈ ns, n.id ≠ i) → labsAt ns i = []
  | [], i, _ => rfl
  | n :: r, i, h => by rw [labsAt, if_neg (h n List.mem_cons_self), labsAt_miss fun m hm => h m (List.mem_cons_of_mem _ hm)]
theorem labsAt_mem {ns : List NodeP} {i : Int} {l : ByteArray} (h : l ∈ labsAt ns i) : ∃ n ∈ ns, n.id = i ∧ l ∈ n.labels := by
  induction ns with
  | nil => simp [labsAt] at h
  | cons n r ih =>
    rw [labsAt] at h
    split at h
    · exact ⟨n, List.mem_cons_self, ‹_›, h⟩
    · obtain ⟨m, h1, h2⟩ := ih h
      exact ⟨m, List.mem_cons_of_mem _ h1, h2⟩
theorem zero43 (w : World) : (zeroValue 43).run Tryz.prog w = .ok (.slice none 0 0) w := by kernel_rfl
/-- What is looked up of a node's labels. -/
theorem labm_look {B : Nat} {w0 W : World} {b : Nat} {ns : List NodeP} (h : LabM B w0 W b ns) (hd : (ns.map NodeP.id).Nodup) (i : Int) (hi : W64 i) :
    ∃ la lc, (∀ W' : World, W'.heap[b]? = W.heap[b]? → (Instr.lookup 184 (.map (some b)) (.int .i64 i) false).run Tryz.prog W' = .ok (.slice la (labsAt ns i).length lc) W') ∧ (labsAt ns i).length ≤ lc ∧ lc ≤ 9223372036854775807 ∧ KeysLie B w0 la (labsAt ns i) := by
  obtain ⟨es, h1, h2, h3⟩ := h
  by_cases hin : ∃ n ∈ ns, n.id = i
  · obtain ⟨n, hn, rfl⟩ := hin
    obtain ⟨j, hj⟩ := List.getElem?_of_mem hn
    obtain ⟨la, lc, q1, q2, q3, q4⟩ := h3 j n hj
    rw [labsAt_hit hd hj]
    refine ⟨la, lc, fun W' hW => (mi_hit (z := .slice none 0 0) map184 (h1.block hW) n.id _ hi (List.mem_of_getElem? q1) fun p hp e => ?_).2, q2, q3, q4⟩
    obtain ⟨k, hk⟩ := List.getElem?_of_mem hp
    have a1 : (es.map Prod.fst)[k]? = some n.id := by rw [List.getElem?_map, hk]; simp [e]
    have a2 : (es.map Prod.fst)[j]? = some n.id := by rw [List.getElem?_map, q1]; rfl
    have hkj : k = j := (List.getElem?_inj (by simpa using (List.getElem?_eq_some_iff.1 hk).1) (by rw [h2]; exact hd)).1 (a1.trans a2.symm)
    subst hkj
    rw [hk] at q1
    rw [Option.some.inj q1]
  · have hno : ∀ n ∈ ns, n.id ≠ i := fun n hn e => hin ⟨n, hn, e⟩
    rw [labsAt_miss hno]
    refine ⟨none, 0, fun W' hW => (mi_miss (z := .slice none 0 0) map184 zero43 (h1.block hW) i hi fun p hp e => ?_).2, Nat.le_refl _, by omega, .inl rfl⟩
    have : p.1 ∈ ns.map NodeP.id := by rw [← h2]; exact List.mem_map_of_mem hp
    obtain ⟨n, hn, e2⟩ := List.mem_map.1 this
    exact hno n hn (e2.trans e)
end Go.Proofs.YthfilnflgahcjaaGreatDoor

