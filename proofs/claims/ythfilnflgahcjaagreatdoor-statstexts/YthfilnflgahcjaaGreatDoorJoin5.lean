/- Numbers together, the share of a number in another, how many nodes there are. How rows and keys stand in cells. The shelf's contracts at this dump: whether a text is UTF-8, and where a byte stands. -/
import Derived.Test.YthfilnflgahcjaaGreatDoorJoin3
import Derived.Test.YthfilnflgahcjaaGreatDoorJoin1
import Derived.Test.YthfilnflgahcjaaGreatDoorJoin4
import Derived.Shelf.Unicode.ValidAny
import Derived.Shelf.Small.Strs
import Derived.Test.YthfilnflgahcjaaGreatDoorProg
namespace Go.Proofs.YthfilnflgahcjaaGreatDoor
open Go.RowKit Go.Shelf
set_option linter.unusedVariables false
set_option linter.unusedSimpArgs false
attribute [local go_sem] Oper.semAt_some
def intE (n : Int) : List Value := [.int .i64 n]
theorem cutI_nonneg (n : Int) : 0 ≤ cutI n := by unfold cutI; split <;> (try split) <;> omega
theorem cutI_le (n : Int) : cutI n ≤ 4611686018427387904 := by unfold cutI; split <;> (try split) <;> omega
/-- Numbers behind a sum. -/
def plusF : Int → List Int → Int
  | t, [] => t
  | t, n :: r => plusF (t + (if 4611686018427387904 - t < cutI n then 4611686018427387904 - t else cutI n)) r
def plusI (l : List Int) : Int := plusF 0 l
theorem plusF_at {t : Int} {l : List Int} {j : Nat} {n : Int} (h : l[j]? = some n) : plusF t (l.drop j) = plusF (t + (if 4611686018427387904 - t < cutI n then 4611686018427387904 - t else cutI n)) (l.drop (j + 1)) := by
  obtain ⟨hj, hx⟩ := List.getElem?_eq_some_iff.1 h
  rw [List.drop_eq_getElem_cons hj, hx]; rfl
set_option maxRecDepth 100000 in
set_option maxHeartbeats 4000000 in
theorem plus_any (l : List Int) (v : Value) (B : Nat) (w : World) (hB : B ≤ w.heap.size) (hv : SRow 1 intE B w v l) :
    Calls Tryz.prog 34 #[v] w fun e w' => e = .returned (.int .i64 (plusI l)) ∧ w' = w := by
  obtain ⟨a, c, rfl, h1, h2, h3⟩ := hv
  have H3 := hidE h3
  obtain ⟨n, hn⟩ : ∃ n, l.length = n := ⟨_, rfl⟩
  have HN := hidE hn
  rw [hn] at h1 ⊢
  obtain ⟨res, hres⟩ : ∃ r, plusI l = r := ⟨_, rfl⟩
  have HR := hidE hres
  rw [hres]
  clear h3 hn hres
  go_enter Tryz.func34, Tryz.ntmps34
  go_wp2_with fail
  go_loopw [3, 8] (fun s i wr => ∃ (t : Int) (j : Nat), j ≤ n ∧ s = .int .i64 t ∧ i = .int .i64 j ∧ 0 ≤ t ∧ t ≤ 4611686018427387904 ∧ plusF t (l.drop j) = res ∧ wr = w) (fun _ i _ => n - (intOf i).toNat)
  case atStart => exact ⟨0, 0, Nat.zero_le _, rfl, rfl, by omega, by omega, HR.out, rfl⟩
  case round =>
    obtain ⟨t, j, hj, rfl, rfl, ht0, ht1, hrs, rfl⟩ := hrel
    have HRS := hidE hrs
    clear hrs
    by_cases hlt : j < n
    · have hlt' : (j : Int) < n := by omega
      obtain ⟨x, hx⟩ : ∃ q, l[j]? = some q := ⟨_, List.getElem?_eq_getElem (by have := HN.out; omega)⟩
      obtain ⟨bl, off, rfl, hbl, hc⟩ := H3.out.resolve_left (by intro e; rw [e] at hx; simp at hx)
      have cx := hc j x hx 0 _ rfl
      rw [Nat.mul_one, Nat.add_zero] at cx
      have HE := plusF_at (t := t) hx
      rw [HRS.out] at HE
      have HE := hidE HE
      clear hx hc
      have hc0 := cutI_nonneg x
      have hc1 := cutI_le x
      have HC := hidE (fun W => cut_any x W)
      obtain ⟨cx1, hcx⟩ : ∃ q, cutI x = q := ⟨_, rfl⟩
      rw [hcx] at HE hc0 hc1
      rw [hcx] at HC
      clear hcx
      go_wp2_with (go_at_call 52; refine (HC.out _).mono ?_; rintro e _ ⟨rfl, rfl⟩)
      go_roundw
      case rel => exact ⟨_, j + 1, by omega, rfl, by go_num, by split <;> omega, by split <;> omega, HE.out.symm, trivial⟩
      case measure => simp [intOf]; omega
    · have HF : Hid (res = t) := by
        show _ = _
        rw [← HRS.out, List.drop_of_length_le (by have := HN.out; omega)]
        rfl
      have hlt' : ¬ (j : Int) < n := by omega
      go_wp2_with fail
      go_ret
      exact ⟨by rw [HF.out]; rfl, rfl⟩
/-- The share of a number in another. -/
def shareI (a b : Int) : Int := (cutI a + ((if cutI b < 1 then 1 else cutI b) - 1)) / (if cutI b < 1 then 1 else cutI b)
set_option maxRecDepth 100000 in
set_option maxHeartbeats 4000000 in
theorem share_any (a b : Int) (w : World) : Calls Tryz.prog 32 #[.int .i64 a, .int .i64 b] w fun e w' => e = .returned (.int .i64 (shareI a b)) ∧ w' = w := by
  have h0 := cutI_nonneg a
  have h1 := cutI_le a
  have k0 := cutI_nonneg b
  have k1 := cutI_le b
  have HA := hidE (fun W => cut_any a W)
  have HB := hidE (fun W => cut_any b W)
  unfold shareI
  generalize cutI a = x at *
  generalize cutI b = y at *
  obtain ⟨m, hm⟩ : ∃ m, (if y < 1 then 1 else y) = m := ⟨_, rfl⟩
  have hm1 : 1 ≤ m := by rw [← hm]; split <;> omega
  have hm2 : m ≤ 4611686018427387904 := by rw [← hm]; split <;> omega
  rw [hm]
  go_enter Tryz.func32, Tryz.ntmps32
  go_wp2_with (first | (go_at_call_of 52 a; refine (HA.out _).mono ?_; rintro e _ ⟨rfl, rfl⟩) | (go_at_call_of 52 b; refine (HB.out _).mono ?_; rintro e _ ⟨rfl, rfl⟩))
  go_ret
  exact ⟨rfl, rfl⟩
end Go.Proofs.YthfilnflgahcjaaGreatDoor

namespace Go.Proofs.YthfilnflgahcjaaGreatDoor
open Go.RowKit Go.Shelf Go.Maps
set_option linter.unusedVariables false
set_option linter.unusedSimpArgs false
theorem dec_yes {p : Prop} {i : Decidable p} (h : p) : @decide p i = true := decide_eq_true h
theorem dec_no {p : Prop} {i : Decidable p} (h : ¬ p) : @decide p i = false := decide_eq_false h
def strE (s : ByteArray) : List Value := [.string s]
def strV (s : ByteArray) : Value := .string s
def okS (s : ByteArray) : Prop := s.size ≤ maxLen
theorem strT : KeyT 9 strV okS := ⟨string_keyed Tryz.underlying9, fun x hx => ⟨.string x.data.toList, by simp [keyOf, Tryz.underlying9, mapKey, strV]; exact hx⟩, fun x y h => by injection h⟩
theorem zero164 (w : World) : (zeroValue 164).run Tryz.prog w = .ok (.agg #[]) w := by kernel_rfl
theorem map163 : Tryz.prog.underlying 163 = some (.map 9 164) := by kernel_rfl
theorem map170 : Tryz.prog.underlying 170 = some (.map 66 164) := by kernel_rfl
theorem map200 : Tryz.prog.underlying 200 = some (.map 64 164) := by kernel_rfl
def labC (x : ByteArray × Int) : List Value := [.string x.1, .int .i64 x.2]
def labV (x : ByteArray × Int) : Value := .agg #[.string x.1, .int .i64 x.2]
def okL (x : ByteArray × Int) : Prop := okS x.1 ∧ W64 x.2
abbrev EndR := ByteArray × ByteArray × Bool × Int
def endC (x : EndR) : List Value := [.string x.1, .string x.2.1, .bool x.2.2.1, .int .i64 x.2.2.2]
def endV (x : EndR) : Value := .agg #[.string x.1, .string x.2.1, .bool x.2.2.1, .int .i64 x.2.2.2]
def okE (x : EndR) : Prop := okS x.1 ∧ okS x.2.1 ∧ W64 x.2.2.2
def endK (x : EndR) : EndR := (x.1, x.2.1, x.2.2.1, 0)
abbrev KeyR := ByteArray × ByteArray × Int × Int
def keyC (x : KeyR) : List Value := [.string x.1, .string x.2.1, .int .i64 x.2.2.1, .int .i64 x.2.2.2]
def keyV (x : KeyR) : Value := .agg #[.string x.1, .string x.2.1, .int .i64 x.2.2.1, .int .i64 x.2.2.2]
def okK (x : KeyR) : Prop := okS x.1 ∧ okS x.2.1 ∧ W64 x.2.2.1 ∧ W64 x.2.2.2
def keyK (x : KeyR) : KeyR := (x.1, x.2.1, 0, 0)
theorem w64_zero : W64 0 := w64 (by omega) (by omega)
theorem agg_inj {a b : Array Value} (h : Value.agg a = Value.agg b) : a.toList = b.toList := by injection h with h; rw [h]
theorem endT : KeyT 64 endV okE := ⟨Keyed.of_law law64, fun x hx => key64 _ _ _ _ hx.1 hx.2.1 hx.2.2, fun x y h => by
  obtain ⟨a, b, c, d⟩ := x
  obtain ⟨a', b', c', d'⟩ := y
  have := agg_inj h
  simp at this
  obtain ⟨rfl, rfl, rfl, rfl⟩ := this
  rfl⟩
theorem keyT : KeyT 66 keyV okK := ⟨Keyed.of_law law66, fun x hx => key66 _ _ _ _ hx.1 hx.2.1 hx.2.2.1 hx.2.2.2, fun x y h => by
  obtain ⟨a, b, c, d⟩ := x
  obtain ⟨a', b', c', d'⟩ := y
  have := agg_inj h
  simp at this
  obtain ⟨rfl, rfl, rfl, rfl⟩ := this
  rfl⟩
theorem labT : KeyT 42 labV okL := ⟨Keyed.of_law law42, fun x hx => key42 _ _ hx.1 hx.2, fun x y h => by
  obtain ⟨a, b⟩ := x
  obtain ⟨a', b'⟩ := y
  have := agg_inj h
  simp at this
  obtain ⟨rfl, rfl⟩ := this
  rfl⟩
theorem typT : KeyT 62 labV okL := ⟨Keyed.of_law law62, fun x hx => key62 _ _ hx.1 hx.2, labT.inj⟩
theorem elem28 : ElemIs 28 42 2 24 (.agg #[.string ⟨#[]⟩, .int .i64 0]) := elem_of (by kernel_rfl) (by kernel_rfl) rfl (by decide) (by decide)
theorem elem29 : ElemIs 29 62 2 24 (.agg #[.string ⟨#[]⟩, .int .i64 0]) := elem_of (by kernel_rfl) (by kernel_rfl) rfl (by decide) (by decide)
theorem elem30 : ElemIs 30 64 4 48 (.agg #[.string ⟨#[]⟩, .string ⟨#[]⟩, .bool false, .int .i64 0]) := elem_of (by kernel_rfl) (by kernel_rfl) rfl (by decide) (by decide)
theorem elem31 : ElemIs 31 66 4 48 (.agg #[.string ⟨#[]⟩, .string ⟨#[]⟩, .int .i64 0, .int .i64 0]) := elem_of (by kernel_rfl) (by kernel_rfl) rfl (by decide) (by decide)
theorem elem44 : ElemIs 44 2 1 8 (.int .i64 0) := elem_of (by kernel_rfl) (by kernel_rfl) rfl (by decide) (by decide)
theorem elem43 : ElemIs 43 9 1 16 (.string ⟨#[]⟩) := elem_of (by kernel_rfl) (by kernel_rfl) rfl (by decide) (by decide)
theorem one_lab (x : ByteArray × Int) : ∀ u ∈ labC x, u.oneCell' = true := fun u hu => by simp only [labC, List.mem_cons, List.not_mem_nil, or_false] at hu; rcases hu with rfl | rfl <;> rfl
theorem one_end (x : EndR) : ∀ u ∈ endC x, u.oneCell' = true := fun u hu => by simp only [endC, List.mem_cons, List.not_mem_nil, or_false] at hu; rcases hu with rfl | rfl | rfl | rfl <;> rfl
theorem one_key (x : KeyR) : ∀ u ∈ keyC x, u.oneCell' = true := fun u hu => by simp only [keyC, List.mem_cons, List.not_mem_nil, or_false] at hu; rcases hu with rfl | rfl | rfl | rfl <;> rfl
theorem one_int (x : Int) : ∀ u ∈ intE x, u.oneCell' = true := fun u hu => by simp only [intE, List.mem_cons, List.not_mem_nil, or_false] at hu; rw [hu]; rfl
theorem one_str (x : ByteArray) : ∀ u ∈ strE x, u.oneCell' = true := fun u hu => by simp only [strE, List.mem_cons, List.not_mem_nil, or_false] at hu; rw [hu]; rfl
end Go.Proofs.YthfilnflgahcjaaGreatDoor

namespace Go.Proofs
open Go.Shelf
def Tryz.laysValid_ren : Go.Shelf.Ren := ⟨fun | 196 => 116 | 259 => 141 | n => n, fun | 9 => 9 | 4 => 4 | 3 => 3 | 5 => 5 | 12 => 12 | 119 => 204 | 0 => 0 | 46 => 171 | 139 => 207 | 138 => 206 | 53 => 106 | n => n, fun | 3 => 0 | 4 => 1 | n => n⟩
theorem Tryz.laysValid : Go.Proofs.Lays.n196 Tryz.prog Tryz.laysValid_ren := {
  mixed := by kernel_rfl
  f196 := Tryz.func116.trans (congrArg some (by kernel_rfl))
  f259 := Tryz.func141.trans (congrArg some (by kernel_rfl))
  t0 := Tryz.underlying0
  a0 := Tryz.isAgg0
  z0 := Tryz.sizeOf0
  v0 := Tryz.zeroValue0
  t3 := Tryz.underlying3
  a3 := Tryz.isAgg3
  z3 := Tryz.sizeOf3
  v3 := Tryz.zeroValue3
  t4 := Tryz.underlying4
  a4 := Tryz.isAgg4
  z4 := Tryz.sizeOf4
  v4 := Tryz.zeroValue4
  t5 := Tryz.underlying5
  a5 := Tryz.isAgg5
  z5 := Tryz.sizeOf5
  v5 := Tryz.zeroValue5
  t9 := Tryz.underlying9
  a9 := Tryz.isAgg9
  z9 := Tryz.sizeOf9
  v9 := Tryz.zeroValue9
  t12 := Tryz.underlying12
  a12 := Tryz.isAgg12
  z12 := Tryz.sizeOf12
  v12 := Tryz.zeroValue12
  t46 := Tryz.underlying171
  a46 := Tryz.isAgg171
  z46 := Tryz.sizeOf171
  v46 := Tryz.zeroValue171
  t53 := Tryz.underlying106
  a53 := Tryz.isAgg106
  z53 := Tryz.sizeOf106
  v53 := Tryz.zeroValue106
  t119 := Tryz.underlying204
  a119 := Tryz.isAgg204
  z119 := Tryz.sizeOf204
  t138 := Tryz.underlying206
  a138 := Tryz.isAgg206
  z138 := Tryz.sizeOf206
  v138 := Tryz.zeroValue206
  t139 := Tryz.underlying207
  a139 := Tryz.isAgg207
  z139 := Tryz.sizeOf207
  v139 := Tryz.zeroValue207
  g3 := by kernel_rfl
  g4 := by kernel_rfl }
def Tryz.lays137_ren : Go.Shelf.Ren := ⟨fun | 137 => 157 | 217 => 214 | 266 => 244 | n => n, fun | 9 => 9 | 5 => 5 | 3 => 3 | n => n, fun | n => n⟩
theorem Tryz.lays137 : Go.Proofs.Lays.n137 Tryz.prog Tryz.lays137_ren := {
  mixed := by kernel_rfl
  f137 := Tryz.func157.trans (congrArg some (by kernel_rfl))
  f217 := Tryz.func214.trans (congrArg some (by kernel_rfl))
  f266 := Tryz.func244.trans (congrArg some (by kernel_rfl))
  t3 := Tryz.underlying3
  a3 := Tryz.isAgg3
  z3 := Tryz.sizeOf3
  v3 := Tryz.zeroValue3
  t5 := Tryz.underlying5
  a5 := Tryz.isAgg5
  z5 := Tryz.sizeOf5
  v5 := Tryz.zeroValue5
  t9 := Tryz.underlying9
  a9 := Tryz.isAgg9
  z9 := Tryz.sizeOf9
  v9 := Tryz.zeroValue9 }
open Go.RowKit in
/-- strings.IndexByte: "IndexByte returns the index of the first instance of c in s, or -1 if c is not present in s.": IT RETURNS 'Lib.indexByte s c'; the world is as it was. (LAID: no walk: one application.) -/
theorem Tryz.strings_IndexByte (s : ByteArray) (c : Int) (w : World) :
    Calls Tryz.prog 157 #[.string s, .int .u8 c] w fun e w' => e = .returned (.int .i64 (Lib.indexByte s.data.toList c.toNat.toUInt8)) ∧ w' = w := Any.strings_IndexByte Tryz.lays137 s c w
end Go.Proofs

