/- The document's equality of values is the program's. Values whose lists have one place more, which is laid; rows of keys are put behind others. -/
import Derived.Test.YtbpmhgcjefpigaaGreatDoorJoin17
import Derived.Test.YtbpmhgcjefpigaaGreatDoorReq2b
import Derived.Test.YtbpmhgcjefpigaaGreatDoorMap11
import Derived.Laws.OwnMore
namespace Go.Proofs.YtbpmhgcjefpigaaGreatDoor
open Go.RowKit Go.Shelf
set_option linter.unusedVariables false

set_option maxRecDepth 100000 in
set_option maxHeartbeats 8000000 in
theorem refeq_lists (k : Int) (x : Bool) (n : Int) (s : ByteArray) (ka : Option Addr) (ks : List ByteArray) (kc : Nat) (la : Option Addr) (ts : List Tree) (lc : Nat) (k' : Int) (x' : Bool) (n' : Int) (s' : ByteArray) (ka' : Option Addr) (ks' : List ByteArray) (kc' : Nat) (la' : Option Addr) (ts' : List Tree) (lc' : Nat) (w : World)
    (ih : ∀ t ∈ ts, ∀ (B : Nat) (v v' : Value) (T' : Tree) (w : World), B ≤ w.heap.size → Lies B w v t → Lies B w v' T' → Known t → Known T' → Calls Tryz.prog 35 #[v, v'] w fun e w' => e = .returned (.int .i64 (eqT t T')) ∧ Below w.heap.size w w')
    (B : Nat) (hB : B ≤ w.heap.size) (hK : KeysLie B w ka ks) (hT : ListLies B w la ts) (hK' : KeysLie B w ka' ks') (hT' : ListLies B w la' ts') (hs2 : ks.length ≤ kc) (hs3 : kc ≤ maxLen) (hs4 : ts.length ≤ lc) (hs5 : lc ≤ maxLen)
    (gs2 : ks'.length ≤ kc') (gs3 : kc' ≤ maxLen) (gs4 : ts'.length ≤ lc') (gs5 : lc' ≤ maxLen) (hkn : KnownL ts) (hkn' : KnownL ts') (e0 : (k == 0) = false) (f0 : (k' == 0) = false) (e1 : (k == k') = true) (z45 : (k != 4) = false ∨ ((k != 4) = true ∧ (k != 5) = false)) (res : Int)
    (hres : res = if ts.length ≠ ts'.length ∨ agS ks ks' ≠ 0 then 0 else eqL 2 ts ts') :
    Calls Tryz.prog 35 #[.agg #[.int .i64 k, .bool x, .int .i64 n, .string s, .slice ka ks.length kc, .slice la ts.length lc], .agg #[.int .i64 k', .bool x', .int .i64 n', .string s', .slice ka' ks'.length kc', .slice la' ts'.length lc']] w fun e w' => e = .returned (.int .i64 res) ∧ Below w.heap.size w w' := by
  by_cases hkl : ks.length = ks'.length
  case neg => exact refeq_unlike k x n s ka ks kc la ts lc k' x' n' s' ka' ks' kc' la' ts' lc' w ih B hB hK hT hK' hT' hs2 hs3 hs4 hs5 gs2 gs3 gs4 gs5 hkn hkn' e0 f0 e1 z45 (.inl hkl) res hres
  by_cases htl : ts.length = ts'.length
  case neg => exact refeq_unlike k x n s ka ks kc la ts lc k' x' n' s' ka' ks' kc' la' ts' lc' w ih B hB hK hT hK' hT' hs2 hs3 hs4 hs5 gs2 gs3 gs4 gs5 hkn hkn' e0 f0 e1 z45 (.inr htl) res hres
  rcases z45 with e4 | ⟨e4, e5⟩
  · exact refeq_a k x n s ka ks kc la ts lc k' x' n' s' ka' ks' kc' la' ts' lc' w ih B hB hK hT hK' hT' hs2 hs3 hs4 hs5 gs2 gs3 gs4 gs5 hkn hkn' e0 f0 e1 e4 hkl htl res hres
  · exact refeq_b k x n s ka ks kc la ts lc k' x' n' s' ka' ks' kc' la' ts' lc' w ih B hB hK hT hK' hT' hs2 hs3 hs4 hs5 gs2 gs3 gs4 gs5 hkn hkn' e0 f0 e1 e4 e5 hkl htl res hres


theorem refeq_any : ∀ (T : Tree) (B : Nat) (v v' : Value) (T' : Tree) (w : World), B ≤ w.heap.size → Lies B w v T → Lies B w v' T' → Known T → Known T' →
    Calls Tryz.prog 35 #[v, v'] w fun e w' => e = .returned (.int .i64 (eqT T T')) ∧ Below w.heap.size w w' := by
  refine Tree.ind ?_
  intro k x n s ks ts ih B v v' T' w hB hv hv' hkn hkn'
  obtain ⟨k', x', n', s', ks', ts'⟩ := T'
  have HV := hv
  have HV' := hv'
  have HK := hkn
  have HK' := hkn'
  simp only [Lies] at hv hv'
  simp only [Known] at hkn hkn'
  obtain ⟨ka, kc, la, lc, rfl, ⟨hs1, hs2, hs3, hs4, hs5⟩, hk, ht⟩ := hv
  obtain ⟨ka', kc', la', lc', rfl, ⟨gs1, gs2, gs3, gs4, gs5⟩, hk', ht'⟩ := hv'
  have heq : eqT (.mk k x n s ks ts) (.mk k' x' n' s' ks' ts') = (if k = 0 ∨ k' = 0 then 1 else if k ≠ k' then 0 else if k ≠ 4 ∧ k ≠ 5 then truthI (ordT (.mk k x n s ks ts) (.mk k' x' n' s' ks' ts') == 0)
    else if ts.length ≠ ts'.length ∨ agS ks ks' ≠ 0 then 0 else eqL 2 ts ts') := by rw [eqT]
  rw [heq]
  by_cases h0 : k = 0
  · rw [if_pos (.inl h0)]
    exact refeq_null1 k x n s ka ks.length kc la ts.length lc k' x' n' s' ka' ks'.length kc' la' ts'.length lc' w h0
  by_cases g0 : k' = 0
  · rw [if_pos (.inr g0)]
    exact refeq_null2 k x n s ka ks.length kc la ts.length lc k' x' n' s' ka' ks'.length kc' la' ts'.length lc' w h0 g0
  rw [if_neg (by intro h; rcases h with h | h; exact h0 h; exact g0 h)]
  by_cases hne : k = k'
  case neg =>
    rw [if_pos hne]
    exact refeq_ne k x n s ka ks.length kc la ts.length lc k' x' n' s' ka' ks'.length kc' la' ts'.length lc' w h0 g0 hne
  rw [if_neg (fun h => h hne)]
  by_cases hp : k ≠ 4 ∧ k ≠ 5
  · rw [if_pos hp]
    exact refeq_plain k x n s ka ks.length kc la ts.length lc k' x' n' s' ka' ks'.length kc' la' ts'.length lc' w h0 g0 hne hp.1 hp.2 _
      (fun W hb => refcmp_any _ B _ _ _ W (Nat.le_trans hB hb.size) (HV.below (hb.mono hB)) (HV'.below (hb.mono hB)) HK HK')
  · rw [if_neg hp]
    refine refeq_lists k x n s ka ks kc la ts lc k' x' n' s' ka' ks' kc' la' ts' lc' w ih B hB hk ht hk' ht' hs2 hs3 hs4 hs5 gs2 gs3 gs4 gs5 hkn.2 hkn'.2 (ne_bool h0) (ne_bool g0) (eq_bool hne) ?_ _ rfl
    by_cases h4 : k = 4
    · exact .inl (by rw [h4]; rfl)
    · have h5 : k = 5 := by omega
      exact .inr ⟨bne_iff_ne.2 h4, by rw [h5]; rfl⟩
end Go.Proofs.YtbpmhgcjefpigaaGreatDoor

namespace Go.Proofs.YtbpmhgcjefpigaaGreatDoor
open Go.RowKit Go.Shelf Go.WideShapes
set_option linter.unusedVariables false
set_option linter.unusedSimpArgs false

def spareB : ByteArray := ⟨#[115, 112, 97, 114, 101]⟩
mutual
/-- A value in registers, what is in it in blocks that are so, each list with one place more behind it. -/
def SpareP (p : Nat → Prop) (w : World) : Value → Tree → Prop
  | v, .mk k b n s ks ts => ∃ bk kc bl lc, v = .agg #[.int .i64 k, .bool b, .int .i64 n, .string s, .slice (some ⟨bk, 0, none⟩) ks.length kc, .slice (some ⟨bl, 0, none⟩) ts.length lc] ∧
      (s.size ≤ maxLen ∧ ks.length < kc ∧ kc ≤ maxLen ∧ ts.length < lc ∧ lc ≤ maxLen) ∧ (p bk ∧ p bl) ∧
      (∀ i, i < ks.length → w.cell? ⟨bk, i, none⟩ = some (.string (ks.getD i ⟨#[]⟩)) ∧ (ks.getD i ⟨#[]⟩).size ≤ maxLen) ∧ w.cell? ⟨bk, ks.length, none⟩ = some (.string spareB) ∧
      SpareKids p w bl 0 ts ∧ w.cell? ⟨bl, ts.length * 6, none⟩ = some (.int .i64 77)
def SpareKids (p : Nat → Prop) (w : World) (bl : Nat) : Nat → List Tree → Prop
  | _, [] => True
  | off, t :: ts => (∃ v0 v1 v2 v3 v4 v5, (w.cell? ⟨bl, off, none⟩ = some v0 ∧ w.cell? ⟨bl, off + 1, none⟩ = some v1 ∧ w.cell? ⟨bl, off + 2, none⟩ = some v2 ∧ w.cell? ⟨bl, off + 3, none⟩ = some v3 ∧
      w.cell? ⟨bl, off + 4, none⟩ = some v4 ∧ w.cell? ⟨bl, off + 5, none⟩ = some v5) ∧ SpareP p w (.agg #[v0, v1, v2, v3, v4, v5]) t) ∧ SpareKids p w bl (off + 6) ts
end
/-- The blocks that are so stay. -/
def Stay (p : Nat → Prop) (w w' : World) : Prop := ∀ b i, p b → w'.cell? ⟨b, i, none⟩ = w.cell? ⟨b, i, none⟩
theorem Stay.cell {p : Nat → Prop} {w w' : World} (h : Stay p w w') {b i : Nat} (hb : p b) : w'.cell? ⟨b, i, none⟩ = w.cell? ⟨b, i, none⟩ := h b i hb
mutual
theorem SpareP.keep {p : Nat → Prop} {w w' : World} (h : Stay p w w') : ∀ {v : Value} {T : Tree}, SpareP p w v T → SpareP p w' v T
  | v, .mk k b n s ks ts, hl => by
    simp only [SpareP] at hl ⊢
    obtain ⟨bk, kc, bl, lc, hv, hb, ⟨h1, h2⟩, hk, hs, ht, hx⟩ := hl
    exact ⟨bk, kc, bl, lc, hv, hb, ⟨h1, h2⟩, fun i hi => ⟨(h.cell h1).trans (hk i hi).1, (hk i hi).2⟩, (h.cell h1).trans hs, SpareKids.keep h h2 ht, (h.cell h2).trans hx⟩
theorem SpareKids.keep {p : Nat → Prop} {w w' : World} (h : Stay p w w') {bl : Nat} (hlt : p bl) : ∀ {off : Nat} {ts : List Tree}, SpareKids p w bl off ts → SpareKids p w' bl off ts
  | off, [], hl => by simp only [SpareKids]
  | off, t :: ts, hl => by
    simp only [SpareKids] at hl ⊢
    obtain ⟨⟨v0, v1, v2, v3, v4, v5, ⟨c0, c1, c2, c3, c4, c5⟩, hv⟩, hr⟩ := hl
    exact ⟨⟨v0, v1, v2, v3, v4, v5, ⟨(h.cell hlt).trans c0, (h.cell hlt).trans c1, (h.cell hlt).trans c2, (h.cell hlt).trans c3, (h.cell hlt).trans c4, (h.cell hlt).trans c5⟩, SpareP.keep h hv⟩, SpareKids.keep h hlt hr⟩
end
mutual
theorem SpareP.mono {p q : Nat → Prop} {w : World} (h : ∀ b, p b → q b) : ∀ {v : Value} {T : Tree}, SpareP p w v T → SpareP q w v T
  | v, .mk k b n s ks ts, hl => by
    simp only [SpareP] at hl ⊢
    obtain ⟨bk, kc, bl, lc, hv, hb, ⟨h1, h2⟩, hk, hs, ht, hx⟩ := hl
    exact ⟨bk, kc, bl, lc, hv, hb, ⟨h _ h1, h _ h2⟩, hk, hs, SpareKids.mono h ht, hx⟩
theorem SpareKids.mono {p q : Nat → Prop} {w : World} (h : ∀ b, p b → q b) {bl : Nat} : ∀ {off : Nat} {ts : List Tree}, SpareKids p w bl off ts → SpareKids q w bl off ts
  | off, [], hl => by simp only [SpareKids]
  | off, t :: ts, hl => by
    simp only [SpareKids] at hl ⊢
    obtain ⟨⟨v0, v1, v2, v3, v4, v5, hc, hv⟩, hr⟩ := hl
    exact ⟨⟨v0, v1, v2, v3, v4, v5, hc, SpareP.mono h hv⟩, SpareKids.mono h hr⟩
end
/-- In blocks below B. -/
abbrev Spare (B : Nat) (w : World) (v : Value) (T : Tree) : Prop := SpareP (· < B) w v T
theorem Spare.below {B : Nat} {w w' : World} {v : Value} {T : Tree} (h : Below B w w') (hs : Spare B w v T) : Spare B w' v T := SpareP.keep (fun b i hb => h.cell (p := ⟨b, i, none⟩) hb) hs
theorem Spare.mono {B B' : Nat} {w : World} {v : Value} {T : Tree} (h : B ≤ B') (hs : Spare B w v T) : Spare B' w v T := SpareP.mono (fun b hb => Nat.lt_of_lt_of_le hb h) hs
mutual
theorem Spare.lies {B : Nat} {w : World} : ∀ {v : Value} {T : Tree}, SpareP (· < B) w v T → Lies B w v T
  | v, .mk k b n s ks ts, hl => by
    simp only [SpareP] at hl
    simp only [Lies]
    obtain ⟨bk, kc, bl, lc, hv, ⟨g1, g2, g3, g4, g5⟩, ⟨h1, h2⟩, hk, hs, ht, hx⟩ := hl
    exact ⟨_, kc, _, lc, hv, ⟨g1, by omega, g3, by omega, g5⟩, .inr ⟨bk, 0, rfl, h1, fun i hi => by rw [Nat.zero_add]; exact hk i hi⟩, .inr ⟨bl, 0, rfl, h2, SpareKids.lies ht⟩⟩
theorem SpareKids.lies {B : Nat} {w : World} {bl : Nat} : ∀ {off : Nat} {ts : List Tree}, SpareKids (· < B) w bl off ts → KidsLie B w bl off ts
  | off, [], hl => by simp only [KidsLie]
  | off, t :: ts, hl => by
    simp only [SpareKids] at hl
    simp only [KidsLie]
    obtain ⟨⟨v0, v1, v2, v3, v4, v5, hc, hv⟩, hr⟩ := hl
    exact ⟨⟨v0, v1, v2, v3, v4, v5, hc, Spare.lies hv⟩, SpareKids.lies hr⟩
end
theorem SpareKids.at {p : Nat → Prop} {w : World} {bl : Nat} : ∀ {ts : List Tree} {off : Nat}, SpareKids p w bl off ts → ∀ {i : Nat} {t : Tree}, ts[i]? = some t →
    ∃ v0 v1 v2 v3 v4 v5, (w.cell? ⟨bl, off + i * 6, none⟩ = some v0 ∧ w.cell? ⟨bl, off + i * 6 + 1, none⟩ = some v1 ∧ w.cell? ⟨bl, off + i * 6 + 2, none⟩ = some v2 ∧ w.cell? ⟨bl, off + i * 6 + 3, none⟩ = some v3 ∧
      w.cell? ⟨bl, off + i * 6 + 4, none⟩ = some v4 ∧ w.cell? ⟨bl, off + i * 6 + 5, none⟩ = some v5) ∧ SpareP p w (.agg #[v0, v1, v2, v3, v4, v5]) t
  | [], off, _, i, t, h => by simp at h
  | t :: ts, off, hl, 0, u, h => by
    simp only [SpareKids] at hl
    simp at h; subst h
    simpa using hl.1
  | t :: ts, off, hl, i + 1, u, h => by
    simp only [SpareKids] at hl
    have := SpareKids.at hl.2 (i := i) (t := u) (by simpa using h)
    rw [show off + 6 + i * 6 = off + (i + 1) * 6 from by omega] at this
    exact this
/-- Values in a row of cells, not yet laid. -/
def Row6 (p : Nat → Prop) (w : World) : List Value → List Tree → Prop
  | [], [] => True
  | c0 :: c1 :: c2 :: c3 :: c4 :: c5 :: r, t :: ts => SpareP p w (.agg #[c0, c1, c2, c3, c4, c5]) t ∧ Row6 p w r ts
  | _, _ => False
theorem Row6.snoc {p : Nat → Prop} {w : World} {c0 c1 c2 c3 c4 c5 : Value} {t : Tree} (ht : SpareP p w (.agg #[c0, c1, c2, c3, c4, c5]) t) : ∀ {xs : List Value} {ts : List Tree}, Row6 p w xs ts → Row6 p w (xs ++ [c0, c1, c2, c3, c4, c5]) (ts ++ [t])
  | [], [], _ => by simp only [List.nil_append, Row6]; exact ⟨ht, trivial⟩
  | d0 :: d1 :: d2 :: d3 :: d4 :: d5 :: r, u :: us, h => by
    simp only [Row6] at h
    simp only [List.cons_append, Row6]
    exact ⟨h.1, Row6.snoc ht h.2⟩
  | [], _ :: _, h => by simp [Row6] at h
  | _ :: _, [], h => by simp [Row6] at h
  | [_], _ :: _, h => by simp [Row6] at h
  | [_, _], _ :: _, h => by simp [Row6] at h
  | [_, _, _], _ :: _, h => by simp [Row6] at h
  | [_, _, _, _], _ :: _, h => by simp [Row6] at h
  | [_, _, _, _, _], _ :: _, h => by simp [Row6] at h
theorem Row6.keep {p q : Nat → Prop} {w w' : World} (hs : Stay p w w') (h : ∀ b, p b → q b) : ∀ {xs : List Value} {ts : List Tree}, Row6 p w xs ts → Row6 q w' xs ts
  | [], [], _ => by simp only [Row6]
  | d0 :: d1 :: d2 :: d3 :: d4 :: d5 :: r, u :: us, hr => by
    simp only [Row6] at hr ⊢
    exact ⟨(hr.1.keep hs).mono h, Row6.keep hs h hr.2⟩
  | [], _ :: _, h => by simp [Row6] at h
  | _ :: _, [], h => by simp [Row6] at h
  | [_], _ :: _, h => by simp [Row6] at h
  | [_, _], _ :: _, h => by simp [Row6] at h
  | [_, _, _], _ :: _, h => by simp [Row6] at h
  | [_, _, _, _], _ :: _, h => by simp [Row6] at h
  | [_, _, _, _, _], _ :: _, h => by simp [Row6] at h
theorem Row6.kids {p : Nat → Prop} {w : World} {g : Nat} : ∀ {xs : List Value} {ts : List Tree} {off : Nat}, Row6 p w xs ts → (∀ j u, xs[j]? = some u → w.cell? ⟨g, off + j, none⟩ = some u) → SpareKids p w g off ts
  | [], [], _, _, _ => by simp only [SpareKids]
  | d0 :: d1 :: d2 :: d3 :: d4 :: d5 :: r, u :: us, off, hr, hc => by
    simp only [Row6] at hr
    simp only [SpareKids]
    refine ⟨⟨d0, d1, d2, d3, d4, d5, ⟨hc 0 _ rfl, hc 1 _ rfl, hc 2 _ rfl, hc 3 _ rfl, hc 4 _ rfl, hc 5 _ rfl⟩, hr.1⟩, Row6.kids hr.2 fun j v hv => ?_⟩
    have := hc (j + 6) v (by simpa using hv)
    rwa [show off + (j + 6) = off + 6 + j from by omega] at this
  | [], _ :: _, _, h, _ => by simp [Row6] at h
  | _ :: _, [], _, h, _ => by simp [Row6] at h
  | [_], _ :: _, _, h, _ => by simp [Row6] at h
  | [_, _], _ :: _, _, h, _ => by simp [Row6] at h
  | [_, _, _], _ :: _, _, h, _ => by simp [Row6] at h
  | [_, _, _, _], _ :: _, _, h, _ => by simp [Row6] at h
  | [_, _, _, _, _], _ :: _, _, h, _ => by simp [Row6] at h

theorem strings_get (ks : List ByteArray) {j : Nat} {u : Value} (h : (ks.map Value.string)[j]? = some u) : j < ks.length ∧ u = .string (ks.getD j ⟨#[]⟩) := by
  rw [List.getElem?_map] at h
  obtain ⟨x, h1, rfl⟩ := Option.map_eq_some_iff.1 h
  obtain ⟨h2, h3⟩ := List.getElem?_eq_some_iff.1 h1
  exact ⟨h2, by rw [List.getD_eq_getElem?_getD, h1]; rfl⟩

/-- A row of keys is put behind a row of the call's own. -/
theorem append_keys {ty : TypeId} {base n B kc : Nat} {v : Value} {xs : List Value} {w : World} {ka : Option Addr} {ks : List ByteArray} (hown : w.ownsRow base 9 1 v n xs) (hk : KeysLie B w ka ks) (hn : n + ks.length ≤ 1000000) (hb : base ≤ w.heap.size) :
    ∃ v' w', (Builtin.append_ #[23, 23] ty #[v, .slice ka ks.length kc]).run Tryz.prog w = .ok v' w' ∧ w'.ownsRow base 9 1 v' (n + ks.length) (xs ++ ks.map .string) ∧ w.grownBy w' v.ownBlock ∧ (v'.ownBlock = v.ownBlock ∨ v'.ownBlock = some w.heap.size) := by
  obtain ⟨i0, hi, hz0, hz1, hz2⟩ := info_parts Tryz.info9
  cases ka with
  | none =>
    have hks : ks = [] := by
      rcases hk with h | ⟨_, _, h, _⟩
      · exact h
      · cases h
    subst hks
    refine ⟨v, w, ?_, by simpa using hown, ⟨rfl, rfl, rfl, Nat.le_refl _, fun _ _ _ => rfl⟩, .inl rfl⟩
    rcases hown.2 with ⟨rfl, rfl⟩ | ⟨g, cap, cur, rfl, _, _, hnc, _⟩
    · simp [Builtin.append_, run_underlying Tryz.underlying23, sizeOf, typeInfo, hi, Builtin.lenOf, Builtin.firstCells]
    · simp [Builtin.append_, run_underlying Tryz.underlying23, sizeOf, typeInfo, hi, Builtin.lenOf, Builtin.firstCells, hnc, storeCells]
  | some ad =>
    obtain ⟨v', w', hr, h2, h3, _, h5⟩ := run_append_own_at (P := Tryz.prog) w base 23 ty 9 i0 (.string ⟨#[]⟩) 1 16 Tryz.underlying23 hi hz0 hz1 hz2 rfl (by decide) v n xs hown ad ks.length kc (ks.map .string) (by simp) (fun j u hu => by
        obtain ⟨hj, rfl⟩ := strings_get ks hu
        rcases hk with h | ⟨b, off, h, _, hc⟩
        · subst h; simp at hj
        · obtain rfl : ad = ⟨b, off, none⟩ := Option.some.inj h
          rw [add_plain]; exact (hc j hj).1) (fun u hu => by
        obtain ⟨x, _, rfl⟩ := List.mem_map.1 hu; rfl) (by unfold maxLen; omega) (by omega) hb
    exact ⟨v', w', hr, h2, h3, h5⟩
end Go.Proofs.YtbpmhgcjefpigaaGreatDoor

