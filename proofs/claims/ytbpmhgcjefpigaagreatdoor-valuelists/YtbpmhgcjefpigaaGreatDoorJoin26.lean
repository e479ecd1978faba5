/- Sorted, at any list of values. value.Size: how many values there are, and how deep. Storable, the program's and the document's. Text and Once of a value that is refused. -/
import Derived.Test.YtbpmhgcjefpigaaGreatDoorJoin25
import Derived.Test.YtbpmhgcjefpigaaGreatDoorJoin5
import Derived.Test.YtbpmhgcjefpigaaGreatDoorJoin3
import Derived.Test.YtbpmhgcjefpigaaGreatDoorJoin14
import Derived.Test.YtbpmhgcjefpigaaGreatDoorJoin11
import Derived.Test.YtbpmhgcjefpigaaGreatDoorJoin17
import Derived.Lib.ValidLaws
namespace Go.Proofs.YtbpmhgcjefpigaaGreatDoor
open Go.RowKit Go.Shelf Go.WideShapes Go.Lib
set_option linter.unusedVariables false
set_option linter.unusedSimpArgs false
theorem Ents.mono {A A' : Nat} {g : Option Nat} {w : World} {es : List Ent} (h : Ents A g w es) (ha : A' ≤ A) : Ents A' g w es := ⟨fun e he => ⟨(h.ok e he).lies, Nat.le_trans ha (h.ok e he).start, (h.ok e he).le, (h.ok e he).upto, (h.ok e he).row⟩, h.ap⟩
def CopyRow (A : Nat) (w : World) (la : Option Addr) (es : List Ent) : Prop := es = [] ∨ ∃ g, la = some ⟨g, 0, none⟩ ∧ A ≤ g ∧ g < w.heap.size ∧ RowAt g w es ∧ Ents A (some g) w es
theorem CopyRow.lies {A B : Nat} {w : World} {la : Option Addr} {es : List Ent} (h : CopyRow A w la es) (hB : w.heap.size ≤ B) : ListLies B w la (es.map Ent.t) := by
 rcases h with rfl | ⟨g, e, h1, h2, h3, h4⟩
 ·exact .inl rfl
 ·exact .inr ⟨g, 0, e, by omega, RowAt.kids (A := A) (o := some g) (fun j e he q v hv => by rw [Nat.zero_add]; exact h3 j e he q v hv) h4.ok hB⟩
theorem refused_not {ts : List Tree} (h : (ts.any fun t => checkN t != 0) = false) : ∀ t ∈ ts, checkN t = 0 := fun t ht => by
 have := List.any_eq_false.1 h t ht
 simpa using this
theorem refused_so {ts : List Tree} (h : (ts.any fun t => checkN t != 0) = true) : ¬ ∀ t ∈ ts, checkN t = 0 := fun hc => by
 obtain ⟨t, ht, h⟩ := List.any_eq_true.1 h
 simp [hc t ht] at h
theorem totalL_bound : ∀ {ts : List Tree}, (∀ t ∈ ts, t.total ≤ 2000) → Tree.totalL ts ≤ 2000 * ts.length
 | [], _ => by simp [Tree.totalL]
 | t :: r, h => by
  have h0 := h t (List.mem_cons_self ..)
  have h1 := totalL_bound (ts := r) fun u hu => h u (List.mem_cons_of_mem _ hu)
  simp only [Tree.totalL, List.length_cons]
  omega
theorem totalL_small {ts : List Tree} (h : ∀ t ∈ ts, t.total ≤ 2000) (hl : ts.length ≤ 60) : Tree.totalL ts ≤ 1000000 := by
 have := totalL_bound h
 omega
def SortedTo (ts : List Tree) (A : Nat) (e : Ending) (w' : World) : Prop :=
 ((∀ t ∈ ts, checkN t = 0) ∧ ∃ la lc es, e = .returned (.slice la ts.length lc) ∧ (ts.length ≤ lc ∧ lc ≤ maxLen) ∧ es.map Ent.t = srtL ts ∧ CopyRow A w' la es) ∨ ((¬ ∀ t ∈ ts, checkN t = 0) ∧ e = .returned (.slice none 0 0))
set_option maxRecDepth 100000 in
set_option maxHeartbeats 2000000 in
theorem sorted_any (ts : List Tree) (B : Nat) (la : Option Addr) (lc : Nat) (w : World) (hB : B ≤ w.heap.size) (hl : ListLies B w la ts) (h1 : ts.length ≤ lc) (h2 : lc ≤ maxLen) (htot : Tree.totalL ts ≤ 1000000) (hT : Tabs w) (hm : ∀ t ∈ ts, Modest t) :
  Calls Tryz.prog 46 #[.slice la ts.length lc] w fun e w' => SortedTo ts w.heap.size e w' ∧ Below w.heap.size w w' := by
 have HR := hidE (refused_any ts B la lc w hB hl h1 h2 hT hm)
 obtain ⟨r, hr⟩ : ∃ r, (ts.any fun t => checkN t != 0) = r := ⟨_, rfl⟩
 rw [hr] at HR
 have h2' := h2
 unfold maxLen at h2'
 cases r with
 | true =>
  have HBAD := hidE (refused_so hr)
  clear hr hl hT hm htot h2
  go_enter Tryz.func46, Tryz.ntmps46
  go_wp2_with fail
  refine HR.out.mono ?_
  rintro e w1 ⟨rfl, hb1⟩
  have HB1 := hidE hb1
  clear hb1
  go_wp2_with fail
  go_ret
  exact ⟨.inr ⟨HBAD.out, rfl⟩, HB1.out⟩
 | false =>
  have HOK := hidE (refused_not hr)
  cases la with
  | none =>
   have h0 : ts = [] := hl.elim id fun ⟨bl, off, e, _⟩ => by cases e
   subst h0
   clear hr hl hT hm htot h2
   go_enter Tryz.func46, Tryz.ntmps46
   go_wp2_with fail
   refine HR.out.mono ?_
   rintro e w1 ⟨rfl, hb1⟩
   have HB1 := hidE hb1
   clear hb1
   go_wp2_with fail
   refine (copies_nil 0 lc w1).mono ?_
   rintro e w2 ⟨rfl, rfl⟩
   go_wp2_with fail
   refine (Tryz.slices_SortFunc_none85 none 0 _ w2).mono ?_
   rintro e w3 ⟨rfl, rfl⟩
   go_wp2_with fail
   go_ret
   exact ⟨.inl ⟨HOK.out, none, 0, [], rfl, ⟨Nat.le_refl _, by unfold maxLen; omega⟩, rfl, .inl rfl⟩, HB1.out⟩
  | some a =>
   have HCP : Hid (∀ w1, Below w.heap.size w w1 → Calls Tryz.prog 61 #[.slice (some a) ts.length lc] w1 fun e w' => ∃ es, e = .returned (.slice (some ⟨w1.heap.size, 0, none⟩) ts.length ts.length) ∧ CopAt w1.heap.size w' ts es ∧ Room w' w1.heap.size ts.length ∧ w1.heap.size < w'.heap.size ∧ Below w1.heap.size w1 w') := fun w1 hb =>
    copies_someO ts (fun t _ => copy_anyF t) B a lc w1 (Nat.le_trans hB hb.size) (hl.below (hb.mono hB)) h1 h2 htot
   have HLEN : Hid (ts.length ≤ 1000000) := by have := totalL_len ts; show _ ≤ _; omega
   clear hr hl hT hm htot h2
   go_enter Tryz.func46, Tryz.ntmps46
   go_wp2_with fail
   refine HR.out.mono ?_
   rintro e w1 ⟨rfl, hb1⟩
   have HB1 := hidE hb1
   clear hb1
   go_wp2_with fail
   refine (HCP.out w1 HB1.out).mono ?_
   rintro e w2 ⟨es, rfl, hcop, hroom, hlt, hb2⟩
   have hel : es.length = ts.length := by have := congrArg List.length hcop.ts; simpa using this
   have HS := hidE (sort_row (cap := ts.length) (Nat.lt_succ_self _) hlt hcop.cells (by rw [hel]; exact hroom) hcop.ents (fun e he => HOK.out e.t (hcop.ts ▸ List.mem_map_of_mem he)) (by rw [hel]; exact HLEN.out))
   rw [hel] at HS
   have H2 := hidE (And.intro hcop (And.intro hlt hb2))
   clear hcop hroom hlt hb2
   go_wp2_with fail
   refine HS.out.mono ?_
   rintro e w3 ⟨es', rfl, hts, hrow, hents, hb3⟩
   have H3 := hidE (And.intro hts (And.intro hrow (And.intro hents hb3)))
   clear hts hrow hents hb3 HS
   go_wp2_with fail
   go_ret
   obtain ⟨hcop, hlt, hb2⟩ := H2.out
   obtain ⟨hts, hrow, hents, hb3⟩ := H3.out
   have hs1 := HB1.out.size
   refine ⟨.inl ⟨HOK.out, some ⟨w1.heap.size, 0, none⟩, ts.length, es', rfl, ⟨Nat.le_refl _, ?_⟩, by rw [hts, hcop.ts], .inr ⟨w1.heap.size, rfl, hs1, Nat.lt_of_lt_of_le hlt hb3.size, hrow, hents.mono (by omega)⟩⟩, (HB1.out.trans (hb2.mono hs1)).trans (hb3.mono hs1)⟩
   have := HLEN.out
   unfold maxLen; omega
end Go.Proofs.YtbpmhgcjefpigaaGreatDoor

namespace Go.Proofs.YtbpmhgcjefpigaaGreatDoor
open Go.RowKit Go.Shelf
set_option linter.unusedVariables false
attribute [local go_sem] Oper.semAt_some
end Go.Proofs.YtbpmhgcjefpigaaGreatDoor

namespace Go.Proofs.YtbpmhgcjefpigaaGreatDoor
open Go.RowKit Go.Shelf
set_option linter.unusedVariables false
def firstK (ts : List Tree) : Int := match ts with | [] => 0 | t :: _ => t.kind
theorem KidsLie.first {B bl off : Nat} {w : World} {ts : List Tree} (h : KidsLie B w bl off ts) (h0 : 0 < ts.length) : w.cell? ⟨bl, off, none⟩ = some (.int .i64 (firstK ts)) := by
 obtain ⟨⟨p0, p1, p2, p3, p4, p5⟩, hx⟩ : ∃ t, ts[0]? = some t := ⟨_, List.getElem?_eq_getElem h0⟩
 obtain ⟨_, _, _, _, ⟨c0, _⟩, _⟩ := h.cells hx
 cases ts with
 | nil => simp at h0
 | cons t r =>
  simp at hx; subst hx
  simpa [firstK, Tree.kind] using c0
end Go.Proofs.YtbpmhgcjefpigaaGreatDoor

namespace Go.Proofs.YtbpmhgcjefpigaaGreatDoor
open Go.RowKit Go.Shelf
set_option linter.unusedVariables false
set_option maxHeartbeats 1000000 in
theorem Text_not (T : Tree) (hc : checkN T ≠ 0) (hm : Modest T) (B : Nat) (v : Value) (w : World) (hB : B ≤ w.heap.size) (hv : Lies B w v T) (hT : Tabs w) :
  Calls Tryz.prog 39 #[v] w fun e w' => e = .returned (.tuple #[.string ⟨#[]⟩, .int .i64 (checkN T)]) ∧ Below w.heap.size w w' := by
 have hv0 := hv
 obtain ⟨k, b, nn, s, ks, ts⟩ := T
 simp only [Lies] at hv
 obtain ⟨ka, kc, la, lc, rfl, -⟩ := hv
 obtain ⟨W1, hW1⟩ : ∃ W1, w.alloc (.cells #[.int .i64 k, .bool b, .int .i64 nn, .string s, .slice ka ks.length kc, .slice la ts.length lc] 26) = W1 := ⟨_, rfl⟩
 have hb1 : Below w.heap.size w W1 := hW1 ▸ (Below.refl _ _).alloc (Nat.le_refl _) _
 have hl1 := (hv0.below (hb1.mono hB)).mono (Nat.le_trans hB hb1.size)
 have HC := hidE (check_any _ _ _ hl1 (hT.below hb1) hm.1 hm.2)
 obtain ⟨cn, hcn⟩ : ∃ x, checkN (.mk k b nn s ks ts) = x := ⟨_, rfl⟩
 rw [hcn] at HC hc ⊢
 have hc' : (cn != 0) = true := by simp [hc]
 have HB1 := hidE hb1
 have HW1 := hidE hW1
 clear hW1 hb1 hl1 hT hm hv0 hcn hc
 go_enter Tryz.func39, Tryz.ntmps39
 go_wp2_with fail
 rw [HW1.out]
 refine HC.out.mono ?_
 rintro e w2 ⟨rfl, hb2⟩
 have HB2 : Hid (Below w.heap.size w w2) := below_on HB1.out hb2
 clear hb2 HC HW1
 go_wp2_with fail
 go_ret2
 exact ⟨rfl, HB2.out⟩
end Go.Proofs.YtbpmhgcjefpigaaGreatDoor

