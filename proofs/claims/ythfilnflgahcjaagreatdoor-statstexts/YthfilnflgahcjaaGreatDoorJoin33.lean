/- The text of the number one. The chapter's graph, counted. What is reckoned from counts: how many relationships a node has. Something of each row. -/
import Derived.Test.YthfilnflgahcjaaGreatDoorJoin27
import Derived.Test.YthfilnflgahcjaaGreatDoorJoin16
import Derived.Test.YthfilnflgahcjaaGreatDoorJoin30
import Derived.Test.YthfilnflgahcjaaGreatDoorJoin31
import Derived.Test.YthfilnflgahcjaaGreatDoorJoin32
import Derived.Test.YthfilnflgahcjaaGreatDoorJoin9
import Derived.Test.YthfilnflgahcjaaGreatDoorJoin6
import Derived.Test.YthfilnflgahcjaaGreatDoorJoin5
import Derived.Deep.Cut
namespace Go.Proofs.YthfilnflgahcjaaGreatDoor
open Go.RowKit Go.Shelf Go.Lib
set_option linter.unusedVariables false
set_option linter.unusedSimpArgs false
attribute [local go_sem] Oper.semAt_some
set_option maxRecDepth 100000 in
theorem small_one (w : World) : Calls Tryz.prog 163 #[.int .i64 1] w fun e w' => e = .returned (.string ⟨#[49]⟩) ∧ w' = w := by
  go_enter Tryz.func163, Tryz.ntmps163
  go_wp2_with fail
  go_ret
  exact ⟨rfl, rfl⟩
/-- A row of bytes that has this one. -/
def OneB (e : Ending) (w w' : World) : Prop := ∃ g c, e = .returned (.slice (some ⟨g, 0, none⟩) 1 c) ∧ w'.cell? ⟨g, 0, none⟩ = some (.int .u8 49) ∧ Below w.heap.size w w'
set_option maxRecDepth 100000 in
theorem appendUint_one (w : World) : Calls Tryz.prog 253 #[.slice none 0 0, .int .u64 1, .int .i64 10] w fun e w' => OneB e w w' := by
  go_enter Tryz.func253, Tryz.ntmps253
  go_wp2_with fail
  refine (small_one w).mono ?_
  rintro e w1 ⟨rfl, hw⟩
  subst hw
  go_wp2_with fail
  go_ret
  refine ⟨_, _, rfl, ?_, ((Below.refl _ _).alloc (Nat.le_refl _) _).drew⟩
  show World.cell? (World.alloc _ _) _ = _
  refine cell_new _ _ _ 0 _ ?_
  rw [Array.getElem?_append_left (by decide)]
  rfl
set_option maxRecDepth 100000 in
theorem appendInt_one (w : World) : Calls Tryz.prog 239 #[.slice none 0 0, .int .i64 1, .int .i64 10] w fun e w' => OneB e w w' := by
  have HC := hidE (appendUint_one w)
  go_enter Tryz.func239, Tryz.ntmps239
  go_wp2_with fail
  refine HC.out.mono ?_
  rintro e w' ⟨g, c, rfl, h1, h2⟩
  have HT := hidE (And.intro h1 h2)
  clear h1 h2 HC
  go_wp2_with fail
  go_ret
  exact ⟨g, c, rfl, HT.out.1, HT.out.2⟩
set_option maxRecDepth 100000 in
theorem appendInt_pub (w : World) : Calls Tryz.prog 202 #[.slice none 0 0, .int .i64 1, .int .i64 10] w fun e w' => OneB e w w' := by
  have HC := hidE (appendInt_one w)
  go_enter Tryz.func202, Tryz.ntmps202
  go_wp2_with fail
  refine HC.out.mono ?_
  rintro e w' ⟨g, c, rfl, h1, h2⟩
  have HT := hidE (And.intro h1 h2)
  clear h1 h2 HC
  go_wp2_with fail
  go_ret
  exact ⟨g, c, rfl, HT.out.1, HT.out.2⟩
set_option maxRecDepth 100000 in
set_option maxHeartbeats 4000000 in
theorem tell_one (b : Bool) (s : ByteArray) (ka la : Option Addr) (kl kc ll lc : Nat) (w : World) : Calls Tryz.prog 152 #[.slice none 0 0, .agg #[.int .i64 2, .bool b, .int .i64 1, .string s, .slice ka kl kc, .slice la ll lc]] w fun e w' => OneB e w w' := by
  obtain ⟨W1, hW1⟩ : ∃ W, w.alloc (.cells #[.int .i64 2, .bool b, .int .i64 1, .string s, .slice ka kl kc, .slice la ll lc] 88) = W := ⟨_, rfl⟩
  have hr : Rec W1 w.heap.size #[.int .i64 2, .bool b, .int .i64 1, .string s, .slice ka kl kc, .slice la ll lc] 88 := by rw [← hW1]; exact rec_new _ _ _
  have HB : Hid (Below w.heap.size w W1) := by rw [← hW1]; exact (Below.refl _ _).alloc (Nat.le_refl _) _
  have c0 := hr.cell 0 rfl
  have c2 := hr.cell 2 rfl
  have HC := hidE (appendInt_pub W1)
  clear hr
  go_enter Tryz.func152, Tryz.ntmps152
  go_upto_region 1 with fail
  try rw [hW1]
  clear hW1
  go_wp2_with fail
  refine HC.out.mono ?_
  rintro e w' ⟨g, c, rfl, h1, h2⟩
  have HT := hidE (And.intro h1 h2)
  clear h1 h2 HC
  go_wp2_with fail
  go_ret
  exact ⟨g, c, rfl, HT.out.1, HB.out.trans (HT.out.2.mono HB.out.size)⟩
set_option maxRecDepth 100000 in
set_option maxHeartbeats 4000000 in
theorem text_one (v : Value) (w : World) (hv : Lies w.heap.size w v (.mk 2 false 1 ⟨#[]⟩ [] [])) (hT : Tabs w) : Calls Tryz.prog 127 #[v] w fun e w' => e = .returned (.tuple #[.string ⟨#[49]⟩, .int .i64 0]) ∧ Below w.heap.size w w' := by
  have HV := hidE hv
  simp only [Lies] at hv
  obtain ⟨ka, kc, la, lc, rfl, -⟩ := hv
  simp only [List.length_nil] at HV ⊢
  obtain ⟨W1, hW1⟩ : ∃ W, w.alloc (.cells #[.int .i64 2, .bool false, .int .i64 1, .string ⟨#[]⟩, .slice ka 0 kc, .slice la 0 lc] 88) = W := ⟨_, rfl⟩
  have hr : Rec W1 w.heap.size #[.int .i64 2, .bool false, .int .i64 1, .string ⟨#[]⟩, .slice ka 0 kc, .slice la 0 lc] 88 := by rw [← hW1]; exact rec_new _ _ _
  have hb : Below w.heap.size w W1 := by rw [← hW1]; exact (Below.refl _ _).alloc (Nat.le_refl _) _
  have HB := hidE hb
  have c0 := hr.cell 0 rfl
  have c1 := hr.cell 1 rfl
  have c2 := hr.cell 2 rfl
  have c3 := hr.cell 3 rfl
  have c4 := hr.cell 4 rfl
  have c5 := hr.cell 5 rfl
  have HR := hidE hr
  have HC := hidE (check_any _ _ W1 ((HV.out.below hb).mono hb.size) (hT.below hb) (by decide) (by decide))
  rw [show checkN (.mk 2 false 1 ⟨#[]⟩ [] []) = 0 by kernel_rfl] at HC
  clear hr hb
  go_enter Tryz.func127, Tryz.ntmps127
  go_upto_region 1 with fail
  try rw [hW1]
  clear hW1
  go_wp2_with fail
  refine HC.out.mono ?_
  rintro e w2 ⟨rfl, hb2⟩
  have hr2 := HR.out.below hb2 HR.out.lt
  have HB2 : Hid (Below w.heap.size w w2) := HB.out.trans (hb2.mono HB.out.size)
  have d0 := hr2.cell 0 rfl
  have d1 := hr2.cell 1 rfl
  have d2 := hr2.cell 2 rfl
  have d3 := hr2.cell 3 rfl
  have d4 := hr2.cell 4 rfl
  have d5 := hr2.cell 5 rfl
  have HTL := hidE (tell_one false ⟨#[]⟩ ka la 0 kc 0 lc w2)
  clear c0 c1 c2 c3 c4 c5 hr2 hb2
  go_wp2_with fail
  refine HTL.out.mono ?_
  rintro e w3 ⟨g, c, rfl, h1, h2⟩
  have hcv : (convert 116 9 (.slice (some ⟨g, 0, none⟩) 1 c)).run Tryz.prog w3 = .ok (.string ⟨#[49]⟩) w3 := by
    refine run_convert_bytes_back (P := Tryz.prog) w3 116 9 5 ⟨g, 0, none⟩ c [49] Tryz.underlying116 Tryz.underlying5 Tryz.underlying9 fun j hj => ?_
    simp only [List.length_cons, List.length_nil] at hj
    have : j = 0 := by omega
    subst this
    exact h1
  have HF := hidE (HB2.out.trans (h2.mono HB2.out.size))
  clear h1 h2 HTL d0 d1 d2 d3 d4 d5
  go_wp2_with fail
  go_ret2
  exact ⟨rfl, HF.out⟩
end Go.Proofs.YthfilnflgahcjaaGreatDoor

namespace Go.Proofs.YthfilnflgahcjaaGreatDoor
open Go.RowKit Go.Shelf Go.Maps Cm
set_option linter.unusedVariables false
set_option linter.unusedSimpArgs false
/-- What stands in order is the one list that does. -/
theorem perm_sorted {α : Type} {cf : α → α → Int} : ∀ {C L : List α}, L.Perm C → L.Pairwise (fun a b => ¬ cf b a < 0) → C.Pairwise (fun a b => cf a b < 0) → L = C
  | [], L, h, _, _ => List.Perm.eq_nil h
  | c :: C, [], h, _, _ => absurd h.length_eq (by simp)
  | c :: C, l :: L, h, h1, h2 => by
    simp only [List.pairwise_cons] at h1 h2
    have hl : l ∈ c :: C := h.mem_iff.1 List.mem_cons_self
    have hc : c ∈ l :: L := h.mem_iff.2 List.mem_cons_self
    have e : l = c := by
      rcases List.mem_cons.1 hl with h3 | h3
      · exact h3
      · rcases List.mem_cons.1 hc with h4 | h4
        · exact h4.symm
        · exact absurd (h2.1 l h3) (h1.1 c h4)
    subst e
    rw [perm_sorted (List.Perm.cons_inv h) h1.2 h2.2]
def sampleS : StatP := ⟨3, 3, [(⟨#[65]⟩, 2), (⟨#[66]⟩, 1)], [(⟨#[84]⟩, 2), (⟨#[85]⟩, 1)], [(⟨#[84]⟩, ⟨#[65]⟩, false, 1), (⟨#[84]⟩, ⟨#[65]⟩, true, 2), (⟨#[84]⟩, ⟨#[66]⟩, true, 2), (⟨#[85]⟩, ⟨#[65]⟩, false, 1), (⟨#[85]⟩, ⟨#[65]⟩, true, 1)], [(⟨#[65]⟩, ⟨#[107]⟩, 2, 1), (⟨#[66]⟩, ⟨#[107]⟩, 1, 1)]⟩
def oneT : Tree → ByteArray := fun _ => ⟨#[49]⟩
theorem tally_l : (tally (labelsOf sampleG.nodes)).map (fun p : (ByteArray × Int) × Int => (p.1.1, p.2)) = sampleS.labels := by kernel_rfl
theorem tally_t : (tally (sampleG.rels.map fun r => r.type)).map (fun p : (ByteArray × Int) × Int => (p.1.1, p.2)) = sampleS.types := by kernel_rfl
theorem gather_e : (gather (endsOf sampleG.nodes (cnt (jointsOf sampleG.rels)))).map (fun p : EndR × Int => (p.1.1, p.1.2.1, p.1.2.2.1, p.2)) = [(⟨#[84]⟩, ⟨#[65]⟩, true, 2), (⟨#[84]⟩, ⟨#[66]⟩, true, 2), (⟨#[84]⟩, ⟨#[65]⟩, false, 1), (⟨#[85]⟩, ⟨#[65]⟩, true, 1), (⟨#[85]⟩, ⟨#[65]⟩, false, 1)] := by kernel_rfl
theorem keys_s : keysK (kAll (itemsOf oneT sampleG.nodes)).2 = sampleS.keys := by kernel_rfl
theorem neg_of {x : Int} (h : x = -1) : x < 0 := by rw [h]; decide
theorem sample_is {s : StatP} (h : CntIs oneT sampleG (fun a b => ¬ cfL b a < 0) (fun a b => ¬ cfL b a < 0) (fun a b => ¬ cfE b a < 0) (fun a b => ¬ cfK b a < 0) s) : s = sampleS := by
  obtain ⟨n, r, ls, ts, es, ks⟩ := s
  obtain ⟨h1, h2, h3, h4, h5, h6, h7, h8, h9, h10⟩ := h
  simp only at h1 h2 h3 h4 h5 h6 h7 h8 h9 h10
  rw [tally_l] at h3
  rw [tally_t] at h5
  rw [gather_e] at h7
  rw [keys_s] at h9
  have e1 : ls = sampleS.labels := perm_sorted (cf := cfL) h3 h4 (List.Pairwise.cons (fun x hx => by simp only [List.mem_singleton] at hx; subst hx; exact neg_of (by kernel_rfl)) (List.pairwise_singleton _ _))
  have e2 : ts = sampleS.types := perm_sorted (cf := cfL) h5 h6 (List.Pairwise.cons (fun x hx => by simp only [List.mem_singleton] at hx; subst hx; exact neg_of (by kernel_rfl)) (List.pairwise_singleton _ _))
  have e4 : ks = sampleS.keys := perm_sorted (cf := cfK) h9 h10 (List.Pairwise.cons (fun x hx => by simp only [List.mem_singleton] at hx; subst hx; exact neg_of (by kernel_rfl)) (List.pairwise_singleton _ _))
  have hp : es.Perm sampleS.ends := h7.trans ((List.Perm.cons _ (List.Perm.cons _ (List.Perm.cons _ (List.Perm.swap _ _ [])))).trans ((List.Perm.cons _ (List.Perm.swap _ _ _)).trans (List.Perm.swap _ _ _)))
  have e3 : es = sampleS.ends := perm_sorted (cf := cfE) hp h8 (by
    refine List.Pairwise.cons (fun x hx => ?_) (List.Pairwise.cons (fun x hx => ?_) (List.Pairwise.cons (fun x hx => ?_) (List.Pairwise.cons (fun x hx => ?_) (List.pairwise_singleton _ _))))
    all_goals
      simp only [List.mem_cons, List.not_mem_nil, or_false] at hx
    · rcases hx with rfl | rfl | rfl | rfl <;> exact neg_of (by kernel_rfl)
    · rcases hx with rfl | rfl | rfl <;> exact neg_of (by kernel_rfl)
    · rcases hx with rfl | rfl <;> exact neg_of (by kernel_rfl)
    · subst hx; exact neg_of (by kernel_rfl))
  have e5 : n = 3 := h1
  have e6 : r = 3 := h2
  rw [e1, e2, e3, e4, e5, e6]
  rfl
theorem sample_ok : checkPB sampleG = true := by kernel_rfl
theorem le_of_eq {a b c : Nat} (h : a = b) (h2 : b ≤ c) : a ≤ c := h ▸ h2
theorem sample_fit : CntFit oneT sampleG 12 2 := by
  refine ⟨by decide, by decide, ?_, ?_, ?_, by decide, ?_, by decide, le_of_eq (b := 10) (by kernel_rfl) (by decide), le_of_eq (b := 2) (by kernel_rfl) (by decide), le_of_eq (b := 3) (by kernel_rfl) (by decide), le_of_eq (b := 2) (by kernel_rfl) (by decide), le_of_eq (b := 2) (by kernel_rfl) (by decide), le_of_eq (b := 5) (by kernel_rfl) (by decide), le_of_eq (b := 2) (by kernel_rfl) (by decide)⟩
  · intro r hr
    simp only [sampleG, List.mem_cons, List.not_mem_nil, or_false] at hr
    rcases hr with rfl | rfl | rfl <;> exact ⟨w64 (by decide) (by decide), w64 (by decide) (by decide)⟩
  · decide
  · intro r hr
    simp only [sampleG, List.mem_cons, List.not_mem_nil, or_false] at hr
    rcases hr with rfl | rfl | rfl <;> exact w64 (by decide) (by decide)
  · intro r hr
    simp only [sampleG, List.mem_cons, List.not_mem_nil, or_false] at hr
    rcases hr with rfl | rfl | rfl <;> decide
theorem sample_mild : Mild sampleG := by
  refine ⟨by decide, by decide, ?_, ?_⟩
  · intro n hn
    simp only [sampleG, List.mem_cons, List.not_mem_nil, or_false] at hn
    rcases hn with rfl | rfl | rfl
    · refine ⟨fun x hx => ?_, fun q hq => ?_⟩
      · simp only [List.mem_cons, List.not_mem_nil, or_false] at hx
        rcases hx with rfl | rfl <;> decide
      · simp only [oneK, List.mem_cons, List.not_mem_nil, or_false] at hq
        subst hq
        exact ⟨by decide, by constructor <;> decide⟩
    · refine ⟨fun x hx => ?_, fun q hq => ?_⟩
      · simp only [List.mem_cons, List.not_mem_nil, or_false] at hx
        subst hx; decide
      · simp only [oneK, List.mem_cons, List.not_mem_nil, or_false] at hq
        subst hq
        exact ⟨by decide, by constructor <;> decide⟩
    · exact ⟨fun x hx => by simp at hx, fun q hq => by simp at hq⟩
  · intro r hr
    simp only [sampleG, List.mem_cons, List.not_mem_nil, or_false] at hr
    rcases hr with rfl | rfl | rfl <;> exact ⟨by decide, fun q hq => by simp at hq⟩
/-- The chapter's graph is counted so. -/
theorem count_sample (v : Value) (w : World) (hE : Env w) (h : GraphLies w.heap.size w v sampleG) :
    Calls Tryz.prog 11 #[v] w fun e w' => ∃ vl vt ve vk, e = .returned (.tuple #[statV sampleS vl vt ve vk, .int .i64 0]) ∧ CntL w.heap.size w' vl vt ve vk sampleS ∧ Below w.heap.size w w' := by
  refine (count_good sort84_any sort88_any sort92_any sort98_any (by decide) oneT 2 sampleG v w.heap.size w (Nat.le_refl _) hE h sample_mild (by decide) (by decide) sample_fit sample_ok ?_).mono ?_
  · intro n hn p hp
    have hp2 : p = (⟨#[107]⟩, .mk 2 false 1 ⟨#[]⟩ [] []) := by
      simp only [sampleG, List.mem_cons, List.not_mem_nil, or_false] at hn
      rcases hn with rfl | rfl | rfl
      · simpa [oneK] using hp
      · simpa [oneK] using hp
      · simp at hp
    subst hp2
    refine ⟨(by decide : (1 : Nat) ≤ _), fun W u hb hl => ?_⟩
    exact text_one u W (hl.mono hb.size) (hE.below hb hE.room).tabs
  · rintro e w' ⟨s, vl, vt, ve, vk, rfl, h1, h2, h3⟩
    rw [sample_is h1] at h2 ⊢
    exact ⟨vl, vt, ve, vk, rfl, h2, h3⟩
end Go.Proofs.YthfilnflgahcjaaGreatDoor

namespace Go.Proofs.YthfilnflgahcjaaGreatDoor
open Go.RowKit Go.Shelf Go.Maps
set_option linter.unusedVariables false
set_option linter.unusedSimpArgs false
attribute [local go_sem] Oper.semAt_some
def fanI (s : StatP) (dir : Int) (ts : List ByteArray) : Int := shareI (if dir = 0 then plusI [typedI s ts, typedI s ts] else typedI s ts) (cutI s.nodes)
set_option maxRecDepth 100000 in
set_option maxHeartbeats 4000000 in
theorem fan_any (s : StatP) (vl vt ve vk vs : Value) (dir : Int) (ls : List ByteArray) (B : Nat) (w : World) (hB : B ≤ w.heap.size) (h : StatL B w vl vt ve vk s) (hs : SRow 1 strE B w vs ls) (hok : ∀ x ∈ ls, okS x) (hl : ls.length ≤ 100000) : Calls Tryz.prog 26 #[statV s vl vt ve vk, .int .i64 dir, vs] w fun e w' => e = .returned (.int .i64 (fanI s dir ls)) ∧ Below w.heap.size w w' := by
  have HT : Hid (∀ W, Below w.heap.size w W → Calls Tryz.prog 20 #[statV s vl vt ve vk, vs] W fun e w' => e = .returned (.int .i64 (typedI s ls)) ∧ Below W.heap.size W w') := fun W hb => typed_any s vl vt ve vk vs ls B W (Nat.le_trans hB hb.size) (h.keep (hb.mono hB)) (hs.keep (hb.mono hB)) hok hl
  have HA : Hid (∀ W, Below w.heap.size w W → Calls Tryz.prog 17 #[statV s vl vt ve vk] W fun e w' => e = .returned (.int .i64 (cutI s.nodes)) ∧ Below W.heap.size W w') := fun W hb => all_any s vl vt ve vk B W (h.keep (hb.mono hB))
  unfold fanI
  obtain ⟨t, ht⟩ : ∃ t, typedI s ls = t := ⟨_, rfl⟩
  obtain ⟨c, hc⟩ : ∃ c, cutI s.nodes = c := ⟨_, rfl⟩
  rw [ht] at HT ⊢
  rw [hc] at HA ⊢
  clear ht hc
  obtain ⟨res, hres⟩ : ∃ r, shareI (if dir = 0 then plusI [t, t] else t) c = r := ⟨_, rfl⟩
  rw [hres]
  have HRES := hidE hres
  clear hres
  have HSH : Hid (∀ a W, Calls Tryz.prog 32 #[.int .i64 a, .int .i64 c] W fun e w' => e = .returned (.int .i64 (shareI a c)) ∧ w' = W) := fun a W => share_any a c W
  obtain ⟨la, lc, rfl, _⟩ := h.hl
  obtain ⟨ta, tc, rfl, _⟩ := h.ht
  obtain ⟨ea, ec, rfl, _⟩ := h.he
  obtain ⟨ka, kc, rfl, _⟩ := h.hk
  obtain ⟨sa, sc, rfl, _⟩ := hs
  unfold statV at *
  generalize s.nodes = n at *
  generalize s.rels = r at *
  generalize s.labels.length = l1 at *
  generalize s.types.length = l2 at *
  generalize s.ends.length = l3 at *
  generalize s.keys.length = l4 at *
  generalize ls.length = l5 at *
  clear h hok
  have hW : Below w.heap.size w (w.alloc (.cells #[.int .i64 n, .int .i64 r, .slice la l1 lc, .slice ta l2 tc, .slice ea l3 ec, .slice ka l4 kc] 33)) := (Below.refl _ _).alloc (Nat.le_refl _) _
  have hsz : w.heap.size < (w.alloc (.cells #[.int .i64 n, .int .i64 r, .slice la l1 lc, .slice ta l2 tc, .slice ea l3 ec, .slice ka l4 kc] 33)).heap.size := by simp
  have e0 : (w.alloc (.cells #[.int .i64 n, .int .i64 r, .slice la l1 lc, .slice ta l2 tc, .slice ea l3 ec, .slice ka l4 kc] 33)).cell? ⟨w.heap.size, 0, none⟩ = some (.int .i64 n) := cell_new _ _ _ _ _ rfl
  have e1 : (w.alloc (.cells #[.int .i64 n, .int .i64 r, .slice la l1 lc, .slice ta l2 tc, .slice ea l3 ec, .slice ka l4 kc] 33)).cell? ⟨w.heap.size, 1, none⟩ = some (.int .i64 r) := cell_new _ _ _ _ _ rfl
  have e2 : (w.alloc (.cells #[.int .i64 n, .int .i64 r, .slice la l1 lc, .slice ta l2 tc, .slice ea l3 ec, .slice ka l4 kc] 33)).cell? ⟨w.heap.size, 2, none⟩ = some (.slice la l1 lc) := cell_new _ _ _ _ _ rfl
  have e3 : (w.alloc (.cells #[.int .i64 n, .int .i64 r, .slice la l1 lc, .slice ta l2 tc, .slice ea l3 ec, .slice ka l4 kc] 33)).cell? ⟨w.heap.size, 3, none⟩ = some (.slice ta l2 tc) := cell_new _ _ _ _ _ rfl
  have e4 : (w.alloc (.cells #[.int .i64 n, .int .i64 r, .slice la l1 lc, .slice ta l2 tc, .slice ea l3 ec, .slice ka l4 kc] 33)).cell? ⟨w.heap.size, 4, none⟩ = some (.slice ea l3 ec) := cell_new _ _ _ _ _ rfl
  have e5 : (w.alloc (.cells #[.int .i64 n, .int .i64 r, .slice la l1 lc, .slice ta l2 tc, .slice ea l3 ec, .slice ka l4 kc] 33)).cell? ⟨w.heap.size, 5, none⟩ = some (.slice ka l4 kc) := cell_new _ _ _ _ _ rfl
  go_enter Tryz.func26, Tryz.ntmps26
  go_upto_region 1 with fail
  obtain ⟨W1, hW1⟩ : ∃ W, w.alloc (.cells #[.int .i64 n, .int .i64 r, .slice la l1 lc, .slice ta l2 tc, .slice ea l3 ec, .slice ka l4 kc] 33) = W := ⟨_, rfl⟩
  rw [hW1] at hW hsz e0 e1 e2 e3 e4 e5 ⊢
  have HW0 := hidE hW
  have HZ := hidE hsz
  clear hW1 hW hsz
  go_upto_region 2 with (go_at_call 20; refine (HT.out _ HW0.out).mono ?_; rintro e W2 ⟨rfl, hb2⟩)
  replace e0 := (hb2.cell (p := ⟨w.heap.size, 0, none⟩) HZ.out).trans e0
  replace e1 := (hb2.cell (p := ⟨w.heap.size, 1, none⟩) HZ.out).trans e1
  replace e2 := (hb2.cell (p := ⟨w.heap.size, 2, none⟩) HZ.out).trans e2
  replace e3 := (hb2.cell (p := ⟨w.heap.size, 3, none⟩) HZ.out).trans e3
  replace e4 := (hb2.cell (p := ⟨w.heap.size, 4, none⟩) HZ.out).trans e4
  replace e5 := (hb2.cell (p := ⟨w.heap.size, 5, none⟩) HZ.out).trans e5
  have HB2 : Hid (Below w.heap.size w W2) := HW0.out.trans (hb2.mono HW0.out.size)
  have HZ2 : Hid (w.heap.size < W2.heap.size) := Nat.lt_of_lt_of_le HZ.out hb2.size
  clear hb2
  by_cases hd : dir = 0
  · subst hd
    have HR0 : Hid (res = shareI (plusI [t, t]) c) := by show _ = _; rw [← HRES.out, if_pos rfl]
    have HP := hidE (plus_any [t, t] _ _ _ (Nat.le_refl _) (srow_new (k := 1) (enc := intE) (fun _ => rfl) W2 [t, t] #[.int .i64 t, .int .i64 t] 2 rfl (show 2 ≤ 9223372036854775807 by decide)))
    have hb3 : Below w.heap.size w (W2.alloc (.cells #[.int .i64 t, .int .i64 t] 2)) := HB2.out.alloc HB2.out.size _
    have HB3 := hidE hb3
    have hb4 : Below W2.heap.size W2 (W2.alloc (.cells #[.int .i64 t, .int .i64 t] 2)) := (Below.refl _ _).alloc (Nat.le_refl _) _
    replace e0 := (hb4.cell (p := ⟨w.heap.size, 0, none⟩) HZ2.out).trans e0
    replace e1 := (hb4.cell (p := ⟨w.heap.size, 1, none⟩) HZ2.out).trans e1
    replace e2 := (hb4.cell (p := ⟨w.heap.size, 2, none⟩) HZ2.out).trans e2
    replace e3 := (hb4.cell (p := ⟨w.heap.size, 3, none⟩) HZ2.out).trans e3
    replace e4 := (hb4.cell (p := ⟨w.heap.size, 4, none⟩) HZ2.out).trans e4
    replace e5 := (hb4.cell (p := ⟨w.heap.size, 5, none⟩) HZ2.out).trans e5
    clear hb3 hb4
    go_wp2_with (first
      | (go_at_call 34; refine HP.out.mono ?_; rintro e _ ⟨rfl, rfl⟩)
      | (go_at_call 17; refine (HA.out _ HB3.out).mono ?_; rintro e W4 ⟨rfl, hb4⟩; have HB4 := hidE (HB3.out.trans (hb4.mono HB3.out.size)); clear hb4)
      | (go_at_call 32; refine (HSH.out _ _).mono ?_; rintro e _ ⟨rfl, rfl⟩))
    go_ret
    exact ⟨by rw [HR0.out]; rfl, HB4.out⟩
  · have hd2 : (dir == 0) = false := beq_eq_false_iff_ne.2 hd
    have HR0 : Hid (res = shareI t c) := by show _ = _; rw [← HRES.out, if_neg hd]
    go_wp2_with (first
      | (go_at_call 17; refine (HA.out _ HB2.out).mono ?_; rintro e W4 ⟨rfl, hb4⟩; have HB4 := hidE (HB2.out.trans (hb4.mono HB2.out.size)); clear hb4)
      | (go_at_call 32; refine (HSH.out _ _).mono ?_; rintro e _ ⟨rfl, rfl⟩))
    go_ret
    exact ⟨by rw [HR0.out]; rfl, HB4.out⟩
end Go.Proofs.YthfilnflgahcjaaGreatDoor

namespace Go.Proofs.YthfilnflgahcjaaGreatDoor
open Go.RowKit Go.Shelf Go.Maps
set_option linter.unusedVariables false
set_option linter.unusedSimpArgs false
attribute [local go_sem] Oper.semAt_some
set_option maxRecDepth 100000 in
set_option maxHeartbeats 4000000 in
theorem f64_any (rows : List (ByteArray × Int)) (vr : Value) (B : Nat) (w : World) (hB : B ≤ w.heap.size) (hr : SRow 2 labC B w vr rows) (hrl : rows.length ≤ 100000) :
    Calls Tryz.prog 64 #[vr, .func (.func 59) #[] #[]] w fun e w' => ∃ v, e = .returned v ∧ ORow 9 1 strE w.heap.size w' v (rows.map (fun x : ByteArray × Int => x.1)) ∧ Below w.heap.size w w' := by
  obtain ⟨ra, rc, rfl, r1, r2, r3⟩ := hr
  have HR3 := hidE r3
  obtain ⟨m, hm⟩ : ∃ n, rows.length = n := ⟨_, rfl⟩
  have HM := hidE hm
  rw [hm] at r1 hrl ⊢
  clear r3 hm
  go_enter Tryz.func64, Tryz.ntmps64
  go_wp2_with fail
  go_loopw [5, 10] (fun v i wr => ∃ j : Nat, j ≤ m ∧ i = .int .i64 j ∧ Below w.heap.size w wr ∧ ORow 9 1 strE w.heap.size wr v ((rows.take j).map (fun x : ByteArray × Int => x.1))) (fun _ i _ => m - (intOf i).toNat)
  case atStart => exact ⟨0, Nat.zero_le _, rfl, Below.refl _ _, orow_nil _ _ _ _ _⟩
  case round =>
    obtain ⟨j, hj, rfl, hbr, hor⟩ := hrel
    have HBR := hidE hbr
    have HOR := hidE hor
    clear hbr hor
    by_cases hlt : j < m
    · have hlt' : (j : Int) < m := by omega
      obtain ⟨⟨s, q⟩, hx⟩ : ∃ q, rows[j]? = some q := ⟨_, List.getElem?_eq_getElem (by have := HM.out; omega)⟩
      obtain ⟨bl, off, rfl, hbl, hc⟩ := HR3.out.resolve_left (by intro e; rw [e] at hx; simp at hx)
      have c0 := (HBR.out.cell (p := ⟨bl, off + j * 2 + 0, none⟩) (show bl < w.heap.size by omega)).trans (hc j (s, q) hx 0 _ rfl)
      have c1 := (HBR.out.cell (p := ⟨bl, off + j * 2 + 1, none⟩) (show bl < w.heap.size by omega)).trans (hc j (s, q) hx 1 _ rfl)
      rw [Nat.add_zero] at c0
      simp only at c0 c1
      have HX := hidE hx
      clear hx hc
      have HA : Hid (Below wr.heap.size wr (wr.alloc (.cells #[.string s, .int .i64 q] 62))) := (Below.refl _ _).alloc (Nat.le_refl _) _
      go_wp2_with (first
        | (go_at_call 59; refine (f59_any s q _).mono ?_; rintro e W2 ⟨rfl, hb2⟩
           have hs2 : w.heap.size ≤ W2.heap.size := Nat.le_trans HBR.out.size (Nat.le_trans HA.out.size hb2.size)
           obtain ⟨v6, W6, p1, p2, p3, p4⟩ := append_one (ty := 43) (c := 1) (bl := W2.heap.size) (off := 0) (x := s) elem43 (fun x => rfl) one_str (((HOR.out.below HA.out).below hb2).below ((Below.refl _ _).alloc (Nat.le_refl _) (.cells #[.string s] 9))) (fun jj u hu => by
             rw [Nat.zero_add]
             exact cell_new _ _ _ _ _ (by simpa [strE] using hu)) (by rw [List.length_map, List.length_take]; omega) (by simp; omega)
           have HP := hidE (And.intro p2 (And.intro p3 hb2))
           clear p2 p3 p4 hb2)
        | (at_builtin; refine Lib.wpList_append_run _ rfl _ _ _ _ rfl _ _ rfl rfl _ _ p1 ?_))
      go_roundw
      case rel =>
        obtain ⟨p2, p3, hb2⟩ := HP.out
        refine ⟨j + 1, by omega, by go_num, ?_, ?_⟩
        · have h1 := HBR.out.trans (HA.out.mono HBR.out.size)
          have h2 := h1.trans (hb2.mono h1.size)
          have h3 : Below w.heap.size w (W2.alloc (.cells #[.string s] 9)) := h2.alloc h2.size _
          exact h3.trans p3
        · rw [List.take_add_one, HX.out, List.map_append]
          exact p2
      case measure => simp [intOf]; omega
    · have hlt' : ¬ (j : Int) < m := by omega
      have HL := HOR.out
      rw [List.take_of_length_le (by have := HM.out; omega)] at HL
      have HL := hidE HL
      go_wp2_with fail
      go_ret
      exact ⟨_, rfl, HL.out, HBR.out⟩
end Go.Proofs.YthfilnflgahcjaaGreatDoor

