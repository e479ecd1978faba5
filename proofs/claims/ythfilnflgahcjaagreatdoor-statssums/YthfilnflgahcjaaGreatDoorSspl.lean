/- The chapter's graph, counted. -/
import Derived.Test.YthfilnflgahcjaaGreatDoorJoin24
import Derived.Test.YthfilnflgahcjaaGreatDoorJoin13
import Derived.Test.YthfilnflgahcjaaGreatDoorJoin14
namespace Go.Proofs.YthfilnflgahcjaaGreatDoor
open Go.RowKit Go.Shelf Go.Maps Cm
set_option linter.unusedVariables false
set_option linter.unusedSimpArgs false
/-- What stands in order is the one list that does. -/
theorem perm_sorted {α : Type} {cf : α → α → Int} : ∀ {C L : List α}, L.Perm C → L.Pairwise (fun a b => ¬ cf b a < 0) → C.Pairwise (fun a b => cf a b < 0) → L = C
  | [], L, h, _, _ => List.Perm.eq_nil h
  | c :: C, [], h, _, _ => absurd h.length_eq (by simp)
  | c :: C, l :: L, h, h1, h2 => by
    simp only [List.pairwise_cons] at h1 h2
    have hl : l ∈ c :: C := h.mem_iff.1 List.mem_cons_self
    have hc : c ∈ l :: L := h.mem_iff.2 List.mem_cons_self
    have e : l = c := by
      rcases List.mem_cons.1 hl with h3 | h3
      · exact h3
      · rcases List.mem_cons.1 hc with h4 | h4
        · exact h4.symm
        · exact absurd (h2.1 l h3) (h1.1 c h4)
    subst e
    rw [perm_sorted (List.Perm.cons_inv h) h1.2 h2.2]
def sampleS : StatP := ⟨3, 3, [(⟨#[65]⟩, 2), (⟨#[66]⟩, 1)], [(⟨#[84]⟩, 2), (⟨#[85]⟩, 1)], [(⟨#[84]⟩, ⟨#[65]⟩, false, 1), (⟨#[84]⟩, ⟨#[65]⟩, true, 2), (⟨#[84]⟩, ⟨#[66]⟩, true, 2), (⟨#[85]⟩, ⟨#[65]⟩, false, 1), (⟨#[85]⟩, ⟨#[65]⟩, true, 1)], [(⟨#[65]⟩, ⟨#[107]⟩, 2, 1), (⟨#[66]⟩, ⟨#[107]⟩, 1, 1)]⟩
def oneT : Tree → ByteArray := fun _ => ⟨#[49]⟩
theorem tally_l : (tally (labelsOf sampleG.nodes)).map (fun p : (ByteArray × Int) × Int => (p.1.1, p.2)) = sampleS.labels := by kernel_rfl
theorem tally_t : (tally (sampleG.rels.map fun r => r.type)).map (fun p : (ByteArray × Int) × Int => (p.1.1, p.2)) = sampleS.types := by kernel_rfl
theorem gather_e : (gather (endsOf sampleG.nodes (cnt (jointsOf sampleG.rels)))).map (fun p : EndR × Int => (p.1.1, p.1.2.1, p.1.2.2.1, p.2)) = [(⟨#[84]⟩, ⟨#[65]⟩, true, 2), (⟨#[84]⟩, ⟨#[66]⟩, true, 2), (⟨#[84]⟩, ⟨#[65]⟩, false, 1), (⟨#[85]⟩, ⟨#[65]⟩, true, 1), (⟨#[85]⟩, ⟨#[65]⟩, false, 1)] := by kernel_rfl
theorem keys_s : keysK (kAll (itemsOf oneT sampleG.nodes)).2 = sampleS.keys := by kernel_rfl
theorem neg_of {x : Int} (h : x = -1) : x < 0 := by rw [h]; decide
theorem sample_is {s : StatP} (h : CntIs oneT sampleG (fun a b => ¬ cfL b a < 0) (fun a b => ¬ cfL b a < 0) (fun a b => ¬ cfE b a < 0) (fun a b => ¬ cfK b a < 0) s) : s = sampleS := by
  obtain ⟨n, r, ls, ts, es, ks⟩ := s
  obtain ⟨h1, h2, h3, h4, h5, h6, h7, h8, h9, h10⟩ := h
  simp only at h1 h2 h3 h4 h5 h6 h7 h8 h9 h10
  rw [tally_l] at h3
  rw [tally_t] at h5
  rw [gather_e] at h7
  rw [keys_s] at h9
  have e1 : ls = sampleS.labels := perm_sorted (cf := cfL) h3 h4 (List.Pairwise.cons (fun x hx => by simp only [List.mem_singleton] at hx; subst hx; exact neg_of (by kernel_rfl)) (List.pairwise_singleton _ _))
  have e2 : ts = sampleS.types := perm_sorted (cf := cfL) h5 h6 (List.Pairwise.cons (fun x hx => by simp only [List.mem_singleton] at hx; subst hx; exact neg_of (by kernel_rfl)) (List.pairwise_singleton _ _))
  have e4 : ks = sampleS.keys := perm_sorted (cf := cfK) h9 h10 (List.Pairwise.cons (fun x hx => by simp only [List.mem_singleton] at hx; subst hx; exact neg_of (by kernel_rfl)) (List.pairwise_singleton _ _))
  have hp : es.Perm sampleS.ends := h7.trans ((List.Perm.cons _ (List.Perm.cons _ (List.Perm.cons _ (List.Perm.swap _ _ [])))).trans ((List.Perm.cons _ (List.Perm.swap _ _ _)).trans (List.Perm.swap _ _ _)))
  have e3 : es = sampleS.ends := perm_sorted (cf := cfE) hp h8 (by
    refine List.Pairwise.cons (fun x hx => ?_) (List.Pairwise.cons (fun x hx => ?_) (List.Pairwise.cons (fun x hx => ?_) (List.Pairwise.cons (fun x hx => ?_) (List.pairwise_singleton _ _))))
    all_goals
      simp only [List.mem_cons, List.not_mem_nil, or_false] at hx
    · rcases hx with rfl | rfl | rfl | rfl <;> exact neg_of (by kernel_rfl)
    · rcases hx with rfl | rfl | rfl <;> exact neg_of (by kernel_rfl)
    · rcases hx with rfl | rfl <;> exact neg_of (by kernel_rfl)
    · subst hx; exact neg_of (by kernel_rfl))
  have e5 : n = 3 := h1
  have e6 : r = 3 := h2
  rw [e1, e2, e3, e4, e5, e6]
  rfl
theorem sample_ok : checkPB sampleG = true := by kernel_rfl
theorem le_of_eq {a b c : Nat} (h : a = b) (h2 : b ≤ c) : a ≤ c := h ▸ h2
theorem sample_fit : CntFit oneT sampleG 12 2 := by
  refine ⟨by decide, by decide, ?_, ?_, ?_, by decide, ?_, by decide, le_of_eq (b := 10) (by kernel_rfl) (by decide), le_of_eq (b := 2) (by kernel_rfl) (by decide), le_of_eq (b := 3) (by kernel_rfl) (by decide), le_of_eq (b := 2) (by kernel_rfl) (by decide), le_of_eq (b := 2) (by kernel_rfl) (by decide), le_of_eq (b := 5) (by kernel_rfl) (by decide), le_of_eq (b := 2) (by kernel_rfl) (by decide)⟩
  · intro r hr
    simp only [sampleG, List.mem_cons, List.not_mem_nil, or_false] at hr
    rcases hr with rfl | rfl | rfl <;> exact ⟨w64 (by decide) (by decide), w64 (by decide) (by decide)⟩
  · decide
  · intro r hr
    simp only [sampleG, List.mem_cons, List.not_mem_nil, or_false] at hr
    rcases hr with rfl | rfl | rfl <;> exact w64 (by decide) (by decide)
  · intro r hr
    simp only [sampleG, List.mem_cons, List.not_mem_nil, or_false] at hr
    rcases hr with rfl | rfl | rfl <;> decide
theorem sample_mild : Mild sampleG := by
  refine ⟨by decide, by decide, ?_, ?_⟩
  · intro n hn
    simp only [sampleG, List.mem_cons, List.not_mem_nil, or_false] at hn
    rcases hn with rfl | rfl | rfl
    · refine ⟨fun x hx => ?_, fun q hq => ?_⟩
      · simp only [List.mem_cons, List.not_mem_nil, or_false] at hx
        rcases hx with rfl | rfl <;> decide
      · simp only [oneK, List.mem_cons, List.not_mem_nil, or_false] at hq
        subst hq
        exact ⟨by decide, by constructor <;> decide⟩
    · refine ⟨fun x hx => ?_, fun q hq => ?_⟩
      · simp only [List.mem_cons, List.not_mem_nil, or_false] at hx
        subst hx; decide
      · simp only [oneK, List.mem_cons, List.not_mem_nil, or_false] at hq
        subst hq
        exact ⟨by decide, by constructor <;> decide⟩
    · exact ⟨fun x hx => by simp at hx, fun q hq => by simp at hq⟩
  · intro r hr
    simp only [sampleG, List.mem_cons, List.not_mem_nil, or_false] at hr
    rcases hr with rfl | rfl | rfl <;> exact ⟨by decide, fun q hq => by simp at hq⟩
/-- The chapter's graph is counted so. -/
theorem count_sample (v : Value) (w : World) (hE : Env w) (h : GraphLies w.heap.size w v sampleG) :
    Calls Tryz.prog 11 #[v] w fun e w' => ∃ vl vt ve vk, e = .returned (.tuple #[statV sampleS vl vt ve vk, .int .i64 0]) ∧ CntL w.heap.size w' vl vt ve vk sampleS ∧ Below w.heap.size w w' := by
  refine (count_good sort84_any sort88_any sort92_any sort98_any (by decide) oneT 2 sampleG v w.heap.size w (Nat.le_refl _) hE h sample_mild (by decide) (by decide) sample_fit sample_ok ?_).mono ?_
  · intro n hn p hp
    have hp2 : p = (⟨#[107]⟩, .mk 2 false 1 ⟨#[]⟩ [] []) := by
      simp only [sampleG, List.mem_cons, List.not_mem_nil, or_false] at hn
      rcases hn with rfl | rfl | rfl
      · simpa [oneK] using hp
      · simpa [oneK] using hp
      · simp at hp
    subst hp2
    refine ⟨(by decide : (1 : Nat) ≤ _), fun W u hb hl => ?_⟩
    exact text_one u W (hl.mono hb.size) (hE.below hb hE.room).tabs
  · rintro e w' ⟨s, vl, vt, ve, vk, rfl, h1, h2, h3⟩
    rw [sample_is h1] at h2 ⊢
    exact ⟨vl, vt, ve, vk, rfl, h2, h3⟩
end Go.Proofs.YthfilnflgahcjaaGreatDoor
