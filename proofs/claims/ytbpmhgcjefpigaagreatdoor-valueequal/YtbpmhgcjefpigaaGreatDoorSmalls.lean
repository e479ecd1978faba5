/- Whether values are small enough together. -/
import Derived.Test.YtbpmhgcjefpigaaGreatDoorSmall
namespace Go.Proofs.YtbpmhgcjefpigaaGreatDoor
open Go.RowKit Go.Shelf
set_option linter.unusedVariables false

def smalls (ts : List Tree) : Int := (ts.map fun t => smallN t 2000).sum
theorem smalls_take {ts : List Tree} {j : Nat} {t : Tree} (h : ts[j]? = some t) : smalls (ts.take (j + 1)) = smalls (ts.take j) + smallN t 2000 := by
  rw [List.take_add_one, h]
  simp [smalls]
theorem smalls_pos : ∀ {ts : List Tree}, (∀ t ∈ ts, 0 ≤ smallN t 2000) → 0 ≤ smalls ts
  | [], _ => by simp [smalls]
  | t :: ts, h => by
    have h1 := h t (by simp)
    have h2 := smalls_pos (ts := ts) fun u hu => h u (by simp [hu])
    simp only [smalls, List.map_cons, List.sum_cons] at h2 ⊢
    omega
theorem smalls_take_le {ts : List Tree} (j : Nat) (h : ∀ t ∈ ts, 0 ≤ smallN t 2000) : smalls (ts.take j) ≤ smalls ts := by
  have e : smalls ts = smalls (ts.take j) + smalls (ts.drop j) := by
    have h0 : smalls (ts.take j ++ ts.drop j) = smalls (ts.take j) + smalls (ts.drop j) := by unfold smalls; rw [List.map_append, List.sum_append]
    rwa [List.take_append_drop] at h0
  have := smalls_pos (ts := ts.drop j) fun t ht => h t (List.mem_of_mem_drop ht)
  omega

set_option maxHeartbeats 1000000 in
theorem smalls_any (ts : List Tree) (B : Nat) (la : Option Addr) (lc : Nat) (w : World) (hB : B ≤ w.heap.size) (hl : ListLies B w la ts) (h1 : ts.length ≤ lc) (h2 : lc ≤ maxLen) (hs : ∀ t ∈ ts, Sane t) :
    Calls Tryz.prog 15 #[.slice la ts.length lc] w fun e w' => e = .returned (.bool (decide (smalls ts ≤ 2000))) ∧ Below w.heap.size w w' := by
  unfold maxLen at h2
  have HS := hidE hs
  have HPOS : Hid (∀ t ∈ ts, 0 ≤ smallN t 2000) := fun t _ => by have := smallN_pos t 2000; omega
  clear hs
  go_enter Tryz.func15, Tryz.ntmps15
  go_wp2_with fail
  go_loopw [3, 4] (fun n i wr => ∃ j : Nat, j ≤ ts.length ∧ i = .int .i64 j ∧ Below w.heap.size w wr ∧ n = .int .i64 (smalls (ts.take j))) (fun _ i _ => ts.length - (intOf i).toNat)
  case atStart => exact ⟨0, Nat.zero_le _, rfl, Below.refl _ _, by simp [smalls]⟩
  case round =>
    obtain ⟨j, hj, rfl, hbr, rfl⟩ := hrel
    have hp : 0 ≤ smalls (ts.take j) := smalls_pos fun t ht => HPOS.out t (List.mem_of_mem_take ht)
    have hle := smalls_take_le j HPOS.out
    obtain ⟨n, hn⟩ : ∃ n, smalls (ts.take j) = n := ⟨_, rfl⟩
    rw [hn] at hp hle ⊢
    have HN := hidE hn
    clear hn
    by_cases hlt : j < ts.length
    · by_cases hn2 : n ≤ 2000
      · obtain ⟨bl, off, rfl, hbl, hkl⟩ := hl.resolve_left (by intro e; subst e; simp at hlt)
        obtain ⟨⟨p0, p1, p2, p3, p4, p5⟩, hx⟩ : ∃ t, ts[j]? = some t := ⟨_, List.getElem?_eq_getElem hlt⟩
        obtain ⟨ja, jc, jl, jd, ⟨c0, c1, c2, c3, c4, c5⟩, hlx⟩ := (hkl.below (hbr.mono hB) hbl).cells hx
        have hsx := HS.out _ (List.mem_of_getElem? hx)
        have hup := smallN_le _ 2000 hsx (by omega)
        have hlo := smallN_pos (.mk p0 p1 p2 p3 p4 p5) 2000
        have HX := hidE (smalls_take hx)
        have HC := hidE (small_any (.mk p0 p1 p2 p3 p4 p5) B _ 2000 wr (Nat.le_trans hB hbr.size) hlx hsx (by omega) (by omega))
        clear hx hkl hlx hsx
        go_wp2_with fail
        refine HC.out.mono ?_
        rintro e w' ⟨rfl, hk2⟩
        have HB2 : Hid (Below w.heap.size w w') := below_on hbr hk2
        obtain ⟨m, hm⟩ : ∃ m, smallN (.mk p0 p1 p2 p3 p4 p5) 2000 = m := ⟨_, rfl⟩
        rw [hm] at hup hlo HX ⊢
        clear hk2 HC c0 c1 c2 c3 c4 c5 hm
        go_wp2_with fail
        go_roundw
        case rel =>
          refine ⟨j + 1, by omega, by go_num, HB2.out, ?_⟩
          rw [HX.out, HN.out]
        case measure => simp [intOf]; omega
      · have HR : Hid (decide (smalls ts ≤ 2000) = false) := by show _ = _; simp; omega
        go_wp2_with fail
        go_ret
        exact ⟨by rw [HR.out]; simp, hbr⟩
    · have HR : Hid (smalls ts = n) := by have := HN.out; rwa [List.take_of_length_le (by omega)] at this
      go_wp2_with fail
      go_ret
      exact ⟨by rw [HR.out]; rfl, hbr⟩
end Go.Proofs.YtbpmhgcjefpigaaGreatDoor
