/- What is reckoned is from 0 to 2^62, and how it goes together (pure). StatsFit's own walk. -/
import Derived.Test.YthfilnflgahcjaaGreatDoorJoin32
import Derived.Test.YthfilnflgahcjaaGreatDoorStim
import Derived.Test.YthfilnflgahcjaaGreatDoorJoin3
namespace Go.Proofs.YthfilnflgahcjaaGreatDoor
open Go.RowKit Go.Shelf Go.Maps
set_option linter.unusedVariables false
set_option linter.unusedSimpArgs false
def Fits (n : Int) : Prop := 0 ≤ n ∧ n ≤ 4611686018427387904
theorem fits_true {n : Int} (h : Fits n) : fitsB n = true := by simp [fitsB, h.1, h.2]
theorem cut_fits (n : Int) : Fits (cutI n) := ⟨cutI_nonneg n, cutI_le n⟩
theorem cut_same {n : Int} (h : Fits n) : cutI n = n := by
  obtain ⟨h1, h2⟩ := h
  unfold cutI
  split
  · omega
  · split <;> omega
theorem plusF_fits : ∀ (l : List Int) {t : Int}, Fits t → Fits (plusF t l)
  | [], t, h => h
  | n :: r, t, h => by
    rw [plusF]
    refine plusF_fits r ?_
    have h1 := cutI_nonneg n
    obtain ⟨h2, h3⟩ := h
    split <;> constructor <;> omega
theorem plus_fits (l : List Int) : Fits (plusI l) := plusF_fits l ⟨by decide, by decide⟩
theorem plus_one (x : Int) : plusI [x] = cutI x := by
  have h1 := cutI_le x
  simp only [plusI, plusF]
  split <;> omega
theorem plus_two (x y : Int) : plusI [x, y] = if 4611686018427387904 < cutI x + cutI y then 4611686018427387904 else cutI x + cutI y := by
  have h1 := cutI_le x
  have h2 := cutI_le y
  have h3 := cutI_nonneg x
  have h4 := cutI_nonneg y
  simp only [plusI, plusF]
  split <;> split <;> split <;> omega
theorem plus_comm (x y : Int) : plusI [x, y] = plusI [y, x] := by
  rw [plus_two, plus_two, Int.add_comm]
theorem plus_most (x y : Int) : plusI [x] ≤ plusI [x, y] ∧ plusI [y] ≤ plusI [x, y] := by
  have h1 := cutI_le x
  have h2 := cutI_le y
  have h3 := cutI_nonneg x
  have h4 := cutI_nonneg y
  rw [plus_one, plus_one, plus_two]
  split <;> constructor <;> omega
theorem least_iff {x : Int} : ∀ {L : List (ByteArray × Int)} {t : Int}, x ≤ leastF t L ↔ x ≤ t ∧ ∀ r ∈ L, x ≤ cutI r.2
  | [], t => by simp [leastF]
  | p :: r, t => by
    rw [leastF, least_iff]
    simp only [List.mem_cons, forall_eq_or_imp]
    split
    · constructor
      · rintro ⟨h1, h2⟩; exact ⟨by omega, h1, h2⟩
      · rintro ⟨h1, h2, h3⟩; exact ⟨h2, h3⟩
    · constructor
      · rintro ⟨h1, h2⟩; exact ⟨h1, by omega, h2⟩
      · rintro ⟨h1, h2, h3⟩; exact ⟨h1, h3⟩
theorem mem_delS_of {k x : ByteArray} : ∀ {l : List ByteArray}, x ∈ l → x ≠ k → x ∈ delS k l
  | a :: r, h, hx => by
    rw [delS]
    split
    · rename_i e
      exact (List.mem_cons.1 h).resolve_left (fun e2 => hx (e2.trans e))
    · rcases List.mem_cons.1 h with rfl | h
      · exact List.mem_cons_self
      · exact List.mem_cons_of_mem _ (mem_delS_of h hx)
theorem goFirst_sub {key : ByteArray × Int → ByteArray} {x : ByteArray} : ∀ (rows : List (ByteArray × Int)) (left : List ByteArray), x ∈ left → (∀ r ∈ (goFirst key rows [x]).1, r ∈ (goFirst key rows left).1) ∧ ((goFirst key rows [x]).2 ≠ [] → (goFirst key rows left).2 ≠ [])
  | [], left, h => by
    refine ⟨fun r hr => by simp [goFirst] at hr, fun _ e => ?_⟩
    simp only [goFirst] at e
    rw [e] at h; simp at h
  | r :: rs, left, h => by
    have hne : left ≠ [] := fun e => by rw [e] at h; simp at h
    rw [goFirst, goFirst, if_neg (by simp : ¬ [x] = []), if_neg hne]
    by_cases hx : key r = x
    · have e1 : key r ∈ [x] := by rw [hx]; exact List.mem_singleton_self x
      have e2 : key r ∈ left := by rw [hx]; exact h
      rw [if_pos e1, if_pos e2]
      have e3 : delS (key r) [x] = [] := by rw [hx]; simp [delS]
      rw [e3, goFirst_none]
      refine ⟨fun q hq => ?_, fun hq => absurd rfl hq⟩
      simp only [List.mem_singleton] at hq
      rw [hq]; exact List.mem_cons_self
    · have e1 : key r ∉ [x] := fun e => hx (List.mem_singleton.1 e)
      rw [if_neg e1]
      split
      · rename_i hm
        have hd : x ∈ delS (key r) left := mem_delS_of h (fun e => hx e.symm)
        obtain ⟨i1, i2⟩ := goFirst_sub rs (delS (key r) left) hd
        exact ⟨fun q hq => List.mem_cons_of_mem _ (i1 q hq), i2⟩
      · exact goFirst_sub rs left h
theorem firsts_sub {x : ByteArray} {ls : List ByteArray} (h : x ∈ ls) (rows : List (ByteArray × Int)) : ∀ r ∈ firstsL Prod.fst (⟨#[]⟩, 0) rows [x], r ∈ firstsL Prod.fst (⟨#[]⟩, 0) rows ls := by
  intro r hr
  have hx : x ∈ ls.foldl putS [] := (puts_mem ls [] x).2 (.inr h)
  have h1 : ([x] : List ByteArray).foldl putS [] = [x] := by simp [putS]
  obtain ⟨i1, i2⟩ := goFirst_sub (key := Prod.fst) rows _ hx
  unfold firstsL at hr ⊢
  rw [h1] at hr
  rcases List.mem_append.1 hr with hr | hr
  · exact List.mem_append_left _ (i1 r hr)
  · refine List.mem_append_right _ ?_
    obtain ⟨h2, rfl⟩ := List.mem_replicate.1 hr
    refine List.mem_replicate.2 ⟨fun e => ?_, rfl⟩
    exact i2 (fun e => h2 (by rw [e]; rfl)) (List.length_eq_zero_iff.1 e)
theorem labelled_fits (s : StatP) (ls : List ByteArray) : Fits (labelledI s ls) := by
  constructor
  · exact least_iff.2 ⟨cutI_nonneg _, fun r _ => cutI_nonneg _⟩
  · exact Int.le_trans (least_iff.1 (Int.le_refl _)).1 (cutI_le _)
theorem labelled_all (s : StatP) (ls : List ByteArray) : labelledI s ls ≤ cutI s.nodes := (least_iff.1 (Int.le_refl _)).1
theorem labelled_each (s : StatP) {ls : List ByteArray} {x : ByteArray} (h : x ∈ ls) : labelledI s ls ≤ labelledI s [x] := by
  obtain ⟨h1, h2⟩ := least_iff.1 (Int.le_refl (labelledI s ls))
  exact least_iff.2 ⟨h1, fun r hr => h2 r (firsts_sub h s.labels r hr)⟩
theorem typed_fits (s : StatP) (ts : List ByteArray) : Fits (typedI s ts) := by
  unfold typedI
  split
  · exact cut_fits _
  · exact plus_fits _
/-- What a number is shared by. -/
def by1 (b : Int) : Int := if cutI b < 1 then 1 else cutI b
theorem by1_pos (b : Int) : 1 ≤ by1 b := by unfold by1; split <;> omega
theorem share_parts (a b : Int) : by1 b * shareI a b + (cutI a + (by1 b - 1)) % by1 b = cutI a + (by1 b - 1) ∧ 0 ≤ (cutI a + (by1 b - 1)) % by1 b ∧ (cutI a + (by1 b - 1)) % by1 b < by1 b := by
  have h := by1_pos b
  refine ⟨?_, Int.emod_nonneg _ (by omega), Int.emod_lt_of_pos _ (by omega)⟩
  have := Int.mul_ediv_add_emod (cutI a + (by1 b - 1)) (by1 b)
  exact this
theorem share_fits (a b : Int) : Fits (shareI a b) := by
  have h := by1_pos b
  have ha := cutI_nonneg a
  have hm := cutI_le a
  have h0 : 0 ≤ shareI a b := Int.ediv_nonneg (by show 0 ≤ cutI a + (by1 b - 1); omega) (by show 0 ≤ by1 b; omega)
  refine ⟨h0, ?_⟩
  obtain ⟨h1, h2, h3⟩ := share_parts a b
  by_cases h4 : shareI a b < 1
  · omega
  · have h5 : by1 b + shareI a b ≤ by1 b * shareI a b + 1 := by
      have h6 : 0 ≤ (by1 b - 1) * (shareI a b - 1) := Int.mul_nonneg (by omega) (by omega)
      rw [Int.sub_mul, Int.mul_sub, Int.mul_one, Int.one_mul] at h6
      omega
    omega
theorem seek_fits (s : StatP) (l k : ByteArray) : Fits (seekI s l k) := by
  unfold seekI
  split
  · exact share_fits _ _
  · exact ⟨by decide, by decide⟩
theorem times_fits (a b : Int) : Fits (timesI a b) := by
  have h := Int.mul_nonneg (cutI_nonneg a) (cutI_nonneg b)
  unfold timesI
  split
  · exact ⟨by decide, by decide⟩
  · exact ⟨h, by omega⟩
theorem times_comm (a b : Int) : timesI a b = timesI b a := by unfold timesI; rw [Int.mul_comm]
theorem times_1 (a : Int) : timesI a 1 = plusI [a] := by
  have h := cutI_le a
  rw [plus_one]
  unfold timesI
  rw [show cutI 1 = 1 from rfl, Int.mul_one, if_neg (by omega)]
/-- The greater of 1 and a number, as it is cut. -/
def at1 (y : Int) : Int := if 1 < y then y else 1
theorem at1_by (y : Int) : cutI (at1 y) = by1 y := by
  unfold at1 by1 cutI
  split <;> split <;> (try split) <;> (try split) <;> (try split) <;> omega
theorem share_back (x y : Int) : plusI [x] ≤ timesI (shareI x y) (at1 y) := by
  rw [plus_one]
  unfold timesI
  rw [at1_by, cut_same (share_fits x y)]
  obtain ⟨h1, h2, h3⟩ := share_parts x y
  have hm := cutI_le x
  rw [Int.mul_comm] at h1
  split <;> omega
theorem share_less (x y : Int) (h : 0 < shareI x y) : timesI (shareI x y - 1) (at1 y) < plusI [x] := by
  rw [plus_one]
  obtain ⟨f1, f2⟩ := share_fits x y
  unfold timesI
  rw [at1_by, cut_same (n := shareI x y - 1) ⟨by omega, by omega⟩]
  obtain ⟨h1, h2, h3⟩ := share_parts x y
  have hm := cutI_le x
  have h4 : (shareI x y - 1) * by1 y = by1 y * shareI x y - by1 y := by rw [Int.sub_mul, Int.one_mul, Int.mul_comm]
  rw [h4]
  split <;> omega
end Go.Proofs.YthfilnflgahcjaaGreatDoor

namespace Go.Proofs.YthfilnflgahcjaaGreatDoor
open Go.RowKit Go.Shelf Go.Maps
set_option linter.unusedVariables false
set_option linter.unusedSimpArgs false
attribute [local go_sem] Oper.semAt_some
theorem at1_max (y : Int) : at1 y = max 1 y := by unfold at1; split <;> omega
/-- Counts that lie somewhere, however many. -/
structure StatO (B : Nat) (w : World) (vl vt ve vk : Value) (s : StatP) : Prop where
  hl : SRow 2 labC B w vl s.labels
  ht : SRow 2 labC B w vt s.types
  he : SRow 4 endC B w ve s.ends
  hk : SRow 4 keyC B w vk s.keys
  ol : ∀ x ∈ s.labels, okS x.1
  ot : ∀ x ∈ s.types, okS x.1
  oe : ∀ x ∈ s.ends, okE x
  ok : ∀ x ∈ s.keys, okK x
  nl : s.labels.length ≤ 1000000000000000000
  nt : s.types.length ≤ 1000000000000000000
  ne : s.ends.length ≤ 1000000000000000000
  nk : s.keys.length ≤ 1000000000000000000
theorem StatL.mono {B B' : Nat} {w : World} {vl vt ve vk : Value} {s : StatP} (h : StatL B w vl vt ve vk s) (hB : B ≤ B') : StatL B' w vl vt ve vk s := ⟨h.hl.mono hB, h.ht.mono hB, h.he.mono hB, h.hk.mono hB, h.ol, h.ot, h.oe, h.ok, h.nl, h.nt, h.ne, h.nk⟩
theorem StatO.lies {B : Nat} {w : World} {vl vt ve vk : Value} {s : StatP} (h : StatO B w vl vt ve vk s) (hf : fewB s = true) : StatL B w vl vt ve vk s := by
  have hf := of_decide_eq_true hf
  exact ⟨h.hl, h.ht, h.he, h.hk, h.ol, h.ot, h.oe, h.ok, by omega, by omega, by omega, by omega⟩
set_option maxRecDepth 100000 in
set_option maxHeartbeats 4000000 in
theorem few_anyO (s : StatP) (vl vt ve vk : Value) (B : Nat) (w : World) (h : StatO B w vl vt ve vk s) : Calls Tryz.prog 16 #[statV s vl vt ve vk] w fun e w' => e = .returned (.bool (fewB s)) ∧ Below w.heap.size w w' := by
  obtain ⟨m1, m2, m3, m4⟩ := And.intro h.nl (And.intro h.nt (And.intro h.ne h.nk))
  obtain ⟨la, lc, rfl, -⟩ := h.hl
  obtain ⟨ta, tc, rfl, -⟩ := h.ht
  obtain ⟨ea, ec, rfl, -⟩ := h.he
  obtain ⟨ka, kc, rfl, -⟩ := h.hk
  obtain ⟨z, hz⟩ : ∃ z, fewB s = z := ⟨_, rfl⟩
  have HZ := hidE hz
  rw [hz]
  unfold fewB at HZ
  simp only [statV]
  clear h hz
  generalize s.labels.length = l1 at *
  generalize s.types.length = l2 at *
  generalize s.ends.length = l3 at *
  generalize s.keys.length = l4 at *
  generalize s.nodes = n1 at *
  generalize s.rels = n2 at *
  go_enter Tryz.func16, Tryz.ntmps16
  go_upto_region 1 with fail
  generalize hW1 : World.alloc _ _ = W1
  have hr := rec_new w #[.int .i64 n1, .int .i64 n2, .slice la l1 lc, .slice ta l2 tc, .slice ea l3 ec, .slice ka l4 kc] 33
  rw [hW1] at hr
  have HB : Hid (Below w.heap.size w W1) := by rw [← hW1]; exact (Below.refl _ _).alloc (Nat.le_refl _) _
  have a2 := hr.cell 2 rfl
  have a3 := hr.cell 3 rfl
  have a4 := hr.cell 4 rfl
  have a5 := hr.cell 5 rfl
  clear hr hW1
  go_wp2_with fail
  go_ret
  refine ⟨?_, HB.out⟩
  rw [← HZ.out]
  simp
  try omega
set_option maxRecDepth 100000 in
set_option maxHeartbeats 16000000 in
theorem fit_law (s : StatP) (vl vt ve vk vls vts vns : Value) (key : ByteArray) (dir : Int) (ls ts : List ByteArray) (ns : List Int) (B : Nat) (w : World) (hB : B ≤ w.heap.size) (hE : Env w) (h : StatO B w vl vt ve vk s)
    (h1 : SRow 1 strE B w vls ls) (h2 : SRow 1 strE B w vts ts) (h3 : SRow 1 intE B w vns ns) (hkey : okS key) (ho1 : ∀ x ∈ ls, okS x) (ho2 : ∀ x ∈ ts, okS x) :
    Calls Tryz.prog 8 #[statV s vl vt ve vk, .agg #[vls, vts, .string key, .int .i64 dir, vns]] w fun e w' => e = .returned (.bool true) ∧ Below w.heap.size w w' := by
  have HO := hidE h
  have HLS := hidE h1
  have HTS := hidE h2
  have HNS := hidE h3
  have HE := hidE hE
  have HOK := hidE (And.intro hkey (And.intro ho1 ho2))
  obtain ⟨la, lc, rfl, -⟩ := h.hl
  obtain ⟨ta, tc, rfl, -⟩ := h.ht
  obtain ⟨ea, ec, rfl, -⟩ := h.he
  obtain ⟨ka, kc, rfl, -⟩ := h.hk
  obtain ⟨lsa, lsc, rfl, hx1, hx2, -⟩ := h1
  obtain ⟨tsa, tsc, rfl, hy1, hy2, -⟩ := h2
  obtain ⟨nsa, nsc, rfl, hz1, hz2, -⟩ := h3
  obtain ⟨p1, hp1⟩ : ∃ n, s.labels.length = n := ⟨_, rfl⟩
  obtain ⟨p2, hp2⟩ : ∃ n, s.types.length = n := ⟨_, rfl⟩
  obtain ⟨p3, hp3⟩ : ∃ n, s.ends.length = n := ⟨_, rfl⟩
  obtain ⟨p4, hp4⟩ : ∃ n, s.keys.length = n := ⟨_, rfl⟩
  obtain ⟨m1, hm1⟩ : ∃ n, ls.length = n := ⟨_, rfl⟩
  obtain ⟨m2, hm2⟩ : ∃ n, ts.length = n := ⟨_, rfl⟩
  obtain ⟨m3, hm3⟩ : ∃ n, ns.length = n := ⟨_, rfl⟩
  obtain ⟨sn, hsn⟩ : ∃ n, s.nodes = n := ⟨_, rfl⟩
  obtain ⟨sr, hsr⟩ : ∃ n, s.rels = n := ⟨_, rfl⟩
  have HV : Hid (statV s (.slice la p1 lc) (.slice ta p2 tc) (.slice ea p3 ec) (.slice ka p4 kc) = .agg #[.int .i64 sn, .int .i64 sr, .slice la p1 lc, .slice ta p2 tc, .slice ea p3 ec, .slice ka p4 kc]) := by
    show _ = _
    unfold statV; rw [hsn, hsr]
  have HM := hidE (And.intro hm1 (And.intro hm2 hm3))
  have HNN := hidE hsn
  rw [hp1, hp2, hp3, hp4] at HO
  rw [hm1] at HLS hx1
  rw [hm2] at HTS hy1
  rw [hm3] at HNS hz1
  rw [hp1, hp2, hp3, hp4, HV.out, hm1, hm2, hm3]
  have HFW : Hid (∀ W, Below w.heap.size w W → Calls Tryz.prog 16 #[.agg #[.int .i64 sn, .int .i64 sr, .slice la p1 lc, .slice ta p2 tc, .slice ea p3 ec, .slice ka p4 kc]] W fun e w' => e = .returned (.bool (fewB s)) ∧ Below W.heap.size W w') := fun W hb => by
    have := HO.out
    have h2 := few_anyO s _ _ _ _ B W ⟨this.hl.keep (hb.mono hB), this.ht.keep (hb.mono hB), this.he.keep (hb.mono hB), this.hk.keep (hb.mono hB), this.ol, this.ot, this.oe, this.ok, this.nl, this.nt, this.ne, this.nk⟩
    rwa [HV.out] at h2
  have HWK : Hid (∀ W, Below w.heap.size w W → Calls Tryz.prog 10 #[] W fun e w' => e = .returned (.bool true) ∧ Below W.heap.size W w') := fun W hb => works_any W (HE.out.below hb HE.out.room)
  clear h hkey ho1 ho2 hE hp1 hp2 hp3 hp4 hm1 hm2 hm3 hsn hsr HE
  obtain ⟨W1, hW1⟩ : ∃ W, w.alloc (.cells #[.int .i64 sn, .int .i64 sr, .slice la p1 lc, .slice ta p2 tc, .slice ea p3 ec, .slice ka p4 kc] 33) = W := ⟨_, rfl⟩
  have r1 : Rec W1 w.heap.size #[.int .i64 sn, .int .i64 sr, .slice la p1 lc, .slice ta p2 tc, .slice ea p3 ec, .slice ka p4 kc] 33 := by rw [← hW1]; exact rec_new _ _ _
  have hz1' : W1.heap.size = w.heap.size + 1 := by rw [← hW1]; simp
  have hb1 : Below w.heap.size w W1 := by rw [← hW1]; exact (Below.refl _ _).alloc (Nat.le_refl _) _
  obtain ⟨W2, hW2⟩ : ∃ W, W1.alloc (.cells #[.slice lsa m1 lsc, .slice tsa m2 tsc, .string key, .int .i64 dir, .slice nsa m3 nsc] 46) = W := ⟨_, rfl⟩
  have r2 : Rec W2 (w.heap.size + 1) #[.slice lsa m1 lsc, .slice tsa m2 tsc, .string key, .int .i64 dir, .slice nsa m3 nsc] 46 := by rw [← hW2, ← hz1']; exact rec_new _ _ _
  have hb12 : Below W1.heap.size W1 W2 := by rw [← hW2]; exact (Below.refl _ _).alloc (Nat.le_refl _) _
  have r1' := r1.below hb12 r1.lt
  have HB2 := hidE (Below.on hb1 hb12)
  have HR1 := hidE r1'
  have HR2 := hidE r2
  clear r1 hb1 hb12 r2 r1'
  have c0 := HR1.out.cell 0 rfl
  have c1 := HR1.out.cell 1 rfl
  have c2 := HR1.out.cell 2 rfl
  have c3 := HR1.out.cell 3 rfl
  have c4 := HR1.out.cell 4 rfl
  have c5 := HR1.out.cell 5 rfl
  have HF1 := hidE (HFW.out W2 HB2.out)
  go_enter Tryz.func8, Tryz.ntmps8
  go_upto_region 1 with fail
  try rw [hW1]
  try rw [hW2]
  clear hW1 hW2 hz1' HFW
  go_wp2_with fail
  refine HF1.out.mono ?_
  rintro e W3 ⟨rfl, hb3⟩
  have HB3 := hidE (Below.on HB2.out hb3)
  have HR1' := hidE (HR1.out.below hb3 HR1.out.lt)
  have HR2' := hidE (HR2.out.below hb3 HR2.out.lt)
  have d0 := HR2'.out.cell 0 rfl
  have d1 := HR2'.out.cell 1 rfl
  have d2 := HR2'.out.cell 2 rfl
  have d3 := HR2'.out.cell 3 rfl
  have d4 := HR2'.out.cell 4 rfl
  clear HF1 HR1 HR2 HB2 hb3 c0 c1 c2 c3 c4 c5
  obtain ⟨few, hfew⟩ : ∃ b, fewB s = b := ⟨_, rfl⟩
  have HFEW := hidE hfew
  rw [hfew]
  clear hfew
  cases few with
  | false =>
    go_wp2_with (go_at_call 10; refine (HWK.out _ HB3.out).mono ?_; rintro e W4 ⟨rfl, y1⟩; have HY := hidE (Below.on HB3.out y1); clear y1)
    go_ret
    exact ⟨rfl, HY.out⟩
  | true =>
    by_cases k1 : 20 < m1
    · have k1' : (20 : Int) < m1 := by omega
      go_wp2_with (go_at_call 10; refine (HWK.out _ HB3.out).mono ?_; rintro e W4 ⟨rfl, y1⟩; have HY := hidE (Below.on HB3.out y1); clear y1)
      go_ret
      exact ⟨rfl, HY.out⟩
    have k1' : ¬ (20 : Int) < m1 := by omega
    by_cases k2 : 20 < m2
    · have k2' : (20 : Int) < m2 := by omega
      go_wp2_with (go_at_call 10; refine (HWK.out _ HB3.out).mono ?_; rintro e W4 ⟨rfl, y1⟩; have HY := hidE (Below.on HB3.out y1); clear y1)
      go_ret
      exact ⟨rfl, HY.out⟩
    have k2' : ¬ (20 : Int) < m2 := by omega
    by_cases k3 : 100 < m3
    · have k3' : (100 : Int) < m3 := by omega
      go_wp2_with (go_at_call 10; refine (HWK.out _ HB3.out).mono ?_; rintro e W4 ⟨rfl, y1⟩; have HY := hidE (Below.on HB3.out y1); clear y1)
      go_ret
      exact ⟨rfl, HY.out⟩
    have k3' : ¬ (100 : Int) < m3 := by omega
    have HST : Hid (StatL B W3 (.slice la p1 lc) (.slice ta p2 tc) (.slice ea p3 ec) (.slice ka p4 kc) s) := by
      have hb := HB3.out.mono hB
      have := HO.out
      exact StatO.lies ⟨this.hl.keep hb, this.ht.keep hb, this.he.keep hb, this.hk.keep hb, this.ol, this.ot, this.oe, this.ok, this.nl, this.nt, this.ne, this.nk⟩ HFEW.out
    have hBW : B ≤ W3.heap.size := Nat.le_trans hB HB3.out.size
    have HLS3 := hidE (HLS.out.keep (HB3.out.mono hB))
    have HTS3 := hidE (HTS.out.keep (HB3.out.mono hB))
    have HNS3 := hidE (HNS.out.keep (HB3.out.mono hB))
    have hml : ls.length ≤ 100000 := by have := HM.out.1; omega
    have hmt : ts.length ≤ 100000 := by have := HM.out.2.1; omega
    -- what is called, in any world behind this one
    have HC17 : Hid (∀ W, Below W3.heap.size W3 W → Calls Tryz.prog 17 #[.agg #[.int .i64 sn, .int .i64 sr, .slice la p1 lc, .slice ta p2 tc, .slice ea p3 ec, .slice ka p4 kc]] W fun e w' => e = .returned (.int .i64 (cutI s.nodes)) ∧ Below W.heap.size W w') := fun W hb => by
      have h := all_any s _ _ _ _ B W (HST.out.keep (hb.mono hBW))
      rwa [HV.out] at h
    have HC19 : Hid (∀ W y l B2, Below W3.heap.size W3 W → SRow 1 strE B2 W y l → B ≤ B2 → B2 ≤ W.heap.size → (∀ x ∈ l, okS x) → l.length ≤ 100000 → Calls Tryz.prog 19 #[.agg #[.int .i64 sn, .int .i64 sr, .slice la p1 lc, .slice ta p2 tc, .slice ea p3 ec, .slice ka p4 kc], y] W fun e w' => e = .returned (.int .i64 (labelledI s l)) ∧ Below W.heap.size W w') := fun W y l B2 hb hr hB1 hB2 hok hl => by
      have h := labelled_any s _ _ _ _ y l B2 W hB2 ((HST.out.keep (hb.mono hBW)).mono hB1) hr hok hl
      rwa [HV.out] at h
    have HC20 : Hid (∀ W, Below W3.heap.size W3 W → Calls Tryz.prog 20 #[.agg #[.int .i64 sn, .int .i64 sr, .slice la p1 lc, .slice ta p2 tc, .slice ea p3 ec, .slice ka p4 kc], .slice tsa m2 tsc] W fun e w' => e = .returned (.int .i64 (typedI s ts)) ∧ Below W.heap.size W w') := fun W hb => by
      have h := typed_any s _ _ _ _ _ ts B W (Nat.le_trans hBW hb.size) (HST.out.keep (hb.mono hBW)) (HTS3.out.keep (hb.mono hBW)) HOK.out.2.2 hmt
      rwa [HV.out] at h
    have HC24 : Hid (∀ W l, Below W3.heap.size W3 W → okS l → Calls Tryz.prog 24 #[.agg #[.int .i64 sn, .int .i64 sr, .slice la p1 lc, .slice ta p2 tc, .slice ea p3 ec, .slice ka p4 kc], .string l, .string key] W fun e w' => e = .returned (.int .i64 (seekI s l key)) ∧ Below W.heap.size W w') := fun W l hb hl => by
      have h := seek_any s _ _ _ _ l key B W (Nat.le_trans hBW hb.size) (HST.out.keep (hb.mono hBW)) hl HOK.out.1
      rwa [HV.out] at h
    have HC26 : Hid (∀ W, Below W3.heap.size W3 W → Calls Tryz.prog 26 #[.agg #[.int .i64 sn, .int .i64 sr, .slice la p1 lc, .slice ta p2 tc, .slice ea p3 ec, .slice ka p4 kc], .int .i64 dir, .slice tsa m2 tsc] W fun e w' => e = .returned (.int .i64 (fanI s dir ts)) ∧ Below W.heap.size W w') := fun W hb => by
      have h := fan_any s _ _ _ _ _ dir ts B W (Nat.le_trans hBW hb.size) (HST.out.keep (hb.mono hBW)) (HTS3.out.keep (hb.mono hBW)) HOK.out.2.2 hmt
      rwa [HV.out] at h
    have HC28 : Hid (∀ W l, Below W3.heap.size W3 W → okS l → Calls Tryz.prog 28 #[.agg #[.int .i64 sn, .int .i64 sr, .slice la p1 lc, .slice ta p2 tc, .slice ea p3 ec, .slice ka p4 kc], .string l, .int .i64 dir, .slice tsa m2 tsc] W fun e w' => e = .returned (.int .i64 (fromI s l dir ts)) ∧ Below W.heap.size W w') := fun W l hb hl => by
      have h := from_any s _ _ _ _ _ l dir ts B W (Nat.le_trans hBW hb.size) (HST.out.keep (hb.mono hBW)) (HTS3.out.keep (hb.mono hBW)) hl HOK.out.2.2 hmt
      rwa [HV.out] at h
    have HC34 : Hid (∀ W, Below W3.heap.size W3 W → Calls Tryz.prog 34 #[.slice nsa m3 nsc] W fun e w' => e = .returned (.int .i64 (plusI ns)) ∧ w' = W) := fun W hb => plus_any ns _ B W (Nat.le_trans hBW hb.size) (HNS3.out.keep (hb.mono hBW))
    have HCLS : Hid (∀ W, Below W3.heap.size W3 W → Calls Tryz.prog 19 #[.agg #[.int .i64 sn, .int .i64 sr, .slice la p1 lc, .slice ta p2 tc, .slice ea p3 ec, .slice ka p4 kc], .slice lsa m1 lsc] W fun e w' => e = .returned (.int .i64 (labelledI s ls)) ∧ Below W.heap.size W w') := fun W hb => HC19.out W _ ls B hb (HLS3.out.keep (hb.mono hBW)) (Nat.le_refl _) (Nat.le_trans hBW hb.size) HOK.out.2.1 hml
    obtain ⟨ia, hia⟩ : ∃ n, cutI s.nodes = n := ⟨_, rfl⟩
    obtain ⟨ib, hib⟩ : ∃ n, labelledI s ls = n := ⟨_, rfl⟩
    obtain ⟨ic, hic⟩ : ∃ n, typedI s ts = n := ⟨_, rfl⟩
    have HIA := hidE hia
    have HIB := hidE hib
    have HIC := hidE hic
    rw [hia] at HC17
    rw [hib] at HCLS
    rw [hic] at HC20
    clear hia hib hic
    go_upto_region 3 with fail
    clear d0 d1 d2 d3 d4
    have e0 : ∀ u : Up W3, u.x.cell? ⟨w.heap.size, 0, none⟩ = some (.int .i64 sn) := fun u => u.cell (HR1'.out.cell 0 rfl)
    have e1 : ∀ u : Up W3, u.x.cell? ⟨w.heap.size, 1, none⟩ = some (.int .i64 sr) := fun u => u.cell (HR1'.out.cell 1 rfl)
    have e2 : ∀ u : Up W3, u.x.cell? ⟨w.heap.size, 2, none⟩ = some (.slice la p1 lc) := fun u => u.cell (HR1'.out.cell 2 rfl)
    have e3 : ∀ u : Up W3, u.x.cell? ⟨w.heap.size, 3, none⟩ = some (.slice ta p2 tc) := fun u => u.cell (HR1'.out.cell 3 rfl)
    have e4 : ∀ u : Up W3, u.x.cell? ⟨w.heap.size, 4, none⟩ = some (.slice ea p3 ec) := fun u => u.cell (HR1'.out.cell 4 rfl)
    have e5 : ∀ u : Up W3, u.x.cell? ⟨w.heap.size, 5, none⟩ = some (.slice ka p4 kc) := fun u => u.cell (HR1'.out.cell 5 rfl)
    have f0 : ∀ u : Up W3, u.x.cell? ⟨w.heap.size + 1, 0, none⟩ = some (.slice lsa m1 lsc) := fun u => u.cell (HR2'.out.cell 0 rfl)
    have f1 : ∀ u : Up W3, u.x.cell? ⟨w.heap.size + 1, 1, none⟩ = some (.slice tsa m2 tsc) := fun u => u.cell (HR2'.out.cell 1 rfl)
    have up_ne : Nonempty (Up W3) := ⟨⟨W3, Below.refl _ _⟩⟩
    refine wp_up (by kernel_rfl) (by kernel_rfl) ?_
    repeat (go_big_quiet_step (first | (go_at_call 17; exact Up.call (HC17.out _ (Up.b _))) | (go_at_call 19; exact Up.call (HCLS.out _ (Up.b _))) | (go_at_call 20; exact Up.call (HC20.out _ (Up.b _)))))
    refine wpQuiet_nil ?_
    rintro w' ⟨⟨W4, hb4⟩, rfl⟩
    clear e0 e1 e2 e3 e4 e5 f0 f1 up_ne HC17 HCLS HC20
    have HB4 := hidE hb4
    have H40 : Hid (∀ n W, Fits n → Calls Tryz.prog 40 #[.int .i64 n] W fun e w' => e = .returned (.bool true) ∧ w' = W) := fun n W hn => by
      have h := fits_any n W
      rwa [fits_true hn] at h
    have HFA : Hid (Fits ia) := by show Fits ia; rw [← HIA.out]; exact cut_fits _
    have HFB : Hid (Fits ib) := by show Fits ib; rw [← HIB.out]; exact labelled_fits _ _
    have HFC : Hid (Fits ic) := by show Fits ic; rw [← HIC.out]; exact typed_fits _ _
    have hba : ¬ ia < ib := by rw [← HIA.out, ← HIB.out]; have := labelled_all s ls; omega
    obtain ⟨ifn, hifn⟩ : ∃ n, fanI s dir ts = n := ⟨_, rfl⟩
    have HFF : Hid (Fits ifn) := by show Fits ifn; rw [← hifn]; exact share_fits _ _
    rw [hifn] at HC26
    obtain ⟨ip, hip⟩ : ∃ n, plusI ns = n := ⟨_, rfl⟩
    have HFP : Hid (Fits ip) := by show Fits ip; rw [← hip]; exact plus_fits _
    rw [hip] at HC34
    clear hifn hip
    have q1 := HR1'.out.below hb4 HR1'.out.lt
    have q2 := HR2'.out.below hb4 HR2'.out.lt
    have c0 := q1.cell 0 rfl
    have c1 := q1.cell 1 rfl
    have c2 := q1.cell 2 rfl
    have c3 := q1.cell 3 rfl
    have c4 := q1.cell 4 rfl
    have c5 := q1.cell 5 rfl
    have d1 := q2.cell 1 rfl
    have d3 := q2.cell 3 rfl
    clear q1 q2 hb4
    go_upto_region 6 with (first
      | (go_at_call 40; refine (H40.out _ _ (by first | exact HFA.out | exact HFB.out | exact HFC.out | exact HFF.out | exact HFP.out)).mono ?_; rintro e _ ⟨rfl, rfl⟩)
      | (go_at_call 26; refine (HC26.out _ HB4.out).mono ?_; rintro e W5 ⟨rfl, y1⟩; have HB5 := hidE (Below.on HB4.out y1); have d4 := (HR2'.out.below HB5.out HR2'.out.lt).cell 4 rfl; clear y1)
      | (go_at_call 34; refine (HC34.out _ HB5.out).mono ?_; rintro e _ ⟨rfl, rfl⟩))
    have HL19 : Hid (∀ W x, Below W3.heap.size W3 W → okS x → Calls Tryz.prog 19 #[.agg #[.int .i64 sn, .int .i64 sr, .slice la p1 lc, .slice ta p2 tc, .slice ea p3 ec, .slice ka p4 kc], .slice (some ⟨W.heap.size, 0, none⟩) 1 1] (W.alloc (.cells #[.string x] 9)) fun e w' => e = .returned (.int .i64 (labelledI s [x])) ∧ Below W.heap.size W w') := fun W x hb hx => by
      have hn : Below W.heap.size W (W.alloc (.cells #[.string x] 9)) := (Below.refl _ _).alloc (Nat.le_refl _) _
      refine (HC19.out (W.alloc (.cells #[.string x] 9)) _ [x] _ (Below.on hb hn) (srow_new (k := 1) (enc := strE) (fun _ => rfl) W [x] #[.string x] 9 rfl (by simp)) (Nat.le_trans hBW (Below.on hb hn).size) (Nat.le_refl _) (fun y hy => by rw [List.mem_singleton.1 hy]; exact hx) (by simp)).mono ?_
      rintro e w' ⟨h1, h2⟩
      exact ⟨h1, Below.on hn h2⟩
    have HEA : Hid (∀ x ∈ ls, ¬ labelledI s [x] < ib) := fun x hx => by
      rw [← HIB.out]
      have := labelled_each s hx
      omega
    have HFS : Hid (∀ x, Fits (seekI s x key)) := fun x => seek_fits s x key
    have HFR : Hid (∀ x, Fits (fromI s x dir ts)) := fun x => share_fits _ _
    clear HC26 HC34 HFA HFB HFC HFF HFP hba c0 c1 c2 c3 c4 c5 d1 d3 d4
    go_wp2_with fail
    go_loopw [8] (fun i wr => ∃ j : Nat, j ≤ m1 ∧ i = .int .i64 j ∧ Below W3.heap.size W3 wr) (fun i _ => m1 - (intOf i).toNat)
    case atStart => exact ⟨0, Nat.zero_le _, rfl, HB5.out⟩
    case round =>
      obtain ⟨j, hj, rfl, hbr⟩ := hrel
      have HBR := hidE hbr
      have q1 := HR1'.out.below hbr HR1'.out.lt
      have q2 := HR2'.out.below hbr HR2'.out.lt
      have c0 := q1.cell 0 rfl
      have c1 := q1.cell 1 rfl
      have c2 := q1.cell 2 rfl
      have c3 := q1.cell 3 rfl
      have c4 := q1.cell 4 rfl
      have c5 := q1.cell 5 rfl
      have d0 := q2.cell 0 rfl
      clear q1 q2 hbr HB5 HB4
      by_cases hlt : j < m1
      · have hlt' : (j : Int) < m1 := by omega
        obtain ⟨x, hx⟩ : ∃ q, ls[j]? = some q := ⟨_, List.getElem?_eq_getElem (by have := HM.out.1; omega)⟩
        have hxm := List.mem_of_getElem? hx
        obtain ⟨a0, c0', ea0, _, _, hrw⟩ := HLS3.out
        obtain ⟨rfl, rfl⟩ : lsa = a0 ∧ lsc = c0' := by injection ea0 with a b c; exact ⟨a, c⟩
        obtain ⟨b0, o0, rfl, hb0, hc0⟩ := hrw.resolve_left (by intro e; rw [e] at hx; simp at hx)
        have cx : wr.cell? ⟨b0, o0 + j, none⟩ = some (.string x) := by
          have h := hc0 j x hx 0 _ rfl
          rw [Nat.mul_one, Nat.add_zero] at h
          exact (HBR.out.cell (p := ⟨b0, o0 + j, none⟩) (Nat.lt_of_lt_of_le hb0 hBW)).trans h
        have hokx := HOK.out.2.1 x hxm
        have H19 := hidE (HL19.out wr x HBR.out hokx)
        have hea := HEA.out x hxm
        obtain ⟨lx, hlx⟩ : ∃ n, labelledI s [x] = n := ⟨_, rfl⟩
        rw [hlx] at H19 hea
        have HHX := hidE hokx
        obtain ⟨sx, hsx⟩ : ∃ n, seekI s x key = n := ⟨_, rfl⟩
        obtain ⟨fx, hfx⟩ : ∃ n, fromI s x dir ts = n := ⟨_, rfl⟩
        have HF1 : Hid (Fits sx) := by show Fits sx; rw [← hsx]; exact HFS.out x
        have HF2 : Hid (Fits fx) := by show Fits fx; rw [← hfx]; exact HFR.out x
        have H24 : Hid (∀ W, Below W3.heap.size W3 W → Calls Tryz.prog 24 #[.agg #[.int .i64 sn, .int .i64 sr, .slice la p1 lc, .slice ta p2 tc, .slice ea p3 ec, .slice ka p4 kc], .string x, .string key] W fun e w' => e = .returned (.int .i64 sx) ∧ Below W.heap.size W w') := fun W hb => by rw [← hsx]; exact HC24.out W x hb HHX.out
        have H28 : Hid (∀ W, Below W3.heap.size W3 W → Calls Tryz.prog 28 #[.agg #[.int .i64 sn, .int .i64 sr, .slice la p1 lc, .slice ta p2 tc, .slice ea p3 ec, .slice ka p4 kc], .string x, .int .i64 dir, .slice tsa m2 tsc] W fun e w' => e = .returned (.int .i64 fx) ∧ Below W.heap.size W w') := fun W hb => by rw [← hfx]; exact HC28.out W x hb HHX.out
        clear hlx hsx hfx hx hxm hokx hrw hc0 ea0
        go_wp2_with (first
          | (go_at_call 40; refine (H40.out _ _ (by first | exact HF1.out | exact HF2.out)).mono ?_; rintro e _ ⟨rfl, rfl⟩)
          | (go_at_call 19; refine H19.out.mono ?_; rintro e W6 ⟨rfl, y1⟩; have HB6 := hidE (Below.on HBR.out y1); have q1 := HR1'.out.below HB6.out HR1'.out.lt; have q2 := HR2'.out.below HB6.out HR2'.out.lt; have g0 := q1.cell 0 rfl; have g1 := q1.cell 1 rfl; have g2 := q1.cell 2 rfl; have g3 := q1.cell 3 rfl; have g4 := q1.cell 4 rfl; have g5 := q1.cell 5 rfl; have k2 := q2.cell 2 rfl; clear y1 q1 q2)
          | (go_at_call 24; refine (H24.out _ HB6.out).mono ?_; rintro e W7 ⟨rfl, y1⟩; have HB7 := hidE (Below.on HB6.out y1); have q1 := HR1'.out.below HB7.out HR1'.out.lt; have q2 := HR2'.out.below HB7.out HR2'.out.lt; have g0 := q1.cell 0 rfl; have g1 := q1.cell 1 rfl; have g2 := q1.cell 2 rfl; have g3 := q1.cell 3 rfl; have g4 := q1.cell 4 rfl; have g5 := q1.cell 5 rfl; have k1 := q2.cell 1 rfl; have k3 := q2.cell 3 rfl; clear y1 q1 q2)
          | (go_at_call 28; refine (H28.out _ HB7.out).mono ?_; rintro e W8 ⟨rfl, y1⟩; have HB8 := hidE (Below.on HB7.out y1); clear y1))
        go_roundw
        case rel => exact ⟨j + 1, by omega, by go_num, HB8.out⟩
        case measure => simp [intOf]; omega
      · have hlt' : ¬ (j : Int) < m1 := by omega
        clear HL19 HEA HFS HFR HC24 HC28 HC19
        go_wp2_with fail
        clear c0 c1 c2 c3 c4 c5 d0
        go_loopw [10] (fun i wr => ∃ k : Nat, (k ≤ m3 ∨ k = 0) ∧ i = .int .i64 ((k : Int) + 1) ∧ Below W3.heap.size W3 wr) (fun i _ => m3 - (intOf i).toNat)
        case atStart => exact ⟨0, .inr rfl, rfl, HBR.out⟩
        case round =>
          clear HBR
          obtain ⟨k, hk, rfl, hbr⟩ := hrel
          have HBR := hidE hbr
          have q2 := HR2'.out.below hbr HR2'.out.lt
          have d4 := q2.cell 4 rfl
          clear q2 hbr
          by_cases hlt2 : k + 1 < m3
          · have hlt2' : (k : Int) + 1 < m3 := by omega
            obtain ⟨x, hx⟩ : ∃ q, ns[k]? = some q := ⟨_, List.getElem?_eq_getElem (by have := HM.out.2.2; omega)⟩
            obtain ⟨y, hy⟩ : ∃ q, ns[k + 1]? = some q := ⟨_, List.getElem?_eq_getElem (by have := HM.out.2.2; omega)⟩
            obtain ⟨a0, c0', ea0, _, _, hrw⟩ := HNS3.out
            obtain ⟨rfl, rfl⟩ : nsa = a0 ∧ nsc = c0' := by injection ea0 with a b c; exact ⟨a, c⟩
            obtain ⟨b0, o0, rfl, hb0, hc0⟩ := hrw.resolve_left (by intro e; rw [e] at hx; simp at hx)
            have cx : wr.cell? ⟨b0, o0 + k, none⟩ = some (.int .i64 x) := by
              have h := hc0 k x hx 0 _ rfl
              rw [Nat.mul_one, Nat.add_zero] at h
              exact (HBR.out.cell (p := ⟨b0, o0 + k, none⟩) (Nat.lt_of_lt_of_le hb0 hBW)).trans h
            have cy : wr.cell? ⟨b0, o0 + (k + 1), none⟩ = some (.int .i64 y) := by
              have h := hc0 (k + 1) y hy 0 _ rfl
              rw [Nat.mul_one, Nat.add_zero] at h
              exact (HBR.out.cell (p := ⟨b0, o0 + (k + 1), none⟩) (Nat.lt_of_lt_of_le hb0 hBW)).trans h
            have f4 : ∀ u : Up wr, u.x.cell? ⟨w.heap.size + 1, 4, none⟩ = some (.slice (some ⟨b0, o0, none⟩) m3 nsc) := fun u => u.cell d4
            have fx : ∀ u : Up wr, u.x.cell? ⟨b0, o0 + k, none⟩ = some (.int .i64 x) := fun u => u.cell cx
            have fy : ∀ u : Up wr, u.x.cell? ⟨b0, o0 + (k + 1), none⟩ = some (.int .i64 y) := fun u => u.cell cy
            have up_ne : Nonempty (Up wr) := ⟨⟨wr, Below.refl _ _⟩⟩
            clear hx hy hrw hc0 ea0
            go_upto_region 15 with fail
            refine wp_up (by kernel_rfl) (by kernel_rfl) ?_
            repeat (go_big_quiet_step (fail))
            refine wpQuiet_nil ?_
            rintro w' ⟨⟨W6, hb6⟩, rfl⟩
            have HBZ := hidE (Below.on HBR.out hb6)
            obtain ⟨tv, htv⟩ : ∃ n, timesI x y = n := ⟨_, rfl⟩
            obtain ⟨hv, hhv⟩ : ∃ n, shareI x y = n := ⟨_, rfl⟩
            obtain ⟨pxy, hpxy⟩ : ∃ n, plusI [x, y] = n := ⟨_, rfl⟩
            obtain ⟨px, hpx⟩ : ∃ n, plusI [x] = n := ⟨_, rfl⟩
            obtain ⟨py, hpy⟩ : ∃ n, plusI [y] = n := ⟨_, rfl⟩
            have HTV : Hid (Fits tv) := by show Fits tv; rw [← htv]; exact times_fits _ _
            have HHV : Hid (Fits hv) := by show Fits hv; rw [← hhv]; exact share_fits _ _
            have hv0 : 0 ≤ hv := HHV.out.1
            have hv1 : hv ≤ 4611686018427387904 := HHV.out.2
            have hm1 : ¬ pxy < px := by rw [← hpxy, ← hpx]; have := (plus_most x y).1; omega
            have hm2 : ¬ pxy < py := by rw [← hpxy, ← hpy]; have := (plus_most x y).2; omega
            have HM1 : Hid (px ≤ timesI hv (at1 y)) := by show _ ≤ _; rw [← hpx, ← hhv]; exact share_back x y
            have HM2 : Hid (0 < hv → timesI (hv - 1) (at1 y) < px) := by show _ → _; rw [← hpx, ← hhv]; exact share_less x y
            have HTA : Hid (∀ W, Calls Tryz.prog 30 #[.int .i64 x, .int .i64 y] W fun e w' => e = .returned (.int .i64 tv) ∧ w' = W) := fun W => by rw [← htv]; exact times_any x y W
            have HTB : Hid (∀ W, Calls Tryz.prog 30 #[.int .i64 y, .int .i64 x] W fun e w' => e = .returned (.int .i64 tv) ∧ w' = W) := fun W => by rw [← htv, times_comm]; exact times_any y x W
            have HTC : Hid (∀ W, Calls Tryz.prog 30 #[.int .i64 x, .int .i64 1] W fun e w' => e = .returned (.int .i64 px) ∧ w' = W) := fun W => by rw [← hpx, ← times_1]; exact times_any x 1 W
            have HSH : Hid (∀ W, Calls Tryz.prog 32 #[.int .i64 x, .int .i64 y] W fun e w' => e = .returned (.int .i64 hv) ∧ w' = W) := fun W => by rw [← hhv]; exact share_any x y W
            have HPL : ∀ (W : World) (l : List Int) (cs : Array Value), cs.toList = (l.map intE).flatten → l.length ≤ 9223372036854775807 → Calls Tryz.prog 34 #[.slice (some ⟨W.heap.size, 0, none⟩) l.length l.length] (W.alloc (.cells cs 2)) fun e w' => e = .returned (.int .i64 (plusI l)) ∧ Below W.heap.size W w' := fun W l cs h hl => by
              refine (plus_any l _ _ (W.alloc (.cells cs 2)) (Nat.le_refl _) (srow_new (k := 1) (enc := intE) (fun _ => rfl) W l cs 2 h hl)).mono ?_
              rintro e w' ⟨h1, rfl⟩
              exact ⟨h1, (Below.refl _ _).alloc (Nat.le_refl _) _⟩
            have HPA : Hid (∀ W : World, Calls Tryz.prog 34 #[.slice (some ⟨W.heap.size, 0, none⟩) 2 2] (W.alloc (.cells #[.int .i64 x, .int .i64 y] 2)) fun e w' => e = .returned (.int .i64 pxy) ∧ Below W.heap.size W w') := fun W => by rw [← hpxy]; exact HPL W [x, y] _ rfl (by simp)
            have HPB : Hid (∀ W : World, Calls Tryz.prog 34 #[.slice (some ⟨W.heap.size, 0, none⟩) 2 2] (W.alloc (.cells #[.int .i64 y, .int .i64 x] 2)) fun e w' => e = .returned (.int .i64 pxy) ∧ Below W.heap.size W w') := fun W => by rw [← hpxy, plus_comm]; exact HPL W [y, x] _ rfl (by simp)
            have HPX : Hid (∀ W : World, Calls Tryz.prog 34 #[.slice (some ⟨W.heap.size, 0, none⟩) 1 1] (W.alloc (.cells #[.int .i64 x] 2)) fun e w' => e = .returned (.int .i64 px) ∧ Below W.heap.size W w') := fun W => by rw [← hpx]; exact HPL W [x] _ rfl (by simp)
            have HPY : Hid (∀ W : World, Calls Tryz.prog 34 #[.slice (some ⟨W.heap.size, 0, none⟩) 1 1] (W.alloc (.cells #[.int .i64 y] 2)) fun e w' => e = .returned (.int .i64 py) ∧ Below W.heap.size W w') := fun W => by rw [← hpy]; exact HPL W [y] _ rfl (by simp)
            clear HPL htv hhv hpxy hpx hpy f4 fx fy up_ne d4 cx cy hb6
            go_upto_region 17 with (first
              | (go_at_call 30; refine (HTA.out _).mono ?_; rintro e _ ⟨rfl, rfl⟩)
              | (go_at_call 32; refine (HSH.out _).mono ?_; rintro e _ ⟨rfl, rfl⟩))
            go_upto_region 19 with (first
              | (go_at_call 40; refine (H40.out _ _ (by first | exact HTV.out | exact HHV.out)).mono ?_; rintro e _ ⟨rfl, rfl⟩)
              | (go_at_call_of 30 (Value.int .i64 y); refine (HTB.out _).mono ?_; rintro e _ ⟨rfl, rfl⟩)
              | (go_at_call 30; refine (HTC.out _).mono ?_; rintro e _ ⟨rfl, rfl⟩))
            refine (HPA.out _).mono ?_
            rintro e W7 ⟨rfl, y1⟩
            replace HBZ := hidE (Below.on HBZ.out y1)
            clear y1
            go_upto_region 19 with (first
              | (go_at_call 40; refine (H40.out _ _ (by first | exact HTV.out | exact HHV.out)).mono ?_; rintro e _ ⟨rfl, rfl⟩)
              | (go_at_call_of 30 (Value.int .i64 y); refine (HTB.out _).mono ?_; rintro e _ ⟨rfl, rfl⟩)
              | (go_at_call 30; refine (HTC.out _).mono ?_; rintro e _ ⟨rfl, rfl⟩))
            refine (HPB.out _).mono ?_
            rintro e W7 ⟨rfl, y1⟩
            replace HBZ := hidE (Below.on HBZ.out y1)
            clear y1
            go_upto_region 19 with (first
              | (go_at_call 40; refine (H40.out _ _ (by first | exact HTV.out | exact HHV.out)).mono ?_; rintro e _ ⟨rfl, rfl⟩)
              | (go_at_call_of 30 (Value.int .i64 y); refine (HTB.out _).mono ?_; rintro e _ ⟨rfl, rfl⟩)
              | (go_at_call 30; refine (HTC.out _).mono ?_; rintro e _ ⟨rfl, rfl⟩))
            refine (HPA.out _).mono ?_
            rintro e W7 ⟨rfl, y1⟩
            replace HBZ := hidE (Below.on HBZ.out y1)
            clear y1
            go_upto_region 19 with (first
              | (go_at_call 40; refine (H40.out _ _ (by first | exact HTV.out | exact HHV.out)).mono ?_; rintro e _ ⟨rfl, rfl⟩)
              | (go_at_call_of 30 (Value.int .i64 y); refine (HTB.out _).mono ?_; rintro e _ ⟨rfl, rfl⟩)
              | (go_at_call 30; refine (HTC.out _).mono ?_; rintro e _ ⟨rfl, rfl⟩))
            refine (HPX.out _).mono ?_
            rintro e W7 ⟨rfl, y1⟩
            replace HBZ := hidE (Below.on HBZ.out y1)
            clear y1
            go_upto_region 19 with (first
              | (go_at_call 40; refine (H40.out _ _ (by first | exact HTV.out | exact HHV.out)).mono ?_; rintro e _ ⟨rfl, rfl⟩)
              | (go_at_call_of 30 (Value.int .i64 y); refine (HTB.out _).mono ?_; rintro e _ ⟨rfl, rfl⟩)
              | (go_at_call 30; refine (HTC.out _).mono ?_; rintro e _ ⟨rfl, rfl⟩))
            refine (HPY.out _).mono ?_
            rintro e W7 ⟨rfl, y1⟩
            replace HBZ := hidE (Below.on HBZ.out y1)
            clear y1
            go_upto_region 19 with (first
              | (go_at_call 40; refine (H40.out _ _ (by first | exact HTV.out | exact HHV.out)).mono ?_; rintro e _ ⟨rfl, rfl⟩)
              | (go_at_call_of 30 (Value.int .i64 y); refine (HTB.out _).mono ?_; rintro e _ ⟨rfl, rfl⟩)
              | (go_at_call 30; refine (HTC.out _).mono ?_; rintro e _ ⟨rfl, rfl⟩))
            refine (HPX.out _).mono ?_
            rintro e W7 ⟨rfl, y1⟩
            replace HBZ := hidE (Below.on HBZ.out y1)
            clear y1
            obtain ⟨tb, htb⟩ : ∃ n, timesI hv (at1 y) = n := ⟨_, rfl⟩
            have hb1 : ¬ tb < px := by rw [← htb]; have := HM1.out; omega
            have HTD : Hid (∀ W, Calls Tryz.prog 30 #[.int .i64 hv, .int .i64 (max 1 y)] W fun e w' => e = .returned (.int .i64 tb) ∧ w' = W) := fun W => by rw [← htb, at1_max]; exact times_any hv (max 1 y) W
            by_cases hp : 0 < hv
            · obtain ⟨te, hte⟩ : ∃ n, timesI (hv - 1) (at1 y) = n := ⟨_, rfl⟩
              have he1 : ¬ px ≤ te := by rw [← hte]; have := HM2.out hp; omega
              have HTE : Hid (∀ W, Calls Tryz.prog 30 #[.int .i64 (hv - 1), .int .i64 (max 1 y)] W fun e w' => e = .returned (.int .i64 te) ∧ w' = W) := fun W => by rw [← hte, at1_max]; exact times_any (hv - 1) (max 1 y) W
              clear htb hte
              go_wp2_with fail
              refine (HTD.out _).mono ?_
              rintro e _ ⟨rfl, rfl⟩
              go_wp2_with fail
              refine (HPX.out _).mono ?_
              rintro e W7 ⟨rfl, y1⟩
              replace HBZ := hidE (Below.on HBZ.out y1)
              clear y1
              go_wp2_with fail
              refine (HTE.out _).mono ?_
              rintro e _ ⟨rfl, rfl⟩
              go_wp2_with fail
              refine (HPX.out _).mono ?_
              rintro e W7 ⟨rfl, y1⟩
              replace HBZ := hidE (Below.on HBZ.out y1)
              clear y1
              go_wp2_with fail
              go_roundw
              case rel => exact ⟨k + 1, .inl (by omega), by go_num, HBZ.out⟩
              case measure => simp [intOf]; omega
            · clear htb
              go_wp2_with fail
              refine (HTD.out _).mono ?_
              rintro e _ ⟨rfl, rfl⟩
              go_wp2_with fail
              refine (HPX.out _).mono ?_
              rintro e W7 ⟨rfl, y1⟩
              replace HBZ := hidE (Below.on HBZ.out y1)
              clear y1
              go_wp2_with fail
              go_roundw
              case rel => exact ⟨k + 1, .inl (by omega), by go_num, HBZ.out⟩
              case measure => simp [intOf]; omega
          · have hlt2' : ¬ (k : Int) + 1 < m3 := by omega
            go_wp2_with (go_at_call 10; refine (HWK.out _ (HB3.out.trans (HBR.out.mono HB3.out.size))).mono ?_; rintro e W9 ⟨rfl, y1⟩; have HY := hidE (Below.on (HB3.out.trans (HBR.out.mono HB3.out.size)) y1); clear y1)
            go_ret
            exact ⟨rfl, HY.out⟩
end Go.Proofs.YthfilnflgahcjaaGreatDoor

