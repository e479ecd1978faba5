/- Equal: values that may not be are held for nothing. How great a value is, as far as some. -/
import Derived.Test.YteddjlbfbpecjaaGreatDoorOrders
import Derived.Test.YteddjlbfbpecjaaGreatDoorCheck
namespace Go.Proofs.YteddjlbfbpecjaaGreatDoor
open Go.RowKit Go.Shelf
set_option linter.unusedVariables false

/-- Not too great to be looked at. -/
def Modest (t : Tree) : Prop := t.height < 100000000 ∧ bytesOf (t.pre 1) < 4611686018427387904

set_option maxHeartbeats 1000000 in
theorem refused_any (ts : List Tree) (B : Nat) (la : Option Addr) (lc : Nat) (w : World) (hB : B ≤ w.heap.size) (hl : ListLies B w la ts) (h1 : ts.length ≤ lc) (h2 : lc ≤ maxLen) (hT : Tabs w) (hm : ∀ t ∈ ts, Modest t) :
    Calls Tryz.prog 185 #[.slice la ts.length lc] w fun e w' => e = .returned (.bool (ts.any fun t => checkN t != 0)) ∧ Below w.heap.size w w' := by
  unfold maxLen at h2
  have HM := hidE hm
  clear hm
  go_enter Tryz.func185, Tryz.ntmps185
  go_wp2_with fail
  go_loopw [7] (fun i wr => ∃ j : Nat, j ≤ ts.length ∧ i = .int .i64 j ∧ Below w.heap.size w wr ∧ (ts.take j).any (fun t => checkN t != 0) = false) (fun i _ => ts.length - (intOf i).toNat)
  case atStart => exact ⟨0, Nat.zero_le _, rfl, Below.refl _ _, rfl⟩
  case round =>
    obtain ⟨j, hj, rfl, hbr, hno⟩ := hrel
    have HNO := hidE hno
    clear hno
    by_cases hlt : j < ts.length
    · obtain ⟨bl, off, rfl, hbl, hkl⟩ := hl.resolve_left (by intro e; subst e; simp at hlt)
      obtain ⟨⟨p0, p1, p2, p3, p4, p5⟩, hx⟩ : ∃ t, ts[j]? = some t := ⟨_, List.getElem?_eq_getElem hlt⟩
      obtain ⟨ja, jc, jl, jd, ⟨c0, c1, c2, c3, c4, c5⟩, hlx⟩ := (hkl.below (hbr.mono hB) hbl).cells hx
      have hmx := HM.out _ (List.mem_of_getElem? hx)
      have HX := hidE hx
      have hal : Below wr.heap.size wr (wr.alloc (.cells #[.int .i64 p0, .bool p1, .int .i64 p2, .string p3, .slice ja p4.length jc, .slice jl p5.length jd] 60)) := (Below.refl _ _).alloc (Nat.le_refl _) _
      have HC := hidE (check_any _ _ _ ((hlx.below (hal.mono (Nat.le_trans hB hbr.size))).mono (Nat.le_trans (Nat.le_trans hB hbr.size) hal.size)) ((hT.below hbr).below hal) hmx.1 hmx.2)
      clear hx hkl hlx hmx hal
      go_wp2_with fail
      refine HC.out.mono ?_
      rintro e w' ⟨rfl, hk2⟩
      have HB2 : Hid (Below w.heap.size w w') := below_on hbr (below_alloc hk2)
      generalize hcn : checkN (.mk p0 p1 p2 p3 p4 p5) = cn at *
      have HCN := hidE hcn
      clear hk2 HC hcn c0 c1 c2 c3 c4 c5
      by_cases z : cn = 0
      · have z' : (cn != 0) = false := by simp [z]
        go_wp2_with fail
        go_roundw
        case rel =>
          refine ⟨j + 1, by omega, by go_num, HB2.out, ?_⟩
          rw [List.take_add_one, HX.out, List.any_append, HNO.out]
          simp [HCN.out, z]
        case measure => simp [intOf]; omega
      · have z' : (cn != 0) = true := by simp [z]
        go_wp2_with fail
        go_ret
        refine ⟨?_, HB2.out⟩
        have : ts.any (fun t => checkN t != 0) = true := by
          rw [List.any_eq_true]
          exact ⟨_, List.mem_of_getElem? HX.out, by rw [HCN.out]; exact z'⟩
        rw [this]; rfl
    · go_wp2_with fail
      go_ret
      refine ⟨?_, hbr⟩
      have := HNO.out
      rw [List.take_of_length_le (by omega)] at this
      rw [this]; rfl

/-- What Equal answers. -/

theorem two_kids {W : World} {bl B : Nat} {k : Int} {x : Bool} {n : Int} {s : ByteArray} {ka : Option Addr} {kc : Nat} {la : Option Addr} {lc : Nat} {ks : List ByteArray} {ts : List Tree}
    {k' : Int} {x' : Bool} {n' : Int} {s' : ByteArray} {ka' : Option Addr} {kc' : Nat} {la' : Option Addr} {lc' : Nat} {ks' : List ByteArray} {ts' : List Tree}
    (hc : W.heap[bl]? = some (.cells #[.int .i64 k, .bool x, .int .i64 n, .string s, .slice ka ks.length kc, .slice la ts.length lc, .int .i64 k', .bool x', .int .i64 n', .string s', .slice ka' ks'.length kc', .slice la' ts'.length lc'] 60 (0, 0)))
    (h1 : Lies B W (.agg #[.int .i64 k, .bool x, .int .i64 n, .string s, .slice ka ks.length kc, .slice la ts.length lc]) (.mk k x n s ks ts))
    (h2 : Lies B W (.agg #[.int .i64 k', .bool x', .int .i64 n', .string s', .slice ka' ks'.length kc', .slice la' ts'.length lc']) (.mk k' x' n' s' ks' ts')) :
    KidsLie B W bl 0 [.mk k x n s ks ts, .mk k' x' n' s' ks' ts'] := by
  have hcell : ∀ i v, (#[Value.int .i64 k, .bool x, .int .i64 n, .string s, .slice ka ks.length kc, .slice la ts.length lc, .int .i64 k', .bool x', .int .i64 n', .string s', .slice ka' ks'.length kc', .slice la' ts'.length lc'] : Array Value)[i]? = some v → W.cell? ⟨bl, i, none⟩ = some v := by
    intro i v hi; unfold World.cell?; simp only [hc]; simpa using hi
  simp only [KidsLie]
  refine ⟨⟨_, _, _, _, _, _, ⟨hcell 0 _ rfl, hcell 1 _ rfl, hcell 2 _ rfl, hcell 3 _ rfl, hcell 4 _ rfl, hcell 5 _ rfl⟩, h1⟩, ⟨_, _, _, _, _, _, ⟨hcell 6 _ rfl, hcell 7 _ rfl, hcell 8 _ rfl, hcell 9 _ rfl, hcell 10 _ rfl, hcell 11 _ rfl⟩, h2⟩, trivial⟩
end Go.Proofs.YteddjlbfbpecjaaGreatDoor

namespace Go.Proofs.YteddjlbfbpecjaaGreatDoor
open Go.RowKit Go.Shelf
set_option linter.unusedVariables false

mutual
/-- No text and no list is longer than any machine has room for. -/
def Sane : Tree → Prop
  | .mk k b n s ks ts => s.size ≤ 140737488355328 ∧ ks.length ≤ 140737488355328 ∧ ts.length ≤ 140737488355328 ∧ (∀ x ∈ ks, x.size ≤ 140737488355328) ∧ SaneL ts
def SaneL : List Tree → Prop
  | [] => True
  | t :: ts => Sane t ∧ SaneL ts
end
theorem SaneL.mem : ∀ {ts : List Tree} {t : Tree}, SaneL ts → t ∈ ts → Sane t
  | u :: us, t, h, hm => by
    simp only [SaneL] at h
    rcases List.mem_cons.1 hm with rfl | hm
    · exact h.1
    · exact SaneL.mem h.2 hm

def keysTo (left : Int) : Int → List ByteArray → Int
  | n, [] => n
  | n, k :: r => if n ≤ left then keysTo left (n + k.size) r else n
mutual
def smallN : Tree → Int → Int
  | .mk k b n s ks ts, left => kidsTo left (keysTo left (1 + s.size + ks.length) ks) ts
def kidsTo (left : Int) : Int → List Tree → Int
  | n, [] => n
  | n, t :: r => if n ≤ left then kidsTo left (n + smallN t (left - n)) r else n
end

mutual
/-- How many values, keys and bytes there are. -/
def Tree.total : Tree → Int
  | .mk k b n s ks ts => 1 + s.size + ks.length + keyBytes ks + Tree.totalL ts
def Tree.totalL : List Tree → Int
  | [] => 0
  | t :: ts => t.total + Tree.totalL ts
end

theorem keysTo_ge (left : Int) : ∀ (ks : List ByteArray) (n : Int), n ≤ keysTo left n ks
  | [], n => by simp [keysTo]
  | k :: r, n => by
    simp only [keysTo]
    split
    · have := keysTo_ge left r (n + k.size); omega
    · omega
theorem keysTo_eq (left : Int) : ∀ (ks : List ByteArray) (n : Int), keysTo left n ks ≤ left → keysTo left n ks = n + keyBytes ks
  | [], n, _ => by simp [keysTo, keyBytes]
  | k :: r, n, h => by
    simp only [keysTo] at h ⊢
    split at h
    · rename_i hn
      rw [if_pos hn, keysTo_eq left r _ h]
      simp [keyBytes]; omega
    · omega
theorem keysTo_le (left : Int) : ∀ (ks : List ByteArray) (n b : Int), (∀ x ∈ ks, (x.size : Int) ≤ 140737488355328) → n ≤ b → left + 140737488355328 ≤ b → keysTo left n ks ≤ b
  | [], n, b, _, h, _ => by simpa [keysTo] using h
  | k :: r, n, b, hk, h, hb => by
    simp only [keysTo]
    split
    · have := hk k (by simp)
      exact keysTo_le left r _ b (fun x hx => hk x (by simp [hx])) (by omega) hb
    · exact h

theorem keyBytes_cons (k : ByteArray) (r : List ByteArray) : keyBytes (k :: r) = k.size + keyBytes r := by simp [keyBytes]

mutual
theorem smallN_pos : ∀ (T : Tree) (left : Int), 1 ≤ smallN T left
  | .mk k b n s ks ts, left => by
    simp only [smallN]
    have h1 := keysTo_ge left ks (1 + s.size + ks.length)
    have h2 := kidsTo_ge left ts (keysTo left (1 + s.size + ks.length) ks)
    omega
theorem kidsTo_ge (left : Int) : ∀ (ts : List Tree) (n : Int), n ≤ kidsTo left n ts
  | [], n => by simp [kidsTo]
  | t :: r, n => by
    simp only [kidsTo]
    split
    · have h1 := smallN_pos t (left - n)
      have h2 := kidsTo_ge left r (n + smallN t (left - n))
      omega
    · omega
end

mutual
theorem smallN_eq : ∀ (T : Tree) (left : Int), smallN T left ≤ left → smallN T left = T.total
  | .mk k b n s ks ts, left, h => by
    simp only [smallN, Tree.total] at h ⊢
    have h2 := kidsTo_ge left ts (keysTo left (1 + s.size + ks.length) ks)
    rw [kidsTo_eq left ts _ h, keysTo_eq left ks _ (by omega)]
theorem kidsTo_eq (left : Int) : ∀ (ts : List Tree) (n : Int), kidsTo left n ts ≤ left → kidsTo left n ts = n + Tree.totalL ts
  | [], n, _ => by simp [kidsTo, Tree.totalL]
  | t :: r, n, h => by
    simp only [kidsTo] at h ⊢
    split at h
    · rename_i hn
      have h2 := kidsTo_ge left r (n + smallN t (left - n))
      rw [if_pos hn, kidsTo_eq left r _ h, smallN_eq t (left - n) (by omega)]
      simp only [Tree.totalL]; omega
    · omega
end

mutual
theorem smallN_le : ∀ (T : Tree) (left : Int), Sane T → 0 ≤ left → smallN T left ≤ 281474976710657 + left
  | .mk k b n s ks ts, left, hs, h0 => by
    simp only [Sane] at hs
    obtain ⟨s1, s2, s3, s4, s5⟩ := hs
    simp only [smallN]
    exact kidsTo_le left h0 ts _ s5 (keysTo_le left ks _ (281474976710657 + left) (fun x hx => by have := s4 x hx; omega) (by omega) (by omega))
theorem kidsTo_le (left : Int) (h0 : 0 ≤ left) : ∀ (ts : List Tree) (n : Int), SaneL ts → n ≤ 281474976710657 + left → kidsTo left n ts ≤ 281474976710657 + left
  | [], n, _, h => by simpa only [kidsTo] using h
  | t :: r, n, hs, h => by
    simp only [SaneL] at hs
    simp only [kidsTo]
    split
    · have := smallN_le t (left - n) hs.1 (by omega)
      exact kidsTo_le left h0 r _ hs.2 (by omega)
    · exact h
end

theorem sane_take : ∀ {ts : List Tree}, SaneL ts → ∀ p, SaneL (ts.take p)
  | _, _, 0 => by simp [SaneL]
  | [], _, p + 1 => by simp [SaneL]
  | t :: ts, h, p + 1 => by
    simp only [SaneL, List.take_succ_cons] at h ⊢
    exact ⟨h.1, sane_take h.2 p⟩

theorem keysTo_snoc (left : Int) : ∀ (a : List ByteArray) (n : Int) (x : ByteArray), keysTo left n (a ++ [x]) = if keysTo left n a ≤ left then keysTo left n a + x.size else keysTo left n a
  | [], n, x => by simp only [List.nil_append, keysTo]; rfl
  | k :: r, n, x => by
    simp only [List.cons_append, keysTo]
    split
    · exact keysTo_snoc left r _ x
    · rfl
theorem kidsTo_snoc (left : Int) : ∀ (a : List Tree) (n : Int) (x : Tree), kidsTo left n (a ++ [x]) = if kidsTo left n a ≤ left then kidsTo left n a + smallN x (left - kidsTo left n a) else kidsTo left n a
  | [], n, x => by simp only [List.nil_append, kidsTo]; rfl
  | k :: r, n, x => by
    simp only [List.cons_append, kidsTo]
    split
    · exact kidsTo_snoc left r _ x
    · rfl
theorem keysTo_stop (left : Int) {a : List ByteArray} {n : Int} {j : Nat} (h : ¬ keysTo left n (a.take j) ≤ left) : keysTo left n a = keysTo left n (a.take j) := by
  have : ∀ (b r : List ByteArray) (n : Int), ¬ keysTo left n b ≤ left → keysTo left n (b ++ r) = keysTo left n b := by
    intro b
    induction b with
    | nil => intro r n h; cases r with
      | nil => rfl
      | cons x r => simp only [keysTo] at h; simp [keysTo, h]
    | cons k b ih =>
      intro r n h
      simp only [List.cons_append, keysTo] at h ⊢
      split at h
      · rename_i hn; rw [if_pos hn, if_pos hn]; exact ih r _ h
      · rename_i hn; rw [if_neg hn, if_neg hn]
  have e := this (a.take j) (a.drop j) n h
  rwa [List.take_append_drop] at e
theorem kidsTo_stop (left : Int) {a : List Tree} {n : Int} {j : Nat} (h : ¬ kidsTo left n (a.take j) ≤ left) : kidsTo left n a = kidsTo left n (a.take j) := by
  have : ∀ (b r : List Tree) (n : Int), ¬ kidsTo left n b ≤ left → kidsTo left n (b ++ r) = kidsTo left n b := by
    intro b
    induction b with
    | nil => intro r n h; cases r with
      | nil => rfl
      | cons x r => simp only [kidsTo] at h; simp [kidsTo, h]
    | cons k b ih =>
      intro r n h
      simp only [List.cons_append, kidsTo] at h ⊢
      split at h
      · rename_i hn; rw [if_pos hn, if_pos hn]; exact ih r _ h
      · rename_i hn; rw [if_neg hn, if_neg hn]
  have e := this (a.take j) (a.drop j) n h
  rwa [List.take_append_drop] at e

end Go.Proofs.YteddjlbfbpecjaaGreatDoor

