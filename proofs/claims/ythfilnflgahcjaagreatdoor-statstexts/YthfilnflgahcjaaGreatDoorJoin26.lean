/- Names that rise: the program's word. The rules of a graph: the program's word. Numbers that rise: the program's word. -/
import Derived.Orders
import Derived.WalkKit
import Derived.Below
import Derived.Test.YthfilnflgahcjaaGreatDoorJoin1
import Derived.Lib.ValidLaws
import Derived.Test.YthfilnflgahcjaaGreatDoorJoin5
import Derived.Test.YthfilnflgahcjaaGreatDoorJoin25
import Derived.Test.YthfilnflgahcjaaGreatDoorJoin18
import Derived.Laws.IdiomCopy
import Derived.Laws.MakeOwn
import Derived.Deep.QuietTactic
import Derived.BigQuiet
import Derived.Test.YthfilnflgahcjaaGreatDoorJoin16
import Derived.Test.YthfilnflgahcjaaGreatDoorJoin19
namespace Go.Proofs.YthfilnflgahcjaaGreatDoor
open Go.RowKit Go.Shelf
set_option linter.unusedVariables false
set_option linter.unusedSimpArgs false
attribute [local go_sem] Oper.semAt_some
/-- Is a text not behind another one? -/
def leqB (x s : ByteArray) : Bool := Op.bytesLess x.toList s.toList || x.toList == s.toList
/-- Do names rise behind a text? -/
def nrB (l : ByteArray) : List ByteArray → Bool
  | [] => true
  | x :: r => nameOk x.data.toList && (!leqB x l && nrB x r)
theorem nrB_at {ks : List ByteArray} {j : Nat} {x l : ByteArray} (h : ks[j]? = some x) : nrB l (ks.drop j) = (nameOk x.data.toList && (!leqB x l && nrB x (ks.drop (j + 1)))) := by
  obtain ⟨hj, hx⟩ := List.getElem?_eq_some_iff.1 h
  rw [List.drop_eq_getElem_cons hj, hx, nrB]
set_option maxHeartbeats 1000000 in
theorem self_any (x : ByteArray) (w : World) : Calls Tryz.prog 134 #[.string x] w fun e w' => e = .returned (.string x) ∧ w' = w := by
  go_enter Tryz.func134, Tryz.ntmps134
  go_wp2_with fail
  go_ret
  exact ⟨rfl, rfl⟩
set_option maxHeartbeats 1000000 in
theorem key_any (x : ByteArray) (v0 v1 v2 v3 v4 v5 : Value) (w : World) : Calls Tryz.prog 156 #[.agg #[.string x, v0, v1, v2, v3, v4, v5]] w fun e w' => e = .returned (.string x) ∧ Below w.heap.size w w' := by
  go_enter Tryz.func156, Tryz.ntmps156
  go_upto_region 1 with fail
  generalize hW1 : World.alloc _ _ = W1
  have hr := rec_new w #[.string x, v0, v1, v2, v3, v4, v5] 90
  rw [hW1] at hr
  have HB1 : Hid (Below w.heap.size w W1) := by rw [← hW1]; exact (Below.refl _ _).alloc (Nat.le_refl _) _
  have q0 := hr.cell 0 rfl
  clear hW1 hr
  go_wp2_with fail
  go_ret
  exact ⟨rfl, HB1.out⟩
set_option maxRecDepth 100000 in
set_option maxHeartbeats 4000000 in
theorem names_any (ks : List ByteArray) (B : Nat) (ka : Option Addr) (kc : Nat) (w : World) (hB : B ≤ w.heap.size) (hE : Env w) (hk : KeysLie B w ka ks) (h1 : ks.length ≤ kc) (h2 : kc ≤ 9223372036854775807) (hs : ∀ x ∈ ks, x.size ≤ 140737488355328) :
    Calls Tryz.prog 133 #[.slice ka ks.length kc, .func (.func 134) #[] #[]] w fun e w' => e = .returned (.bool (nrB ⟨#[]⟩ ks)) ∧ Below w.heap.size w w' := by
  have HK := hidE hk
  have HS := hidE hs
  have HE := hidE hE
  obtain ⟨n, hn⟩ : ∃ n, ks.length = n := ⟨_, rfl⟩
  have HN := hidE hn
  rw [hn] at h1 ⊢
  obtain ⟨res, hres⟩ : ∃ r, nrB ⟨#[]⟩ ks = r := ⟨_, rfl⟩
  have HR := hidE hres
  rw [hres]
  clear hk hs hn hres hE
  go_enter Tryz.func133, Tryz.ntmps133
  go_wp2_with fail
  go_loopw [11, 5] (fun i l wr => ∃ (j : Nat) (s : ByteArray), j ≤ n ∧ i = .int .i64 j ∧ l = .string s ∧ Below w.heap.size w wr ∧ nrB s (ks.drop j) = res) (fun i _ _ => n - (intOf i).toNat)
  case atStart => exact ⟨0, _, Nat.zero_le _, rfl, rfl, Below.refl _ _, HR.out⟩
  case round =>
    obtain ⟨j, s, hj, rfl, rfl, hbr, hrs⟩ := hrel
    have HBR := hidE hbr
    have HRS := hidE hrs
    have hwz : w.heap.size ≤ wr.heap.size := hbr.size
    clear hbr hrs
    by_cases hlt : j < n
    · have hlt' : (j : Int) < n := by omega
      obtain ⟨x, hx⟩ : ∃ x, ks[j]? = some x := ⟨_, List.getElem?_eq_getElem (by have := HN.out; omega)⟩
      have HX := hidE hx
      obtain ⟨bl, off, rfl, hbl, hc⟩ := HK.out.resolve_left (by intro e; rw [e] at hx; simp at hx)
      have cx : wr.cell? ⟨bl, off + j, none⟩ = some (.string x) := by
        have := (hc j (by have := HN.out; omega)).1
        rw [List.getD_eq_getElem?_getD, hx] at this
        exact (HBR.out.cell (p := ⟨bl, off + j, none⟩) (by show bl < w.heap.size; omega)).trans this
      have hxs : x.size ≤ 140737488355328 := HS.out x (List.mem_of_getElem? hx)
      have HNM := hidE (name_any x hxs wr (HE.out.below HBR.out HE.out.room))
      have HBA := HBR
      clear hc hx
      obtain ⟨nb, hnb⟩ : ∃ b, nameOk x.data.toList = b := ⟨_, rfl⟩
      rw [hnb] at HNM
      obtain ⟨lb, hlb⟩ : ∃ b, (Op.bytesLess x.toList s.toList || x.toList == s.toList) = b := ⟨_, rfl⟩
      have HE2 : Hid (res = (nb && (!lb && nrB x (ks.drop (j + 1))))) := by
        show _ = _
        rw [← HRS.out, nrB_at HX.out, hnb]
        unfold leqB
        rw [hlb]
      clear hnb
      go_wp2_with fail
      refine (self_any x _).mono ?_
      rintro e w2 ⟨rfl, rfl⟩
      go_wp2_with fail
      refine HNM.out.mono ?_
      rintro e w3 ⟨rfl, hb3⟩
      have HB3 := hidE (below_on HBA.out hb3)
      clear hb3
      cases nb with
      | false =>
        have HF : Hid (res = false) := HE2.out
        go_wp2_with fail
        go_ret
        exact ⟨by rw [HF.out]; rfl, HB3.out⟩
      | true =>
        cases lb with
        | true =>
          have HF : Hid (res = false) := HE2.out
          go_wp2_with fail
          go_ret
          exact ⟨by rw [HF.out]; rfl, HB3.out⟩
        | false =>
          have HN2 : Hid (nrB x (ks.drop (j + 1)) = res) := HE2.out.symm
          go_wp2_with fail
          go_roundw
          case rel => exact ⟨j + 1, x, by omega, by go_num, rfl, HB3.out, HN2.out⟩
          case measure => simp [intOf]; omega
    · have HF : Hid (res = true) := by
        show _ = _
        rw [← HRS.out, List.drop_of_length_le (by have := HN.out; simp; omega)]; rfl
      have hlt' : ¬ (j : Int) < n := by omega
      go_wp2_with fail
      go_ret
      exact ⟨by rw [HF.out]; rfl, HBR.out⟩
set_option maxRecDepth 100000 in
set_option maxHeartbeats 4000000 in
theorem keys_any (ks : List (ByteArray × Tree)) (B : Nat) (ka : Option Addr) (kc : Nat) (w : World) (hB : B ≤ w.heap.size) (hE : Env w) (hk : ks = [] ∨ ∃ bl off, ka = some ⟨bl, off, none⟩ ∧ bl < B ∧ ∀ i q, ks[i]? = some q → PropAt B w bl (off + i * 7) q) (h1 : ks.length ≤ kc) (h2 : kc ≤ 9223372036854775807) (hs : ∀ q ∈ ks, q.1.size ≤ 140737488355328) :
    Calls Tryz.prog 155 #[.slice ka ks.length kc, .func (.func 156) #[] #[]] w fun e w' => e = .returned (.bool (nrB ⟨#[]⟩ (ks.map Prod.fst))) ∧ Below w.heap.size w w' := by
  have HK := hidE hk
  have HS := hidE hs
  have HE := hidE hE
  obtain ⟨n, hn⟩ : ∃ n, ks.length = n := ⟨_, rfl⟩
  have HN := hidE hn
  rw [hn] at h1 ⊢
  obtain ⟨res, hres⟩ : ∃ r, nrB ⟨#[]⟩ (ks.map Prod.fst) = r := ⟨_, rfl⟩
  have HR := hidE hres
  rw [hres]
  clear hk hs hn hres hE
  go_enter Tryz.func155, Tryz.ntmps155
  go_wp2_with fail
  go_loopw [11, 5] (fun i l wr => ∃ (j : Nat) (s : ByteArray), j ≤ n ∧ i = .int .i64 j ∧ l = .string s ∧ Below w.heap.size w wr ∧ nrB s ((ks.map Prod.fst).drop j) = res) (fun i _ _ => n - (intOf i).toNat)
  case atStart => exact ⟨0, _, Nat.zero_le _, rfl, rfl, Below.refl _ _, HR.out⟩
  case round =>
    obtain ⟨j, s, hj, rfl, rfl, hbr, hrs⟩ := hrel
    have HBR := hidE hbr
    have HRS := hidE hrs
    have hwz : w.heap.size ≤ wr.heap.size := hbr.size
    clear hbr hrs
    by_cases hlt : j < n
    · have hlt' : (j : Int) < n := by omega
      obtain ⟨⟨x, ⟨tk, tb, tn, ts, tks, tts⟩⟩, hx⟩ : ∃ x, ks[j]? = some x := ⟨_, List.getElem?_eq_getElem (by have := HN.out; omega)⟩
      have HX : Hid ((ks.map Prod.fst)[j]? = some x) := by
        show _ = _
        rw [List.getElem?_map, hx]; rfl
      obtain ⟨bl, off, rfl, hbl, hc⟩ := HK.out.resolve_left (by intro e; rw [e] at hx; simp at hx)
      obtain ⟨cx, _, v0, v1, v2, v3, v4, v5, ⟨c0, c1, c2, c3, c4, c5⟩, hv⟩ := (hc j _ hx).below (HBR.out.mono hB) hbl
      have hxs : x.size ≤ 140737488355328 := HS.out _ (List.mem_of_getElem? hx)
      simp only at cx hv
      simp only [Lies] at hv
      obtain ⟨kaa, kcc, laa, lcc, hag, _⟩ := hv
      obtain ⟨rfl, rfl, rfl, rfl, rfl, rfl⟩ : v0 = .int .i64 tk ∧ v1 = .bool tb ∧ v2 = .int .i64 tn ∧ v3 = .string ts ∧ v4 = .slice kaa tks.length kcc ∧ v5 = .slice laa tts.length lcc := by
        simpa using hag
      clear hc hx hag
      go_upto_region 5 with fail
      generalize hW2 : World.alloc _ _ = W2
      have hr2 := rec_new wr #[.string x, .int .i64 tk, .bool tb, .int .i64 tn, .string ts, .slice kaa tks.length kcc, .slice laa tts.length lcc] 90
      rw [hW2] at hr2
      have HB2 : Hid (Below wr.heap.size wr W2) := by rw [← hW2]; exact (Below.refl _ _).alloc (Nat.le_refl _) _
      have k0 := hr2.cell 0 rfl
      have k1 := hr2.cell 1 rfl
      have k2 := hr2.cell 2 rfl
      have k3 := hr2.cell 3 rfl
      have k4 := hr2.cell 4 rfl
      have k5 := hr2.cell 5 rfl
      have k6 := hr2.cell 6 rfl
      clear hW2 hr2 cx c0 c1 c2 c3 c4 c5
      go_wp2_with fail
      refine (key_any x _ _ _ _ _ _ _).mono ?_
      rintro e w2 ⟨rfl, hb2⟩
      have HBA := hidE (below_on HBR.out (below_on HB2.out hb2))
      clear hb2 k0 k1 k2 k3 k4 k5 k6
      have HNM := hidE (name_any x hxs w2 (HE.out.below HBA.out HE.out.room))
      obtain ⟨nb, hnb⟩ : ∃ b, nameOk x.data.toList = b := ⟨_, rfl⟩
      rw [hnb] at HNM
      obtain ⟨lb, hlb⟩ : ∃ b, (Op.bytesLess x.toList s.toList || x.toList == s.toList) = b := ⟨_, rfl⟩
      have HE2 : Hid (res = (nb && (!lb && nrB x ((ks.map Prod.fst).drop (j + 1))))) := by
        show _ = _
        rw [← HRS.out, nrB_at HX.out, hnb]
        unfold leqB
        rw [hlb]
      clear hnb
      go_wp2_with fail
      refine HNM.out.mono ?_
      rintro e w3 ⟨rfl, hb3⟩
      have HB3 := hidE (below_on HBA.out hb3)
      clear hb3
      cases nb with
      | false =>
        have HF : Hid (res = false) := HE2.out
        go_wp2_with fail
        go_ret
        exact ⟨by rw [HF.out]; rfl, HB3.out⟩
      | true =>
        cases lb with
        | true =>
          have HF : Hid (res = false) := HE2.out
          go_wp2_with fail
          go_ret
          exact ⟨by rw [HF.out]; rfl, HB3.out⟩
        | false =>
          have HN2 : Hid (nrB x ((ks.map Prod.fst).drop (j + 1)) = res) := HE2.out.symm
          go_wp2_with fail
          go_roundw
          case rel => exact ⟨j + 1, x, by omega, by go_num, rfl, HB3.out, HN2.out⟩
          case measure => simp [intOf]; omega
    · have HF : Hid (res = true) := by
        show _ = _
        rw [← HRS.out, List.drop_of_length_le (by have := HN.out; simp; omega)]; rfl
      have hlt' : ¬ (j : Int) < n := by omega
      go_wp2_with fail
      go_ret
      exact ⟨by rw [HF.out]; rfl, HBR.out⟩
end Go.Proofs.YthfilnflgahcjaaGreatDoor

namespace Go.Proofs.YthfilnflgahcjaaGreatDoor
open Go.RowKit Go.Shelf
set_option linter.unusedVariables false
set_option linter.unusedSimpArgs false
attribute [local go_sem] Oper.semAt_some
/-- May all values be stored? -/
def storsB : List (ByteArray × Tree) → Bool
  | [] => true
  | q :: r => (decide (checkN q.2 = 0) && storB q.2) && storsB r
theorem storsB_at {ps : List (ByteArray × Tree)} {j : Nat} {q : ByteArray × Tree} (h : ps[j]? = some q) : storsB (ps.drop j) = ((decide (checkN q.2 = 0) && storB q.2) && storsB (ps.drop (j + 1))) := by
  obtain ⟨hj, hx⟩ := List.getElem?_eq_some_iff.1 h
  rw [List.drop_eq_getElem_cons hj, hx, storsB]
/-- May properties be? -/
def mayPB (ps : List (ByteArray × Tree)) : Bool := storsB ps && nrB ⟨#[]⟩ (ps.map Prod.fst)
set_option maxRecDepth 100000 in
set_option maxHeartbeats 4000000 in
theorem mayP_any (v : Value) (ps : List (ByteArray × Tree)) (B : Nat) (w : World) (hB : B ≤ w.heap.size) (hE : Env w) (hp : PropsLie B w v ps) (hs : ∀ q ∈ ps, q.1.size ≤ 140737488355328 ∧ Modest q.2) :
    Calls Tryz.prog 135 #[v] w fun e w' => e = .returned (.bool (mayPB ps)) ∧ Below w.heap.size w w' := by
  have HS := hidE hs
  have HE := hidE hE
  obtain ⟨pa, pc, rfl, h1, h2, hp3⟩ := hp
  have HP := hidE hp3
  have HKY : Hid (∀ W, Below w.heap.size w W → Calls Tryz.prog 155 #[.slice pa ps.length pc, .func (.func 156) #[] #[]] W fun e w' => e = .returned (.bool (nrB ⟨#[]⟩ (ps.map Prod.fst))) ∧ Below W.heap.size W w') := fun W hb =>
    keys_any ps B pa pc W (by have := hb.size; omega) (HE.out.below hb HE.out.room) (hp3.imp id fun ⟨bl, off, e, hl, hc⟩ => ⟨bl, off, e, hl, fun i q hi => (hc i q hi).below (hb.mono hB) hl⟩) h1 h2 (fun q hq => (hs q hq).1)
  obtain ⟨res, hres⟩ : ∃ r, mayPB ps = r := ⟨_, rfl⟩
  rw [hres]
  unfold mayPB at hres
  obtain ⟨kb, hkb⟩ : ∃ r, nrB ⟨#[]⟩ (ps.map Prod.fst) = r := ⟨_, rfl⟩
  rw [hkb] at HKY hres
  have HR := hidE hres
  obtain ⟨n, hn⟩ : ∃ n, ps.length = n := ⟨_, rfl⟩
  have HN := hidE hn
  rw [hn] at h1 HKY ⊢
  clear hp3 hs hn hres hE hkb
  go_enter Tryz.func135, Tryz.ntmps135
  go_wp2_with fail
  go_loopw [7] (fun i wr => ∃ j : Nat, j ≤ n ∧ i = .int .i64 j ∧ Below w.heap.size w wr ∧ (storsB (ps.drop j) && kb) = res) (fun i _ => n - (intOf i).toNat)
  case atStart => exact ⟨0, Nat.zero_le _, rfl, Below.refl _ _, HR.out⟩
  case round =>
    obtain ⟨j, hj, rfl, hbr, hrs⟩ := hrel
    have HBR := hidE hbr
    have HRS := hidE hrs
    have hwz : w.heap.size ≤ wr.heap.size := hbr.size
    clear hbr hrs
    by_cases hlt : j < n
    · have hlt' : (j : Int) < n := by omega
      obtain ⟨⟨x, ⟨tk, tb, tn, ts, tks, tts⟩⟩, hx⟩ : ∃ x, ps[j]? = some x := ⟨_, List.getElem?_eq_getElem (by have := HN.out; omega)⟩
      have HX := hidE hx
      obtain ⟨bl, off, rfl, hbl, hc⟩ := HP.out.resolve_left (by intro e; rw [e] at hx; simp at hx)
      obtain ⟨cx, _, v0, v1, v2, v3, v4, v5, ⟨c0, c1, c2, c3, c4, c5⟩, hv⟩ := (hc j _ hx).below (HBR.out.mono hB) hbl
      have hxm := (HS.out _ (List.mem_of_getElem? hx)).2
      simp only at cx hv hxm
      have hv0 := hv
      simp only [Lies] at hv
      obtain ⟨kaa, kcc, laa, lcc, hag, _⟩ := hv
      obtain ⟨rfl, rfl, rfl, rfl, rfl, rfl⟩ : v0 = .int .i64 tk ∧ v1 = .bool tb ∧ v2 = .int .i64 tn ∧ v3 = .string ts ∧ v4 = .slice kaa tks.length kcc ∧ v5 = .slice laa tts.length lcc := by
        simpa using hag
      have HST := hidE (fun W (hb : Below wr.heap.size wr W) => Storable_any _ B _ W (by have := hb.size; omega) (hv0.below (hb.mono (by omega))) (HE.out.below (below_on HBR.out hb) HE.out.room).tabs hxm)
      obtain ⟨sb, hsb⟩ : ∃ r, (decide (checkN (.mk tk tb tn ts tks tts) = 0) && storB (.mk tk tb tn ts tks tts)) = r := ⟨_, rfl⟩
      rw [hsb] at HST
      have HE2 : Hid (res = ((sb && storsB (ps.drop (j + 1))) && kb)) := by
        show _ = _
        rw [← HRS.out, storsB_at HX.out]
        simp only
        rw [hsb]
      clear hc hx hag hv0 hxm hsb
      go_upto_region 4 with fail
      generalize hW2 : World.alloc _ _ = W2
      have hr2 := rec_new wr #[.string x, .int .i64 tk, .bool tb, .int .i64 tn, .string ts, .slice kaa tks.length kcc, .slice laa tts.length lcc] 90
      rw [hW2] at hr2
      have HB2 : Hid (Below wr.heap.size wr W2) := by rw [← hW2]; exact (Below.refl _ _).alloc (Nat.le_refl _) _
      have k1 := hr2.cell 1 rfl
      have k2 := hr2.cell 2 rfl
      have k3 := hr2.cell 3 rfl
      have k4 := hr2.cell 4 rfl
      have k5 := hr2.cell 5 rfl
      have k6 := hr2.cell 6 rfl
      clear hW2 hr2 cx c0 c1 c2 c3 c4 c5
      go_wp2_with fail
      refine (HST.out W2 HB2.out).mono ?_
      rintro e w3 ⟨rfl, hb3⟩
      have HB3 := hidE (below_on HBR.out (below_on HB2.out hb3))
      clear hb3 k1 k2 k3 k4 k5 k6
      cases sb with
      | false =>
        have HF : Hid (res = false) := HE2.out
        go_wp2_with fail
        go_ret
        exact ⟨by rw [HF.out]; rfl, HB3.out⟩
      | true =>
        have HN2 : Hid ((storsB (ps.drop (j + 1)) && kb) = res) := HE2.out.symm
        go_wp2_with fail
        go_roundw
        case rel => exact ⟨j + 1, by omega, by go_num, HB3.out, HN2.out⟩
        case measure => simp [intOf]; omega
    · have HF : Hid (res = kb) := by
        show _ = _
        rw [← HRS.out, List.drop_of_length_le (by have := HN.out; omega)]; rfl
      have hlt' : ¬ (j : Int) < n := by omega
      go_wp2_with fail
      refine (HKY.out wr HBR.out).mono ?_
      rintro e w3 ⟨rfl, hb3⟩
      have HB3 := hidE (below_on HBR.out hb3)
      clear hb3
      go_wp2_with fail
      go_ret
      exact ⟨by rw [HF.out]; rfl, HB3.out⟩
/-- Is a graph's sizes no wonder? -/
structure Mild (g : GraphP) : Prop where
  nodes : g.nodes.length ≤ 2000000
  rels : g.rels.length ≤ 2000000
  ofNode : ∀ n ∈ g.nodes, (∀ x ∈ n.labels, x.size ≤ 140737488355328) ∧ ∀ q ∈ n.props, q.1.size ≤ 140737488355328 ∧ Modest q.2
  ofRel : ∀ r ∈ g.rels, r.type.size ≤ 140737488355328 ∧ ∀ q ∈ r.props, q.1.size ≤ 140737488355328 ∧ Modest q.2
set_option maxRecDepth 100000 in
set_option maxHeartbeats 4000000 in
theorem gfew_any (g : GraphP) (B : Nat) (v : Value) (w : World) (hB : B ≤ w.heap.size) (hE : Env w) (hg : GraphLies B w v g) (hz : Mild g) : Calls Tryz.prog 100 #[v] w fun e w' => e = .returned (.bool (decide ((g.nodes.length : Int) + (g.rels.length : Int) ≤ 65536))) ∧ Below w.heap.size w w' := by
  obtain ⟨na, nc, ra, rc, rfl, hn, hr⟩ := hg
  obtain ⟨h60, h61, hz1, hz2⟩ := hz
  have HE := hidE hE
  obtain ⟨res, hres⟩ : ∃ r, decide ((g.nodes.length : Int) + (g.rels.length : Int) ≤ 65536) = r := ⟨_, rfl⟩
  have HR := hidE hres
  rw [hres]
  clear hres hE
  obtain ⟨ns, rs, nn, nr⟩ := g
  simp only at hn hr h60 h61 hz1 hz2 HR ⊢
  obtain ⟨a', c', e1, h1, h2, hp3⟩ := hn
  obtain ⟨rfl, rfl⟩ : na = a' ∧ nc = c' := by injection e1 with e1 _ e2; exact ⟨e1, e2⟩
  obtain ⟨a', c', e2, r1, r2, hq3⟩ := hr
  obtain ⟨rfl, rfl⟩ : ra = a' ∧ rc = c' := by injection e2 with e1 _ e2; exact ⟨e1, e2⟩
  have HP := hidE hp3
  have HQ := hidE hq3
  have HS1 := hidE hz1
  have HS2 := hidE hz2
  obtain ⟨n, hn⟩ : ∃ n, ns.length = n := ⟨_, rfl⟩
  have HN := hidE hn
  obtain ⟨m, hm⟩ : ∃ m, rs.length = m := ⟨_, rfl⟩
  have HM := hidE hm
  rw [hn] at h1 h60
  rw [hm] at r1 h61
  rw [hn, hm]
  clear hp3 hq3 hz1 hz2 hn hm e1 e2
  have hle : n ≤ 9223372036854775807 := by omega
  have hlm : m ≤ 9223372036854775807 := by omega
  go_enter Tryz.func100, Tryz.ntmps100
  go_upto_region 1 with fail
  generalize hW1 : World.alloc _ _ = W1
  have hr1 := rec_new w #[.slice na n nc, .slice ra m rc, .int .i64 nn, .int .i64 nr] 25
  rw [hW1] at hr1
  have HB1 : Hid (Below w.heap.size w W1) := by rw [← hW1]; exact (Below.refl _ _).alloc (Nat.le_refl _) _
  have HR1 := hidE hr1
  have q0 := hr1.cell 0 rfl
  have q1 := hr1.cell 1 rfl
  clear hW1 hr1
  have hsum : IntKind.i64.wrap ((n : Int) + (m : Int)) = (n : Int) + (m : Int) := by rw [IntKind.wrap_i64]; omega
  have HR2 : Hid (decide ((n : Int) + (m : Int) ≤ 65536) = res) := by
    show _ = _
    rw [← HR.out, HN.out, HM.out]
  go_wp2_with fail
  go_ret
  exact ⟨by rw [← HR2.out]; rfl, HB1.out⟩
/-- All labels rise. -/
def labelsB : List NodeP → Bool
  | [] => true
  | n :: r => nrB ⟨#[]⟩ n.labels && labelsB r
def typesB : List RelP → Bool
  | [] => true
  | n :: r => nameOk n.type.data.toList && typesB r
def nodePropsB : List NodeP → Bool
  | [] => true
  | n :: r => mayPB n.props && nodePropsB r
def relPropsB : List RelP → Bool
  | [] => true
  | n :: r => mayPB n.props && relPropsB r
theorem labelsB_at {ns : List NodeP} {j : Nat} {n : NodeP} (h : ns[j]? = some n) : labelsB (ns.drop j) = (nrB ⟨#[]⟩ n.labels && labelsB (ns.drop (j + 1))) := by
  obtain ⟨hj, hx⟩ := List.getElem?_eq_some_iff.1 h
  rw [List.drop_eq_getElem_cons hj, hx, labelsB]
theorem typesB_at {ns : List RelP} {j : Nat} {n : RelP} (h : ns[j]? = some n) : typesB (ns.drop j) = (nameOk n.type.data.toList && typesB (ns.drop (j + 1))) := by
  obtain ⟨hj, hx⟩ := List.getElem?_eq_some_iff.1 h
  rw [List.drop_eq_getElem_cons hj, hx, typesB]
theorem nodePropsB_at {ns : List NodeP} {j : Nat} {n : NodeP} (h : ns[j]? = some n) : nodePropsB (ns.drop j) = (mayPB n.props && nodePropsB (ns.drop (j + 1))) := by
  obtain ⟨hj, hx⟩ := List.getElem?_eq_some_iff.1 h
  rw [List.drop_eq_getElem_cons hj, hx, nodePropsB]
theorem relPropsB_at {ns : List RelP} {j : Nat} {n : RelP} (h : ns[j]? = some n) : relPropsB (ns.drop j) = (mayPB n.props && relPropsB (ns.drop (j + 1))) := by
  obtain ⟨hj, hx⟩ := List.getElem?_eq_some_iff.1 h
  rw [List.drop_eq_getElem_cons hj, hx, relPropsB]
set_option maxRecDepth 100000 in
set_option maxHeartbeats 4000000 in
theorem labels_any (g : GraphP) (B : Nat) (v : Value) (w : World) (hB : B ≤ w.heap.size) (hE : Env w) (hg : GraphLies B w v g) (hz : Mild g) : Calls Tryz.prog 102 #[v] w fun e w' => e = .returned (.bool (labelsB g.nodes)) ∧ Below w.heap.size w w' := by
  obtain ⟨na, nc, ra, rc, rfl, hn, hr⟩ := hg
  obtain ⟨h60, h61, hz1, hz2⟩ := hz
  have HE := hidE hE
  obtain ⟨res, hres⟩ : ∃ r, labelsB g.nodes = r := ⟨_, rfl⟩
  have HR := hidE hres
  rw [hres]
  clear hres hE
  obtain ⟨ns, rs, nn, nr⟩ := g
  simp only at hn hr h60 h61 hz1 hz2 HR ⊢
  obtain ⟨a', c', e1, h1, h2, hp3⟩ := hn
  obtain ⟨rfl, rfl⟩ : na = a' ∧ nc = c' := by injection e1 with e1 _ e2; exact ⟨e1, e2⟩
  obtain ⟨a', c', e2, r1, r2, hq3⟩ := hr
  obtain ⟨rfl, rfl⟩ : ra = a' ∧ rc = c' := by injection e2 with e1 _ e2; exact ⟨e1, e2⟩
  have HP := hidE hp3
  have HQ := hidE hq3
  have HS1 := hidE hz1
  have HS2 := hidE hz2
  obtain ⟨n, hn⟩ : ∃ n, ns.length = n := ⟨_, rfl⟩
  have HN := hidE hn
  obtain ⟨m, hm⟩ : ∃ m, rs.length = m := ⟨_, rfl⟩
  have HM := hidE hm
  rw [hn] at h1 h60
  rw [hm] at r1 h61
  rw [hn, hm]
  clear hp3 hq3 hz1 hz2 hn hm e1 e2
  have hle : n ≤ 9223372036854775807 := by omega
  have hlm : m ≤ 9223372036854775807 := by omega
  go_enter Tryz.func102, Tryz.ntmps102
  go_upto_region 1 with fail
  generalize hW1 : World.alloc _ _ = W1
  have hr1 := rec_new w #[.slice na n nc, .slice ra m rc, .int .i64 nn, .int .i64 nr] 25
  rw [hW1] at hr1
  have HB1 : Hid (Below w.heap.size w W1) := by rw [← hW1]; exact (Below.refl _ _).alloc (Nat.le_refl _) _
  have HR1 := hidE hr1
  have q0 := hr1.cell 0 rfl
  clear hW1 hr1
  have HR2 := HR
  go_wp2_with fail
  clear q0
  go_loopw [8] (fun i wr => ∃ j : Nat, j ≤ n ∧ i = .int .i64 j ∧ Below W1.heap.size W1 wr ∧ labelsB (ns.drop j) = res) (fun i _ => n - (intOf i).toNat)
  case atStart => exact ⟨0, Nat.zero_le _, rfl, Below.refl _ _, HR2.out⟩
  case round =>
    obtain ⟨j, hj, rfl, hbr, hrs⟩ := hrel
    have HBR := hidE hbr
    have HRS := hidE hrs
    have hwz : w.heap.size < wr.heap.size := by
      have := HR1.out.lt
      have := hbr.size
      omega
    have HBW := hidE (below_on HB1.out hbr)
    clear hbr hrs
    by_cases hlt : j < n
    · have hlt' : (j : Int) < n := by omega
      obtain ⟨⟨xi, xl, xp⟩, hx⟩ : ∃ q, ns[j]? = some q := ⟨_, List.getElem?_eq_getElem (by have := HN.out; omega)⟩
      have HX := hidE hx
      obtain ⟨bl, off, rfl, hbl, hc⟩ := HP.out.resolve_left (by intro e; rw [e] at hx; simp at hx)
      obtain ⟨la, lc, pv, ⟨c0, c1, c2⟩, ⟨hl1, hl2⟩, hk, hp⟩ := (hc j _ hx).below (HBW.out.mono hB) hbl
      obtain ⟨hxl, hxp⟩ := HS1.out _ (List.mem_of_getElem? hx)
      simp only at c0 c1 c2 hl1 hl2 hk hp hxl hxp
      have HK1 := hidE (fun W (hb : Below wr.heap.size wr W) => names_any xl B la lc W (by have := hb.size; omega) (HE.out.below (below_on HBW.out hb) HE.out.room) (hk.below (hb.mono (by omega))) hl1 hl2 hxl)
      obtain ⟨pa, pc, rfl, _, _, _⟩ := hp
      obtain ⟨bn, hbn⟩ : ∃ b, nrB ⟨#[]⟩ xl = b := ⟨_, rfl⟩
      rw [hbn] at HK1
      have HE2 : Hid (res = (bn && labelsB (ns.drop (j + 1)))) := by
        show _ = _
        rw [← HRS.out, labelsB_at HX.out]
        simp only
        rw [hbn]
      clear hc hx hbn
      go_upto_region 4 with fail
      generalize hW2 : World.alloc _ _ = W2
      have hr2 := rec_new wr #[.int .i64 xi, .slice la xl.length lc, .slice pa xp.length pc] 73
      rw [hW2] at hr2
      have HB2 : Hid (Below wr.heap.size wr W2) := by rw [← hW2]; exact (Below.refl _ _).alloc (Nat.le_refl _) _
      have k0 := hr2.cell 1 rfl
      clear hW2 hr2 c0 c1 c2 hk hxl hxp hl1 hl2
      go_wp2_with fail
      refine (HK1.out W2 HB2.out).mono ?_
      rintro e w3 ⟨rfl, hb3⟩
      have HB3 := hidE (below_on HBR.out (below_on HB2.out hb3))
      clear hb3 k0
      cases bn with
      | false =>
        have HF : Hid (res = false) := HE2.out
        go_wp2_with fail
        go_ret
        exact ⟨by rw [HF.out]; rfl, below_on HB1.out HB3.out⟩
      | true =>
        have HN2 : Hid (labelsB (ns.drop (j + 1)) = res) := HE2.out.symm
        go_wp2_with fail
        go_roundw
        case rel => exact ⟨j + 1, by omega, by go_num, HB3.out, HN2.out⟩
        case measure => simp [intOf]; omega
    · have HF : Hid (res = true) := by
        show _ = _
        rw [← HRS.out, List.drop_of_length_le (by have := HN.out; omega)]; rfl
      have hlt' : ¬ (j : Int) < n := by omega
      go_wp2_with fail
      go_ret
      exact ⟨by rw [HF.out]; rfl, HBW.out⟩
set_option maxRecDepth 100000 in
set_option maxHeartbeats 4000000 in
theorem types_any (g : GraphP) (B : Nat) (v : Value) (w : World) (hB : B ≤ w.heap.size) (hE : Env w) (hg : GraphLies B w v g) (hz : Mild g) : Calls Tryz.prog 104 #[v] w fun e w' => e = .returned (.bool (typesB g.rels)) ∧ Below w.heap.size w w' := by
  obtain ⟨na, nc, ra, rc, rfl, hn, hr⟩ := hg
  obtain ⟨h60, h61, hz1, hz2⟩ := hz
  have HE := hidE hE
  obtain ⟨res, hres⟩ : ∃ r, typesB g.rels = r := ⟨_, rfl⟩
  have HR := hidE hres
  rw [hres]
  clear hres hE
  obtain ⟨ns, rs, nn, nr⟩ := g
  simp only at hn hr h60 h61 hz1 hz2 HR ⊢
  obtain ⟨a', c', e1, h1, h2, hp3⟩ := hn
  obtain ⟨rfl, rfl⟩ : na = a' ∧ nc = c' := by injection e1 with e1 _ e2; exact ⟨e1, e2⟩
  obtain ⟨a', c', e2, r1, r2, hq3⟩ := hr
  obtain ⟨rfl, rfl⟩ : ra = a' ∧ rc = c' := by injection e2 with e1 _ e2; exact ⟨e1, e2⟩
  have HP := hidE hp3
  have HQ := hidE hq3
  have HS1 := hidE hz1
  have HS2 := hidE hz2
  obtain ⟨n, hn⟩ : ∃ n, ns.length = n := ⟨_, rfl⟩
  have HN := hidE hn
  obtain ⟨m, hm⟩ : ∃ m, rs.length = m := ⟨_, rfl⟩
  have HM := hidE hm
  rw [hn] at h1 h60
  rw [hm] at r1 h61
  rw [hn, hm]
  clear hp3 hq3 hz1 hz2 hn hm e1 e2
  have hle : n ≤ 9223372036854775807 := by omega
  have hlm : m ≤ 9223372036854775807 := by omega
  go_enter Tryz.func104, Tryz.ntmps104
  go_upto_region 1 with fail
  generalize hW1 : World.alloc _ _ = W1
  have hr1 := rec_new w #[.slice na n nc, .slice ra m rc, .int .i64 nn, .int .i64 nr] 25
  rw [hW1] at hr1
  have HB1 : Hid (Below w.heap.size w W1) := by rw [← hW1]; exact (Below.refl _ _).alloc (Nat.le_refl _) _
  have HR1 := hidE hr1
  have q1 := hr1.cell 1 rfl
  clear hW1 hr1
  have HR2 := HR
  go_wp2_with fail
  clear q1
  go_loopw [8] (fun i wr => ∃ j : Nat, j ≤ m ∧ i = .int .i64 j ∧ Below W1.heap.size W1 wr ∧ typesB (rs.drop j) = res) (fun i _ => m - (intOf i).toNat)
  case atStart => exact ⟨0, Nat.zero_le _, rfl, Below.refl _ _, HR2.out⟩
  case round =>
    obtain ⟨j, hj, rfl, hbr, hrs⟩ := hrel
    have HBR := hidE hbr
    have HRS := hidE hrs
    have hwz : w.heap.size < wr.heap.size := by
      have := HR1.out.lt
      have := hbr.size
      omega
    have HBW := hidE (below_on HB1.out hbr)
    clear hbr hrs
    by_cases hlt : j < m
    · have hlt' : (j : Int) < m := by omega
      obtain ⟨⟨xi, fr, tt, ty, xp⟩, hx⟩ : ∃ q, rs[j]? = some q := ⟨_, List.getElem?_eq_getElem (by have := HM.out; omega)⟩
      have HX := hidE hx
      obtain ⟨bl, off, rfl, hbl, hc⟩ := HQ.out.resolve_left (by intro e; rw [e] at hx; simp at hx)
      obtain ⟨pv, ⟨c0, c1, c2, c3, c4⟩, _, hp⟩ := (hc j _ hx).below (HBW.out.mono hB) hbl
      obtain ⟨hxl, hxp⟩ := HS2.out _ (List.mem_of_getElem? hx)
      simp only at c0 c1 c2 c3 c4 hp hxl hxp
      have HK1 := hidE (fun W (hb : Below wr.heap.size wr W) => name_any ty hxl W (HE.out.below (below_on HBW.out hb) HE.out.room))
      obtain ⟨pa, pc, rfl, _, _, _⟩ := hp
      obtain ⟨bn, hbn⟩ : ∃ b, nameOk ty.data.toList = b := ⟨_, rfl⟩
      rw [hbn] at HK1
      have HE2 : Hid (res = (bn && typesB (rs.drop (j + 1)))) := by
        show _ = _
        rw [← HRS.out, typesB_at HX.out]
        simp only
        rw [hbn]
      clear hc hx hbn
      go_upto_region 4 with fail
      generalize hW2 : World.alloc _ _ = W2
      have hr2 := rec_new wr #[.int .i64 xi, .int .i64 fr, .int .i64 tt, .string ty, .slice pa xp.length pc] 71
      rw [hW2] at hr2
      have HB2 : Hid (Below wr.heap.size wr W2) := by rw [← hW2]; exact (Below.refl _ _).alloc (Nat.le_refl _) _
      have k0 := hr2.cell 3 rfl
      clear hW2 hr2 c0 c1 c2 c3 c4 hxl hxp
      go_wp2_with fail
      refine (HK1.out W2 HB2.out).mono ?_
      rintro e w3 ⟨rfl, hb3⟩
      have HB3 := hidE (below_on HBR.out (below_on HB2.out hb3))
      clear hb3 k0
      cases bn with
      | false =>
        have HF : Hid (res = false) := HE2.out
        go_wp2_with fail
        go_ret
        exact ⟨by rw [HF.out]; rfl, below_on HB1.out HB3.out⟩
      | true =>
        have HN2 : Hid (typesB (rs.drop (j + 1)) = res) := HE2.out.symm
        go_wp2_with fail
        go_roundw
        case rel => exact ⟨j + 1, by omega, by go_num, HB3.out, HN2.out⟩
        case measure => simp [intOf]; omega
    · have HF : Hid (res = true) := by
        show _ = _
        rw [← HRS.out, List.drop_of_length_le (by have := HM.out; omega)]; rfl
      have hlt' : ¬ (j : Int) < m := by omega
      go_wp2_with fail
      go_ret
      exact ⟨by rw [HF.out]; rfl, HBW.out⟩
set_option maxRecDepth 100000 in
set_option maxHeartbeats 4000000 in
theorem props_any (g : GraphP) (B : Nat) (v : Value) (w : World) (hB : B ≤ w.heap.size) (hE : Env w) (hg : GraphLies B w v g) (hz : Mild g) : Calls Tryz.prog 103 #[v] w fun e w' => e = .returned (.bool ((nodePropsB g.nodes && relPropsB g.rels))) ∧ Below w.heap.size w w' := by
  obtain ⟨na, nc, ra, rc, rfl, hn, hr⟩ := hg
  obtain ⟨h60, h61, hz1, hz2⟩ := hz
  have HE := hidE hE
  obtain ⟨res, hres⟩ : ∃ r, (nodePropsB g.nodes && relPropsB g.rels) = r := ⟨_, rfl⟩
  have HR := hidE hres
  rw [hres]
  clear hres hE
  obtain ⟨ns, rs, nn, nr⟩ := g
  simp only at hn hr h60 h61 hz1 hz2 HR ⊢
  obtain ⟨a', c', e1, h1, h2, hp3⟩ := hn
  obtain ⟨rfl, rfl⟩ : na = a' ∧ nc = c' := by injection e1 with e1 _ e2; exact ⟨e1, e2⟩
  obtain ⟨a', c', e2, r1, r2, hq3⟩ := hr
  obtain ⟨rfl, rfl⟩ : ra = a' ∧ rc = c' := by injection e2 with e1 _ e2; exact ⟨e1, e2⟩
  have HP := hidE hp3
  have HQ := hidE hq3
  have HS1 := hidE hz1
  have HS2 := hidE hz2
  obtain ⟨n, hn⟩ : ∃ n, ns.length = n := ⟨_, rfl⟩
  have HN := hidE hn
  obtain ⟨m, hm⟩ : ∃ m, rs.length = m := ⟨_, rfl⟩
  have HM := hidE hm
  rw [hn] at h1 h60
  rw [hm] at r1 h61
  rw [hn, hm]
  clear hp3 hq3 hz1 hz2 hn hm e1 e2
  have hle : n ≤ 9223372036854775807 := by omega
  have hlm : m ≤ 9223372036854775807 := by omega
  go_enter Tryz.func103, Tryz.ntmps103
  go_upto_region 1 with fail
  generalize hW1 : World.alloc _ _ = W1
  have hr1 := rec_new w #[.slice na n nc, .slice ra m rc, .int .i64 nn, .int .i64 nr] 25
  rw [hW1] at hr1
  have HB1 : Hid (Below w.heap.size w W1) := by rw [← hW1]; exact (Below.refl _ _).alloc (Nat.le_refl _) _
  have HR1 := hidE hr1
  have q0 := hr1.cell 0 rfl
  clear hW1 hr1
  have HR2 := HR
  go_wp2_with fail
  clear q0
  go_loopw [10] (fun i wr => ∃ j : Nat, j ≤ n ∧ i = .int .i64 j ∧ Below W1.heap.size W1 wr ∧ (nodePropsB (ns.drop j) && relPropsB rs) = res) (fun i _ => n - (intOf i).toNat)
  case atStart => exact ⟨0, Nat.zero_le _, rfl, Below.refl _ _, HR2.out⟩
  case round =>
    obtain ⟨j, hj, rfl, hbr, hrs⟩ := hrel
    have HBR := hidE hbr
    have HRS := hidE hrs
    have hwz : w.heap.size < wr.heap.size := by
      have := HR1.out.lt
      have := hbr.size
      omega
    have HBW := hidE (below_on HB1.out hbr)
    clear hbr hrs
    by_cases hlt : j < n
    · have hlt' : (j : Int) < n := by omega
      obtain ⟨⟨xi, xl, xp⟩, hx⟩ : ∃ q, ns[j]? = some q := ⟨_, List.getElem?_eq_getElem (by have := HN.out; omega)⟩
      have HX := hidE hx
      obtain ⟨bl, off, rfl, hbl, hc⟩ := HP.out.resolve_left (by intro e; rw [e] at hx; simp at hx)
      obtain ⟨la, lc, pv, ⟨c0, c1, c2⟩, ⟨hl1, hl2⟩, hk, hp⟩ := (hc j _ hx).below (HBW.out.mono hB) hbl
      obtain ⟨hxl, hxp⟩ := HS1.out _ (List.mem_of_getElem? hx)
      simp only at c0 c1 c2 hl1 hl2 hk hp hxl hxp
      have HK1 := hidE (fun W (hb : Below wr.heap.size wr W) => mayP_any pv xp B W (by have := hb.size; omega) (HE.out.below (below_on HBW.out hb) HE.out.room) (hp.below (hb.mono (by omega))) hxp)
      obtain ⟨pa, pc, rfl, _, _, _⟩ := hp
      obtain ⟨bn, hbn⟩ : ∃ b, mayPB xp = b := ⟨_, rfl⟩
      rw [hbn] at HK1
      have HE2 : Hid (res = ((bn && nodePropsB (ns.drop (j + 1))) && relPropsB rs)) := by
        show _ = _
        rw [← HRS.out, nodePropsB_at HX.out]
        simp only
        rw [hbn]
      clear hc hx hbn
      go_upto_region 4 with fail
      generalize hW2 : World.alloc _ _ = W2
      have hr2 := rec_new wr #[.int .i64 xi, .slice la xl.length lc, .slice pa xp.length pc] 73
      rw [hW2] at hr2
      have HB2 : Hid (Below wr.heap.size wr W2) := by rw [← hW2]; exact (Below.refl _ _).alloc (Nat.le_refl _) _
      have k0 := hr2.cell 2 rfl
      clear hW2 hr2 c0 c1 c2 hk hxl hxp hl1 hl2
      go_wp2_with fail
      refine (HK1.out W2 HB2.out).mono ?_
      rintro e w3 ⟨rfl, hb3⟩
      have HB3 := hidE (below_on HBR.out (below_on HB2.out hb3))
      clear hb3 k0
      cases bn with
      | false =>
        have HF : Hid (res = false) := HE2.out
        go_wp2_with fail
        go_ret
        exact ⟨by rw [HF.out]; rfl, below_on HB1.out HB3.out⟩
      | true =>
        have HN2 : Hid ((nodePropsB (ns.drop (j + 1)) && relPropsB rs) = res) := HE2.out.symm
        go_wp2_with fail
        go_roundw
        case rel => exact ⟨j + 1, by omega, by go_num, HB3.out, HN2.out⟩
        case measure => simp [intOf]; omega
    · have HR3 : Hid (relPropsB rs = res) := by
        show _ = _
        rw [← HRS.out, List.drop_of_length_le (by have := HN.out; omega)]; rfl
      have hlt' : ¬ (j : Int) < n := by omega
      have HBA := HBR
      have q1 := (HR1.out.below HBR.out HR1.out.lt).cell 1 rfl
      go_wp2_with fail
      clear hlt hlt' HRS hj HBR hwz HBW q1 HR2
      have HR2 := HR3
      clear HR3
      go_loopw [22] (fun i wr => ∃ j : Nat, j ≤ m ∧ i = .int .i64 j ∧ Below W1.heap.size W1 wr ∧ relPropsB (rs.drop j) = res) (fun i _ => m - (intOf i).toNat)
      case atStart => exact ⟨0, Nat.zero_le _, rfl, HBA.out, HR2.out⟩
      case round =>
        obtain ⟨j, hj, rfl, hbr, hrs⟩ := hrel
        have HBR := hidE hbr
        have HRS := hidE hrs
        have hwz : w.heap.size < wr.heap.size := by
          have := HR1.out.lt
          have := hbr.size
          omega
        have HBW := hidE (below_on HB1.out hbr)
        clear hbr hrs
        by_cases hlt : j < m
        · have hlt' : (j : Int) < m := by omega
          obtain ⟨⟨xi, fr, tt, ty, xp⟩, hx⟩ : ∃ q, rs[j]? = some q := ⟨_, List.getElem?_eq_getElem (by have := HM.out; omega)⟩
          have HX := hidE hx
          obtain ⟨bl, off, rfl, hbl, hc⟩ := HQ.out.resolve_left (by intro e; rw [e] at hx; simp at hx)
          obtain ⟨pv, ⟨c0, c1, c2, c3, c4⟩, _, hp⟩ := (hc j _ hx).below (HBW.out.mono hB) hbl
          obtain ⟨hxl, hxp⟩ := HS2.out _ (List.mem_of_getElem? hx)
          simp only at c0 c1 c2 c3 c4 hp hxl hxp
          have HK1 := hidE (fun W (hb : Below wr.heap.size wr W) => mayP_any pv xp B W (by have := hb.size; omega) (HE.out.below (below_on HBW.out hb) HE.out.room) (hp.below (hb.mono (by omega))) hxp)
          obtain ⟨pa, pc, rfl, _, _, _⟩ := hp
          obtain ⟨bn, hbn⟩ : ∃ b, mayPB xp = b := ⟨_, rfl⟩
          rw [hbn] at HK1
          have HE2 : Hid (res = (bn && relPropsB (rs.drop (j + 1)))) := by
            show _ = _
            rw [← HRS.out, relPropsB_at HX.out]
            simp only
            rw [hbn]
          clear hc hx hbn
          go_upto_region 10 with fail
          generalize hW2 : World.alloc _ _ = W2
          have hr2 := rec_new wr #[.int .i64 xi, .int .i64 fr, .int .i64 tt, .string ty, .slice pa xp.length pc] 71
          rw [hW2] at hr2
          have HB2 : Hid (Below wr.heap.size wr W2) := by rw [← hW2]; exact (Below.refl _ _).alloc (Nat.le_refl _) _
          have k0 := hr2.cell 4 rfl
          clear hW2 hr2 c0 c1 c2 c3 c4 hxl hxp
          go_wp2_with fail
          refine (HK1.out W2 HB2.out).mono ?_
          rintro e w3 ⟨rfl, hb3⟩
          have HB3 := hidE (below_on HBR.out (below_on HB2.out hb3))
          clear hb3 k0
          cases bn with
          | false =>
            have HF : Hid (res = false) := HE2.out
            go_wp2_with fail
            go_ret
            exact ⟨by rw [HF.out]; rfl, below_on HB1.out HB3.out⟩
          | true =>
            have HN2 : Hid (relPropsB (rs.drop (j + 1)) = res) := HE2.out.symm
            go_wp2_with fail
            go_roundw
            case rel => exact ⟨j + 1, by omega, by go_num, HB3.out, HN2.out⟩
            case measure => simp [intOf]; omega
        · have HF : Hid (res = true) := by
            show _ = _
            rw [← HRS.out, List.drop_of_length_le (by have := HM.out; omega)]; rfl
          have hlt' : ¬ (j : Int) < m := by omega
          go_wp2_with fail
          go_ret
          exact ⟨by rw [HF.out]; rfl, HBW.out⟩
end Go.Proofs.YthfilnflgahcjaaGreatDoor

namespace Go.Proofs.YthfilnflgahcjaaGreatDoor
open Go.RowKit Go.Shelf
set_option linter.unusedVariables false
set_option linter.unusedSimpArgs false
attribute [local go_sem] Oper.semAt_some
/-- Do numbers rise from one on, up to another? -/
def riseI (next : Int) : Int → List Int → Bool
  | _, [] => decide (0 ≤ next) && decide (next ≤ 4611686018427387904)
  | l, x :: r => !decide (x < l) && (!decide (next ≤ x) && riseI next (x + 1) r)
theorem riseI_at {next l : Int} {ks : List Int} {j : Nat} {x : Int} (h : ks[j]? = some x) : riseI next l (ks.drop j) = (!decide (x < l) && (!decide (next ≤ x) && riseI next (x + 1) (ks.drop (j + 1)))) := by
  obtain ⟨hj, hx⟩ := List.getElem?_eq_some_iff.1 h
  rw [List.drop_eq_getElem_cons hj, hx, riseI]
set_option maxHeartbeats 1000000 in
theorem nodeNum_any (xi : Int) (la : Option Addr) (ll lc : Nat) (pa : Option Addr) (pl pc : Nat) (w : World) : Calls Tryz.prog 130 #[.agg #[.int .i64 xi, .slice la ll lc, .slice pa pl pc]] w fun e w' => e = .returned (.int .i64 xi) ∧ Below w.heap.size w w' := by
  go_enter Tryz.func130, Tryz.ntmps130
  go_upto_region 1 with fail
  generalize hW1 : World.alloc _ _ = W1
  have hr := rec_new w #[.int .i64 xi, .slice la ll lc, .slice pa pl pc] 73
  rw [hW1] at hr
  have HB1 : Hid (Below w.heap.size w W1) := by rw [← hW1]; exact (Below.refl _ _).alloc (Nat.le_refl _) _
  have q0 := hr.cell 0 rfl
  clear hW1 hr
  go_wp2_with fail
  go_ret
  exact ⟨rfl, HB1.out⟩
set_option maxHeartbeats 1000000 in
theorem relNum_any (xi fr tt : Int) (ty : ByteArray) (pa : Option Addr) (pl pc : Nat) (w : World) : Calls Tryz.prog 132 #[.agg #[.int .i64 xi, .int .i64 fr, .int .i64 tt, .string ty, .slice pa pl pc]] w fun e w' => e = .returned (.int .i64 xi) ∧ Below w.heap.size w w' := by
  go_enter Tryz.func132, Tryz.ntmps132
  go_upto_region 1 with fail
  generalize hW1 : World.alloc _ _ = W1
  have hr := rec_new w #[.int .i64 xi, .int .i64 fr, .int .i64 tt, .string ty, .slice pa pl pc] 71
  rw [hW1] at hr
  have HB1 : Hid (Below w.heap.size w W1) := by rw [← hW1]; exact (Below.refl _ _).alloc (Nat.le_refl _) _
  have q0 := hr.cell 0 rfl
  clear hW1 hr
  go_wp2_with fail
  go_ret
  exact ⟨rfl, HB1.out⟩
set_option maxRecDepth 100000 in
set_option maxHeartbeats 4000000 in
theorem risingN_any (ks : List NodeP) (next : Int) (B : Nat) (v : Value) (w : World) (hB : B ≤ w.heap.size) (hk : NodesLie B w v ks) (hx1 : -9223372036854775808 ≤ next) (hx2 : next ≤ 9223372036854775807) :
    Calls Tryz.prog 129 #[v, .func (.func 130) #[] #[], .int .i64 next] w fun e w' => e = .returned (.bool (riseI next 0 (ks.map NodeP.id))) ∧ Below w.heap.size w w' := by
  obtain ⟨ka, kc, rfl, h1, h2, hk3⟩ := hk
  have HK := hidE hk3
  obtain ⟨n, hn⟩ : ∃ n, ks.length = n := ⟨_, rfl⟩
  have HN := hidE hn
  rw [hn] at h1 ⊢
  obtain ⟨res, hres⟩ : ∃ r, riseI next 0 (ks.map NodeP.id) = r := ⟨_, rfl⟩
  have HR := hidE hres
  rw [hres]
  clear hk3 hn hres
  go_enter Tryz.func129, Tryz.ntmps129
  go_wp2_with fail
  go_loopw [13, 7] (fun i l wr => ∃ (j : Nat) (s : Int), j ≤ n ∧ i = .int .i64 j ∧ l = .int .i64 s ∧ 0 ≤ s ∧ Below w.heap.size w wr ∧ riseI next s ((ks.map NodeP.id).drop j) = res) (fun i _ _ => n - (intOf i).toNat)
  case atStart => exact ⟨0, 0, Nat.zero_le _, rfl, rfl, by omega, Below.refl _ _, HR.out⟩
  case round =>
    obtain ⟨j, s, hj, rfl, rfl, hs0, hbr, hrs⟩ := hrel
    have HBR := hidE hbr
    have HRS := hidE hrs
    have hwz : w.heap.size ≤ wr.heap.size := hbr.size
    clear hbr hrs
    by_cases hlt : j < n
    · have hlt' : (j : Int) < n := by omega
      obtain ⟨⟨xi, xl, xp⟩, hx⟩ : ∃ x, ks[j]? = some x := ⟨_, List.getElem?_eq_getElem (by have := HN.out; omega)⟩
      have HX : Hid ((ks.map NodeP.id)[j]? = some xi) := by
        show _ = _
        rw [List.getElem?_map, hx]; rfl
      obtain ⟨bl, off, rfl, hbl, hc⟩ := HK.out.resolve_left (by intro e; rw [e] at hx; simp at hx)
      obtain ⟨la, lc, pv, ⟨c0, c1, c2⟩, _, _, hp⟩ := (hc j _ hx).below (HBR.out.mono hB) hbl
      simp only at c0 c1 c2 hp
      obtain ⟨pa, pc, rfl, _, _, _⟩ := hp
      have HE2 : Hid (res = (!decide (xi < s) && (!decide (next ≤ xi) && riseI next (xi + 1) ((ks.map NodeP.id).drop (j + 1))))) := by
        show _ = _
        rw [← HRS.out, riseI_at HX.out]
      clear hc hx
      go_upto_region 5 with fail
      generalize hW2 : World.alloc _ _ = W2
      have hr2 := rec_new wr #[.int .i64 xi, .slice la xl.length lc, .slice pa xp.length pc] 73
      rw [hW2] at hr2
      have HB2 : Hid (Below wr.heap.size wr W2) := by rw [← hW2]; exact (Below.refl _ _).alloc (Nat.le_refl _) _
      have k0 := hr2.cell 0 rfl
      have k1 := hr2.cell 1 rfl
      have k2 := hr2.cell 2 rfl
      clear hW2 hr2 c0 c1 c2
      go_wp2_with fail
      refine (nodeNum_any xi la xl.length lc pa xp.length pc _).mono ?_
      rintro e w3 ⟨rfl, hb3⟩
      have HB3 := hidE (below_on HBR.out (below_on HB2.out hb3))
      clear hb3 k0 k1 k2
      by_cases a1 : xi < s
      · have HF : Hid (res = false) := by
          show _ = _
          rw [HE2.out, decide_eq_true a1]; rfl
        go_wp2_with fail
        go_ret
        exact ⟨by rw [HF.out]; rfl, HB3.out⟩
      · by_cases a2 : next ≤ xi
        · have HF : Hid (res = false) := by
            show _ = _
            rw [HE2.out, decide_eq_false a1, decide_eq_true a2]; rfl
          go_wp2_with fail
          go_ret
          exact ⟨by rw [HF.out]; rfl, HB3.out⟩
        · have HN2 : Hid (riseI next (xi + 1) ((ks.map NodeP.id).drop (j + 1)) = res) := by
            show _ = _
            rw [HE2.out, decide_eq_false a1, decide_eq_false a2]; rfl
          have hwr : IntKind.i64.wrap (xi + 1) = xi + 1 := by rw [IntKind.wrap_i64]; omega
          go_wp2_with fail
          go_roundw
          case rel => exact ⟨j + 1, xi + 1, by omega, by go_num, rfl, by omega, HB3.out, HN2.out⟩
          case measure => simp [intOf]; omega
    · have HF : Hid (res = (decide (0 ≤ next) && decide (next ≤ 4611686018427387904))) := by
        show _ = _
        rw [← HRS.out, List.drop_of_length_le (by have := HN.out; simp; omega)]; rfl
      have hlt' : ¬ (j : Int) < n := by omega
      by_cases b1 : 0 ≤ next
      · have HF2 : Hid (res = decide (next ≤ 4611686018427387904)) := by
          show _ = _
          rw [HF.out, decide_eq_true b1]; rfl
        go_wp2_with fail
        go_ret
        exact ⟨by rw [HF2.out]; rfl, HBR.out⟩
      · have HF2 : Hid (res = false) := by
          show _ = _
          rw [HF.out, decide_eq_false b1]; rfl
        go_wp2_with fail
        go_ret
        exact ⟨by rw [HF2.out]; rfl, HBR.out⟩
set_option maxRecDepth 100000 in
set_option maxHeartbeats 4000000 in
theorem risingR_any (ks : List RelP) (next : Int) (B : Nat) (v : Value) (w : World) (hB : B ≤ w.heap.size) (hk : RelsLie B w v ks) (hx1 : -9223372036854775808 ≤ next) (hx2 : next ≤ 9223372036854775807) :
    Calls Tryz.prog 131 #[v, .func (.func 132) #[] #[], .int .i64 next] w fun e w' => e = .returned (.bool (riseI next 0 (ks.map RelP.id))) ∧ Below w.heap.size w w' := by
  obtain ⟨ka, kc, rfl, h1, h2, hk3⟩ := hk
  have HK := hidE hk3
  obtain ⟨n, hn⟩ : ∃ n, ks.length = n := ⟨_, rfl⟩
  have HN := hidE hn
  rw [hn] at h1 ⊢
  obtain ⟨res, hres⟩ : ∃ r, riseI next 0 (ks.map RelP.id) = r := ⟨_, rfl⟩
  have HR := hidE hres
  rw [hres]
  clear hk3 hn hres
  go_enter Tryz.func131, Tryz.ntmps131
  go_wp2_with fail
  go_loopw [13, 7] (fun i l wr => ∃ (j : Nat) (s : Int), j ≤ n ∧ i = .int .i64 j ∧ l = .int .i64 s ∧ 0 ≤ s ∧ Below w.heap.size w wr ∧ riseI next s ((ks.map RelP.id).drop j) = res) (fun i _ _ => n - (intOf i).toNat)
  case atStart => exact ⟨0, 0, Nat.zero_le _, rfl, rfl, by omega, Below.refl _ _, HR.out⟩
  case round =>
    obtain ⟨j, s, hj, rfl, rfl, hs0, hbr, hrs⟩ := hrel
    have HBR := hidE hbr
    have HRS := hidE hrs
    have hwz : w.heap.size ≤ wr.heap.size := hbr.size
    clear hbr hrs
    by_cases hlt : j < n
    · have hlt' : (j : Int) < n := by omega
      obtain ⟨⟨xi, fr, tt, ty, xp⟩, hx⟩ : ∃ x, ks[j]? = some x := ⟨_, List.getElem?_eq_getElem (by have := HN.out; omega)⟩
      have HX : Hid ((ks.map RelP.id)[j]? = some xi) := by
        show _ = _
        rw [List.getElem?_map, hx]; rfl
      obtain ⟨bl, off, rfl, hbl, hc⟩ := HK.out.resolve_left (by intro e; rw [e] at hx; simp at hx)
      obtain ⟨pv, ⟨c0, c1, c2, c3, c4⟩, _, hp⟩ := (hc j _ hx).below (HBR.out.mono hB) hbl
      simp only at c0 c1 c2 c3 c4 hp
      obtain ⟨pa, pc, rfl, _, _, _⟩ := hp
      have HE2 : Hid (res = (!decide (xi < s) && (!decide (next ≤ xi) && riseI next (xi + 1) ((ks.map RelP.id).drop (j + 1))))) := by
        show _ = _
        rw [← HRS.out, riseI_at HX.out]
      clear hc hx
      go_upto_region 5 with fail
      generalize hW2 : World.alloc _ _ = W2
      have hr2 := rec_new wr #[.int .i64 xi, .int .i64 fr, .int .i64 tt, .string ty, .slice pa xp.length pc] 71
      rw [hW2] at hr2
      have HB2 : Hid (Below wr.heap.size wr W2) := by rw [← hW2]; exact (Below.refl _ _).alloc (Nat.le_refl _) _
      have k0 := hr2.cell 0 rfl
      have k1 := hr2.cell 1 rfl
      have k2 := hr2.cell 2 rfl
      have k3 := hr2.cell 3 rfl
      have k4 := hr2.cell 4 rfl
      clear hW2 hr2 c0 c1 c2 c3 c4
      go_wp2_with fail
      refine (relNum_any xi fr tt ty pa xp.length pc _).mono ?_
      rintro e w3 ⟨rfl, hb3⟩
      have HB3 := hidE (below_on HBR.out (below_on HB2.out hb3))
      clear hb3 k0 k1 k2 k3 k4
      by_cases a1 : xi < s
      · have HF : Hid (res = false) := by
          show _ = _
          rw [HE2.out, decide_eq_true a1]; rfl
        go_wp2_with fail
        go_ret
        exact ⟨by rw [HF.out]; rfl, HB3.out⟩
      · by_cases a2 : next ≤ xi
        · have HF : Hid (res = false) := by
            show _ = _
            rw [HE2.out, decide_eq_false a1, decide_eq_true a2]; rfl
          go_wp2_with fail
          go_ret
          exact ⟨by rw [HF.out]; rfl, HB3.out⟩
        · have HN2 : Hid (riseI next (xi + 1) ((ks.map RelP.id).drop (j + 1)) = res) := by
            show _ = _
            rw [HE2.out, decide_eq_false a1, decide_eq_false a2]; rfl
          have hwr : IntKind.i64.wrap (xi + 1) = xi + 1 := by rw [IntKind.wrap_i64]; omega
          go_wp2_with fail
          go_roundw
          case rel => exact ⟨j + 1, xi + 1, by omega, by go_num, rfl, by omega, HB3.out, HN2.out⟩
          case measure => simp [intOf]; omega
    · have HF : Hid (res = (decide (0 ≤ next) && decide (next ≤ 4611686018427387904))) := by
        show _ = _
        rw [← HRS.out, List.drop_of_length_le (by have := HN.out; simp; omega)]; rfl
      have hlt' : ¬ (j : Int) < n := by omega
      by_cases b1 : 0 ≤ next
      · have HF2 : Hid (res = decide (next ≤ 4611686018427387904)) := by
          show _ = _
          rw [HF.out, decide_eq_true b1]; rfl
        go_wp2_with fail
        go_ret
        exact ⟨by rw [HF2.out]; rfl, HBR.out⟩
      · have HF2 : Hid (res = false) := by
          show _ = _
          rw [HF.out, decide_eq_false b1]; rfl
        go_wp2_with fail
        go_ret
        exact ⟨by rw [HF2.out]; rfl, HBR.out⟩
set_option maxRecDepth 100000 in
set_option maxHeartbeats 4000000 in
theorem numbers_any (g : GraphP) (B : Nat) (v : Value) (w : World) (hB : B ≤ w.heap.size) (hg : GraphLies B w v g) (hn1 : -9223372036854775808 ≤ g.nn ∧ g.nn ≤ 9223372036854775807) (hn2 : -9223372036854775808 ≤ g.nr ∧ g.nr ≤ 9223372036854775807) : Calls Tryz.prog 101 #[v] w fun e w' => e = .returned (.bool (riseI g.nn 0 (g.nodes.map NodeP.id) && riseI g.nr 0 (g.rels.map RelP.id))) ∧ Below w.heap.size w w' := by
  obtain ⟨na, nc, ra, rc, rfl, hn, hr⟩ := hg
  have HK1 := hidE (fun W (hb : Below w.heap.size w W) => risingN_any g.nodes g.nn B _ W (by have := hb.size; omega) (hn.below (hb.mono hB)) hn1.1 hn1.2)
  have HK2 := hidE (fun W (hb : Below w.heap.size w W) => risingR_any g.rels g.nr B _ W (by have := hb.size; omega) (hr.below (hb.mono hB)) hn2.1 hn2.2)
  obtain ⟨ns, rs, nn, nr⟩ := g
  simp only at HK1 HK2 ⊢
  obtain ⟨b1, hb1⟩ : ∃ b, riseI nn 0 (ns.map NodeP.id) = b := ⟨_, rfl⟩
  obtain ⟨b2, hb2⟩ : ∃ b, riseI nr 0 (rs.map RelP.id) = b := ⟨_, rfl⟩
  rw [hb1] at HK1 ⊢
  rw [hb2] at HK2 ⊢
  generalize ns.length = n at *
  generalize rs.length = m at *
  clear hb1 hb2 hn hr
  go_enter Tryz.func101, Tryz.ntmps101
  go_upto_region 1 with fail
  generalize hW1 : World.alloc _ _ = W1
  have hr1 := rec_new w #[.slice na n nc, .slice ra m rc, .int .i64 nn, .int .i64 nr] 25
  rw [hW1] at hr1
  have HB1 : Hid (Below w.heap.size w W1) := by rw [← hW1]; exact (Below.refl _ _).alloc (Nat.le_refl _) _
  have HR1 := hidE hr1
  have q0 := hr1.cell 0 rfl
  have q2 := hr1.cell 2 rfl
  clear hW1 hr1
  go_wp2_with fail
  refine (HK1.out W1 HB1.out).mono ?_
  rintro e w2 ⟨rfl, hb2⟩
  have HB2 := hidE (below_on HB1.out hb2)
  have k1 := (HR1.out.below hb2 HR1.out.lt).cell 1 rfl
  have k3 := (HR1.out.below hb2 HR1.out.lt).cell 3 rfl
  clear hb2 q0 q2
  cases b1 with
  | false =>
    go_wp2_with fail
    go_ret
    exact ⟨rfl, HB2.out⟩
  | true =>
    go_wp2_with fail
    refine (HK2.out w2 HB2.out).mono ?_
    rintro e w3 ⟨rfl, hb3⟩
    have HB3 := hidE (below_on HB2.out hb3)
    clear hb3 k1 k3
    go_wp2_with fail
    go_ret
    exact ⟨rfl, HB3.out⟩
end Go.Proofs.YthfilnflgahcjaaGreatDoor

