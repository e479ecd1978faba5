/- StatsAsks' walk, from its loops on. -/
import Derived.Test.YthfilnflgahcjaaGreatDoorJoin29
import Derived.Test.YthfilnflgahcjaaGreatDoorRtim
import Derived.Test.YthfilnflgahcjaaGreatDoorRcut
import Derived.Deep.Cut
namespace Go.Proofs.YthfilnflgahcjaaGreatDoor
open Go.RowKit Go.Shelf Go.Maps
set_option linter.unusedVariables false
set_option linter.unusedSimpArgs false
attribute [local go_sem] Oper.semAt_some
set_option maxRecDepth 100000 in
set_option maxHeartbeats 16000000 in
theorem asks_14 (s : StatP) (key lab kind : ByteArray) (dir sn sr : Int) (ls ts : List ByteArray) (ns : List Int) (la ta ea ka lsa tsa nsa : Option Addr) (lc tc ec kc lsc tsc nsc p1 p2 p3 p4 m1 m2 m3 bv ov vc : Nat) (w wc w6 : World) (u12 u13 u14 u15 u16 u17 u18 u19 u20 u21 u22 u23 u24 u25 u26 u27 u28 u29 u30 u31 u32 u33 u34 u35 u36 u37 u38 u39 u40 u41 u42 u43 u44 u45 u46 u47 u48 u49 u50 u51 u52 u53 u54 u55 u56 u57 u58 u59 u60 u61 u62 u63 u64 u65 u66 u67 u68 u69 u70 u71 u72 u73 u74 u75 u76 u77 u78 u79 u80 u81 u82 u83 u84 u85 u86 u87 u88 u89 u90 u91 u92 u93 u94 u95 u96 u97 u98 u99 u100 u101 u102 u103 u104 u105 u106 u107 u108 u109 u110 u111 u112 u113 u114 u115 u116 u117 u118 u119 u120 u121 u122 u123 u124 u125 u126 u127 u128 u129 u130 u131 u132 u133 u134 u135 u136 u137 u138 u139 u140 u141 u142 u143 u144 u145 u146 u147 u148 u149 u150 u151 u152 u153 u154 u155 u156 u157 u158 u159 u160 u161 u162 u163 u164 u165 u166 u167 u168 u169 u170 u171 u172 u173 u174 u175 u176 u177 u178 u179 u180 u181 u182 u183 u184 u185 u186 u187 u188 u189 u190 u191 u192 u193 u194 u195 u196 u197 u198 u199 u200 u201 u202 u203 u204 u205 u206 u207 u208 u209 u210 u211 u212 u213 u214 u215 u216 u217 u218 : Value)
    (HM : Hid (ls.length = m1 ∧ ts.length = m2 ∧ ns.length = m3)) (k2 : ¬ 20 < m2) (k3 : ¬ 100 < m3)
    (HWK : Hid (∀ W, Below w.heap.size w W → Calls Tryz.prog 10 #[] W fun e w' => e = .returned (.bool true) ∧ Below W.heap.size W w'))
    (hc4 : m2 + 1 ≤ vc ∧ vc ≤ 9223372036854775807) (hbv : bv < wc.heap.size)
    (HCV : Hid (∀ (i : Nat) (x : ByteArray), (ts ++ [spareS])[i]? = some x → wc.cell? ⟨bv, ov + i, none⟩ = some (.string x)))
    (HB34 : Hid (Below w.heap.size w wc))
    (HT4 : Hid (SRow 1 strE wc.heap.size wc (.slice tsa m2 tsc) ts)) (HN4 : Hid (SRow 1 intE wc.heap.size wc (.slice nsa m3 nsc) ns))
    (HA2 : Hid (Rec wc (w.heap.size + 1) #[.slice lsa m1 lsc, .slice tsa m2 tsc, .string key, .int .i64 dir, .slice nsa m3 nsc] 46))
    (HB6 : Hid (Below wc.heap.size wc w6)) :
    (tailFrom 14 (Tryz.f4.body.getD .skip)).wp Tryz.prog (bodyPost Tryz.prog Tryz.f4 fun e w' => e = .returned (.bool true) ∧ Below w.heap.size w w')
      { tmps := #[.agg #[.int .i64 sn, .int .i64 sr, .slice la p1 lc, .slice ta p2 tc, .slice ea p3 ec, .slice ka p4 kc], .agg #[.slice lsa m1 lsc, .slice tsa m2 tsc, .string key, .int .i64 dir, .slice nsa m3 nsc], .pointer (some ⟨w.heap.size, 0, none⟩), .pointer (some ⟨w.heap.size + 1, 0, none⟩), .bool false, .slice (some ⟨bv, ov, none⟩) m2 vc, .string lab, .string kind, undef, undef, undef, undef, u12, u13, u14, u15, u16, u17, u18, u19, u20, u21, u22, u23, u24, u25, u26, u27, u28, u29, u30, u31, u32, u33, u34, u35, u36, u37, u38, u39, u40, u41, u42, u43, u44, u45, u46, u47, u48, u49, u50, u51, u52, u53, u54, u55, u56, u57, u58, u59, u60, u61, u62, u63, u64, u65, u66, u67, u68, u69, u70, u71, u72, u73, u74, u75, u76, u77, u78, u79, u80, u81, u82, u83, u84, u85, u86, u87, u88, u89, u90, u91, u92, u93, u94, u95, u96, u97, u98, u99, u100, u101, u102, u103, u104, u105, u106, u107, u108, u109, u110, u111, u112, u113, u114, u115, u116, u117, u118, u119, u120, u121, u122, u123, u124, u125, u126, u127, u128, u129, u130, u131, u132, u133, u134, u135, u136, u137, u138, u139, u140, u141, u142, u143, u144, u145, u146, u147, u148, u149, u150, u151, u152, u153, u154, u155, u156, u157, u158, u159, u160, u161, u162, u163, u164, u165, u166, u167, u168, u169, u170, u171, u172, u173, u174, u175, u176, u177, u178, u179, u180, u181, u182, u183, u184, u185, u186, u187, u188, u189, u190, u191, u192, u193, u194, u195, u196, u197, u198, u199, u200, u201, u202, u203, u204, u205, u206, u207, u208, u209, u210, u211, u212, u213, u214, u215, u216, u217, u218], defers := [] } w6 := by
  obtain ⟨QQ, hQ⟩ : ∃ QQ, bodyPost Tryz.prog Tryz.f4 (fun e w' => e = .returned (.bool true) ∧ Below w.heap.size w w') = QQ := ⟨_, rfl⟩
  have HQ := hidE hQ
  rw [hQ]
  clear hQ
  conv =>
    arg 2
    whnf
  go_wp2_with fail
  go_loopw [8] (fun i wr => ∃ j : Nat, j ≤ m2 ∧ i = .int .i64 j ∧ Below wc.heap.size wc wr) (fun i _ => m2 - (intOf i).toNat)
  case atStart => exact ⟨0, Nat.zero_le _, rfl, HB6.out⟩
  case round =>
    obtain ⟨j, hj, rfl, hbr⟩ := hrel
    have HBR := hidE hbr
    have q2 := HA2.out.below hbr HA2.out.lt
    have d1 := q2.cell 1 rfl
    clear q2 hbr HB6
    by_cases hlt : j < m2
    · have hlt' : (j : Int) < m2 := by omega
      obtain ⟨x, hx⟩ : ∃ q, ts[j]? = some q := ⟨_, List.getElem?_eq_getElem (by have := HM.out.2.1; omega)⟩
      obtain ⟨a0, c0', ea0, _, _, hrw⟩ := HT4.out
      obtain ⟨rfl, rfl⟩ : tsa = a0 ∧ tsc = c0' := by injection ea0 with a b c; exact ⟨a, c⟩
      obtain ⟨b0, o0, rfl, hb0, hc0⟩ := hrw.resolve_left (by intro e; rw [e] at hx; simp at hx)
      have cx : wr.cell? ⟨b0, o0 + j, none⟩ = some (.string x) := by
        have h := hc0 j x hx 0 _ rfl
        rw [Nat.mul_one, Nat.add_zero] at h
        exact (HBR.out.cell (p := ⟨b0, o0 + j, none⟩) hb0).trans h
      have cy : wr.cell? ⟨bv, ov + j, none⟩ = some (.string x) := (HBR.out.cell (p := ⟨bv, ov + j, none⟩) hbv).trans (HCV.out j x (by rw [List.getElem?_append_left (List.getElem?_eq_some_iff.1 hx).1]; exact hx))
      have f1 : ∀ u : Up wr, u.x.cell? ⟨w.heap.size + 1, 1, none⟩ = some (.slice (some ⟨b0, o0, none⟩) m2 tsc) := fun u => u.cell d1
      have fx : ∀ u : Up wr, u.x.cell? ⟨b0, o0 + j, none⟩ = some (.string x) := fun u => u.cell cx
      have fy : ∀ u : Up wr, u.x.cell? ⟨bv, ov + j, none⟩ = some (.string x) := fun u => u.cell cy
      have up_ne : Nonempty (Up wr) := ⟨⟨wr, Below.refl _ _⟩⟩
      clear hx hrw hc0 ea0
      go_upto_region 17 with fail
      refine wp_up (by kernel_rfl) (by kernel_rfl) ?_
      repeat (go_big_quiet_step (fail))
      refine wpQuiet_nil ?_
      rintro w7 ⟨⟨W7, hb7⟩, rfl⟩
      have HBZ := hidE (Below.on HBR.out hb7)
      clear hb7 f1 fx fy up_ne cx cy
      go_wp2_with fail
      go_roundw
      case rel => exact ⟨j + 1, by omega, by go_num, HBZ.out⟩
      case measure => simp [intOf]; omega
    · have hlt' : ¬ (j : Int) < m2 := by omega
      clear d1
      have q2 := HA2.out.below HBR.out HA2.out.lt
      have d1 := q2.cell 1 rfl
      clear q2
      go_wp2_with fail
      clear d1
      go_loopw [9] (fun i wr => ∃ k : Nat, (k ≤ m3 ∨ k = 0) ∧ i = .int .i64 ((k : Int) + 1) ∧ Below wc.heap.size wc wr) (fun i _ => m3 - (intOf i).toNat)
      case atStart => exact ⟨0, .inr rfl, rfl, HBR.out⟩
      case round =>
        clear HBR
        obtain ⟨k, hk, rfl, hbr⟩ := hrel
        have HBR := hidE hbr
        have q2 := HA2.out.below hbr HA2.out.lt
        have d4 := q2.cell 4 rfl
        have d1 := q2.cell 1 rfl
        clear q2 hbr
        by_cases hlt2 : k + 1 < m3
        · have hlt2' : (k : Int) + 1 < m3 := by omega
          obtain ⟨x, hx⟩ : ∃ q, ns[k]? = some q := ⟨_, List.getElem?_eq_getElem (by have := HM.out.2.2; omega)⟩
          obtain ⟨y, hy⟩ : ∃ q, ns[k + 1]? = some q := ⟨_, List.getElem?_eq_getElem (by have := HM.out.2.2; omega)⟩
          obtain ⟨a0, c0', ea0, _, _, hrw⟩ := HN4.out
          obtain ⟨rfl, rfl⟩ : nsa = a0 ∧ nsc = c0' := by injection ea0 with a b c; exact ⟨a, c⟩
          obtain ⟨b0, o0, rfl, hb0, hc0⟩ := hrw.resolve_left (by intro e; rw [e] at hx; simp at hx)
          have cx : wr.cell? ⟨b0, o0 + k, none⟩ = some (.int .i64 x) := by
            have h := hc0 k x hx 0 _ rfl
            rw [Nat.mul_one, Nat.add_zero] at h
            exact (HBR.out.cell (p := ⟨b0, o0 + k, none⟩) hb0).trans h
          have cy : wr.cell? ⟨b0, o0 + (k + 1), none⟩ = some (.int .i64 y) := by
            have h := hc0 (k + 1) y hy 0 _ rfl
            rw [Nat.mul_one, Nat.add_zero] at h
            exact (HBR.out.cell (p := ⟨b0, o0 + (k + 1), none⟩) hb0).trans h
          have f4 : ∀ u : Up wr, u.x.cell? ⟨w.heap.size + 1, 4, none⟩ = some (.slice (some ⟨b0, o0, none⟩) m3 nsc) := fun u => u.cell d4
          have fx : ∀ u : Up wr, u.x.cell? ⟨b0, o0 + k, none⟩ = some (.int .i64 x) := fun u => u.cell cx
          have fy : ∀ u : Up wr, u.x.cell? ⟨b0, o0 + (k + 1), none⟩ = some (.int .i64 y) := fun u => u.cell cy
          have up_ne : Nonempty (Up wr) := ⟨⟨wr, Below.refl _ _⟩⟩
          clear hx hy hrw hc0 ea0 d1
          go_upto_region 22 with fail
          refine wp_up (by kernel_rfl) (by kernel_rfl) ?_
          repeat (go_big_quiet_step (fail))
          refine wpQuiet_nil ?_
          rintro w7 ⟨⟨W7, hb7⟩, rfl⟩
          have HBZ := hidE (Below.on HBR.out hb7)
          obtain ⟨tv, htv⟩ : ∃ n, timesI x y = n := ⟨_, rfl⟩
          obtain ⟨hv, hhv⟩ : ∃ n, shareI x y = n := ⟨_, rfl⟩
          have H30 : Hid (∀ W, Calls Tryz.prog 30 #[.int .i64 x, .int .i64 y] W fun e w' => e = .returned (.int .i64 tv) ∧ w' = W) := fun W => by rw [← htv]; exact times_any x y W
          have H31 : Hid (∀ W, Calls Tryz.prog 31 #[.int .i64 x, .int .i64 y] W fun e w' => e = .returned (.int .i64 tv) ∧ Below W.heap.size W w') := fun W => by rw [← htv]; exact rtimes_any x y W
          have H32 : Hid (∀ W, Calls Tryz.prog 32 #[.int .i64 x, .int .i64 y] W fun e w' => e = .returned (.int .i64 hv) ∧ w' = W) := fun W => by rw [← hhv]; exact share_any x y W
          have H33 : Hid (∀ W, Calls Tryz.prog 33 #[.int .i64 x, .int .i64 y] W fun e w' => e = .returned (.int .i64 hv) ∧ w' = W) := fun W => by rw [← hhv]; exact rshare_any x y W
          clear htv hhv f4 fx fy up_ne d4 cx cy hb7
          go_wp2_with (first
            | (go_at_call 30; refine (H30.out _).mono ?_; rintro e _ ⟨rfl, rfl⟩)
            | (go_at_call 31; refine (H31.out _).mono ?_; rintro e W8 ⟨rfl, y1⟩; have HB8 := hidE (Below.on HBZ.out y1); clear y1)
            | (go_at_call 32; refine (H32.out _).mono ?_; rintro e _ ⟨rfl, rfl⟩)
            | (go_at_call 33; refine (H33.out _).mono ?_; rintro e _ ⟨rfl, rfl⟩))
          go_roundw
          case rel => exact ⟨k + 1, .inl (by omega), by go_num, HB8.out⟩
          case measure => simp [intOf]; omega
        · have hlt2' : ¬ (k : Int) + 1 < m3 := by omega
          have cs : wr.cell? ⟨bv, ov + m2, none⟩ = some (.string { data := #[115, 112, 97, 114, 101] }) := (HBR.out.cell (p := ⟨bv, ov + m2, none⟩) hbv).trans (HCV.out m2 _ (by rw [List.getElem?_append_right (by rw [HM.out.2.1]; exact Nat.le_refl _), HM.out.2.1, Nat.sub_self]; rfl))
          have hv1 : (m2 : Int) + 1 ≤ vc := by omega
          have f1 : ∀ u : Up wr, u.x.cell? ⟨w.heap.size + 1, 1, none⟩ = some (.slice tsa m2 tsc) := fun u => u.cell d1
          have f4 : ∀ u : Up wr, u.x.cell? ⟨w.heap.size + 1, 4, none⟩ = some (.slice nsa m3 nsc) := fun u => u.cell d4
          have fs : ∀ u : Up wr, u.x.cell? ⟨bv, ov + m2, none⟩ = some (.string { data := #[115, 112, 97, 114, 101] }) := fun u => u.cell cs
          have up_ne : Nonempty (Up wr) := ⟨⟨wr, Below.refl _ _⟩⟩
          obtain ⟨ip, hip⟩ : ∃ n, plusI ns = n := ⟨_, rfl⟩
          have H34 : Hid (∀ W, Below wc.heap.size wc W → Calls Tryz.prog 34 #[.slice nsa m3 nsc] W fun e w' => e = .returned (.int .i64 ip) ∧ Below W.heap.size W w') := fun W hb => by
            rw [← hip]
            refine (plus_any ns _ _ W hb.size (HN4.out.keep hb)).mono ?_
            rintro e _ ⟨h1, rfl⟩
            exact ⟨h1, Below.refl _ _⟩
          have H35 : Hid (∀ W, Below wc.heap.size wc W → Calls Tryz.prog 35 #[.slice nsa m3 nsc] W fun e w' => e = .returned (.int .i64 ip) ∧ Below W.heap.size W w') := fun W hb => by
            rw [← hip]
            refine (rplus_any ns _ _ W hb.size (HN4.out.keep hb)).mono ?_
            rintro e _ ⟨h1, rfl⟩
            exact ⟨h1, Below.refl _ _⟩
          have H10 : Hid (∀ W, Below wc.heap.size wc W → Calls Tryz.prog 10 #[] W fun e w' => e = .returned (.bool true) ∧ Below W.heap.size W w') := fun W hb => HWK.out W (Below.on HB34.out hb)
          clear hip
          go_upto_region 25 with fail
          clear d4 d1 cs
          refine wp_up (by kernel_rfl) (by kernel_rfl) ?_
          repeat (go_big_quiet_step (first | (go_at_call 34; exact Up.call (H34.out _ (Below.on HBR.out (Up.b _)))) | (go_at_call 35; exact Up.call (H35.out _ (Below.on HBR.out (Up.b _)))) | (go_at_call 10; exact Up.call (H10.out _ (Below.on HBR.out (Up.b _))))))
          refine wpQuiet_nil ?_
          rintro w7 ⟨⟨W7, hb7⟩, rfl⟩
          have HBZ := hidE (Below.on HB34.out (Below.on HBR.out hb7))
          clear f1 f4 fs up_ne H34 H35 H10 hb7
          go_wp2_with fail
          rw [← HQ.out]
          go_ret
          exact ⟨rfl, HBZ.out⟩
end Go.Proofs.YthfilnflgahcjaaGreatDoor
