/- StatsSums: the ends, the relationships, and the end. StatsSums' own walk. -/
import Derived.Test.YthfilnflgahcjaaGreatDoorJoin36
import Derived.Test.YthfilnflgahcjaaGreatDoorJoin26
import Derived.Test.YthfilnflgahcjaaGreatDoorJoin37
namespace Go.Proofs.YthfilnflgahcjaaGreatDoor
open Go.RowKit Go.Shelf Go.Maps
set_option linter.unusedVariables false
set_option linter.unusedSimpArgs false
attribute [local go_sem] Oper.semAt_some
set_option maxRecDepth 100000 in
set_option maxHeartbeats 16000000 in
theorem sums_t26 (g : GraphP) (s : StatP) (B sb m m2 lm tm em km nc rc lc tc ec kc : Nat) (na ra la ta ea ka : Option Addr) (nn nr : Int) (w W5 : World) (u2 u6 u7 u8 u9 u10 u11 u12 u13 u14 u15 u16 u17 u18 u19 u20 u21 u22 u23 u24 u25 u26 u27 u28 u29 u30 u31 u32 u33 u34 u35 u36 u37 u38 u39 u40 u41 u42 u43 u44 u45 u46 u47 u48 u49 u50 u51 u52 u53 u54 u55 u56 u57 u58 u59 u60 u61 u62 u63 u64 u65 u66 u67 u68 u69 u70 u71 u72 u73 u74 u75 u76 u77 u78 u79 u80 u81 u82 u83 u84 u85 u86 u87 u88 u89 u90 u91 u92 u93 u94 u95 u96 u97 u98 u99 u100 u101 u102 u103 u104 u105 u106 u107 u108 u109 u110 u111 u112 u113 u114 u115 u116 u117 u118 u119 u120 u121 u122 u123 u124 u125 u126 u127 u128 u129 u130 u131 u132 u133 u134 u135 u136 u137 u138 u139 u140 u141 u142 u143 u144 u145 u146 u147 u148 u149 u150 u151 u152 u153 u154 u155 u156 u157 u158 u159 u160 u161 u162 u163 u164 u165 u166 u167 u168 u169 u170 u171 u172 u173 u174 u175 u176 u177 u178 u179 u180 u181 u182 u183 u184 u185 u186 u187 u188 u189 u190 u191 u192 u193 u194 u195 u196 u197 u198 u199 u200 u201 u202 u203 u204 u205 u206 u207 u208 u209 u210 u211 u212 u213 u214 u215 u216 u217 u218 u219 u220 u221 u222 u223 u224 u225 u226 u227 u228 u229 u230 u231 u232 u233 u234 u235 u236 u237 u238 u239 u240 u241 u242 u243 u244 u245 u246 u247 u248 u249 u250 u251 u252 u253 u254 u255 u256 u257 u258 u259 u260 u261 u262 u263 u264 u265 u266 u267 u268 u269 u270 u271 u272 u273 u274 u275 u276 u277 u278 u279 u280 : Value) (wx : World) (C : Hid (SumsC g s B sb m m2 lm tm em km nc rc lc tc ec kc na ra la ta ea ka nn nr w W5)) (HBQ : Hid (Below W5.heap.size W5 wx)) :
    (tailFrom 26 (Tryz.f6.body.getD .skip)).wp Tryz.prog (bodyPost Tryz.prog Tryz.f6 fun e w' => e = .returned (.bool true) ∧ Below w.heap.size w w') { tmps := #[.agg #[.slice na m nc, .slice ra m2 rc, .int .i64 nn, .int .i64 nr], .pointer (some ⟨w.heap.size, 0, none⟩), u2, .pointer (some ⟨sb, 0, none⟩), .int .i64 0, .int .i64 (m2 : Int), u6, u7, u8, u9, u10, u11, u12, u13, u14, u15, u16, u17, u18, u19, u20, u21, u22, u23, u24, u25, u26, u27, u28, u29, u30, u31, u32, u33, u34, u35, u36, u37, u38, u39, u40, u41, u42, u43, u44, u45, u46, u47, u48, u49, u50, u51, u52, u53, u54, u55, u56, u57, u58, u59, u60, u61, u62, u63, u64, u65, u66, u67, u68, u69, u70, u71, u72, u73, u74, u75, u76, u77, u78, u79, u80, u81, u82, u83, u84, u85, u86, u87, u88, u89, u90, u91, u92, u93, u94, u95, u96, u97, u98, u99, u100, u101, u102, u103, u104, u105, u106, u107, u108, u109, u110, u111, u112, u113, u114, u115, u116, u117, u118, u119, u120, u121, u122, u123, u124, u125, u126, u127, u128, u129, u130, u131, u132, u133, u134, u135, u136, u137, u138, u139, u140, u141, u142, u143, u144, u145, u146, u147, u148, u149, u150, u151, u152, u153, u154, u155, u156, u157, u158, u159, u160, u161, u162, u163, u164, u165, u166, u167, u168, u169, u170, u171, u172, u173, u174, u175, u176, u177, u178, u179, u180, u181, u182, u183, u184, u185, u186, u187, u188, u189, u190, u191, u192, u193, u194, u195, u196, u197, u198, u199, u200, u201, u202, u203, u204, u205, u206, u207, u208, u209, u210, u211, u212, u213, u214, u215, u216, u217, u218, u219, u220, u221, u222, u223, u224, u225, u226, u227, u228, u229, u230, u231, u232, u233, u234, u235, u236, u237, u238, u239, u240, u241, u242, u243, u244, u245, u246, u247, u248, u249, u250, u251, u252, u253, u254, u255, u256, u257, u258, u259, u260, u261, u262, u263, u264, u265, u266, u267, u268, u269, u270, u271, u272, u273, u274, u275, u276, u277, u278, u279, u280], defers := [] } wx := by
  have HM := hidE (And.intro C.out.hm (And.intro C.out.hm2 True.intro))
  have HLEN := hidE C.out.len
  have HOK := hidE C.out.ok
  have HA := hidE C.out.ha
  have HFIT := hidE C.out.fit
  have HSB := hidE C.out.bx
  have HSL := hidE C.out.sl
  have HRG := hidE C.out.rg
  have HB5 := hidE C.out.b5
  have hm60 := C.out.m60
  have hm60' := C.out.m60'
  have hlb : lm ≤ 1000000 := by have := C.out.cb.l; have := HLEN.out.1; omega
  have htb : tm ≤ 1000000 := by have := C.out.cb.t; have := HLEN.out.2.1; omega
  have heb : em ≤ 1000000 := by have := C.out.cb.e; have := HLEN.out.2.2.1; omega
  have hkb : km ≤ 1000000 := by have := C.out.cb.k; have := HLEN.out.2.2.2.1; omega
  have HR := hidE C.out.hr
  have hB := C.out.hB
  obtain ⟨QQ, hQ⟩ : ∃ QQ, bodyPost Tryz.prog Tryz.f6 (fun e w' => e = .returned (.bool true) ∧ Below w.heap.size w w') = QQ := ⟨_, rfl⟩
  have HQ := hidE hQ
  rw [hQ]
  clear hQ
  conv =>
    arg 2
    whnf
  have hE0 : isum (fun x => x.2.2.2) s.ends = isum (fun r : RelP => ((labsAt g.nodes r.fr).length : Int) + (labsAt g.nodes r.tt).length) g.rels := HOK.out.ea
  obtain ⟨E, hE⟩ : ∃ i, isum (fun x : EndR => x.2.2.2) s.ends = i := ⟨_, rfl⟩
  have hE1 : E ≤ 360000 := by
    rw [← hE, hE0]
    have h1 := isum_bound (f := fun r : RelP => ((labsAt g.nodes r.fr).length : Int) + (labsAt g.nodes r.tt).length) (c := 6000) (l := g.rels) fun r _ => by
      have a1 := labsAt_le HFIT.out.kk r.fr
      have a2 := labsAt_le HFIT.out.kk r.tt
      show ((labsAt g.nodes r.fr).length : Int) + (labsAt g.nodes r.tt).length ≤ 6000
      omega
    have := HM.out.2.1
    omega
  have HE4 := hidE (And.intro hE (hE0.symm.trans hE))
  clear hE hE0
  go_wp2_with fail
  go_loopw [13, 12] (fun i r wr => ∃ (j : Nat), j ≤ em ∧ i = .int .i64 j ∧ r = .int .i64 (isum (fun x => x.2.2.2) (s.ends.take j)) ∧ Below W5.heap.size W5 wr) (fun i _ _ => em - (intOf i).toNat)
  case atStart => exact ⟨0, Nat.zero_le _, rfl, by rw [List.take_zero]; rfl, HBQ.out⟩
  case round =>
    obtain ⟨j, hj, rfl, rfl, hbr⟩ := hrel
    have HBR := hidE hbr
    have hsr := HSB.out.keep hbr
    have f4 := hsr.c4
    obtain ⟨N, hN⟩ : ∃ N, isum (fun x => x.2.2.2) (s.ends.take j) = N := ⟨_, rfl⟩
    have HN := hidE hN
    rw [hN]
    clear hN hbr hsr HBQ
    by_cases hlt : j < em
    · have hlt' : (j : Int) < em := by omega
      obtain ⟨⟨x, y, o, q⟩, hx⟩ : ∃ q, s.ends[j]? = some q := ⟨_, List.getElem?_eq_getElem (by have := HLEN.out; omega)⟩
      have hxm := List.mem_of_getElem? hx
      have HSTEP : Hid (isum (fun x => x.2.2.2) (s.ends.take (j + 1)) = N + q) := by show _ = _; rw [isum_take hx, HN.out]
      have hnn : ∀ x ∈ s.ends, 0 ≤ (fun x : EndR => x.2.2.2) x := fun x hx => by have := (HOK.out.ee x hx).1; show 0 ≤ x.2.2.2; omega
      have hq := HOK.out.ee _ hxm
      have hq1 : ¬ q < 1 := by have := hq.1; simp only at this; omega
      have hN0 : 0 ≤ N := by have := (isum_take_le (f := fun x : EndR => x.2.2.2) j hnn).1; rw [HN.out] at this; exact this
      have hN1 : N + q ≤ 360000 := by have := (isum_take_le (f := fun x : EndR => x.2.2.2) (j + 1) hnn).2; rw [HSTEP.out, HE4.out.1] at this; omega
      have HOX : Hid (okS x ∧ okS y) := ⟨(HSL.out.oe _ hxm).1, (HSL.out.oe _ hxm).2.1⟩
      have hak := HA.out.2.2.2.2.2 _ hxm
      obtain ⟨TT, hTT⟩ : ∃ i, typedI s [x] = i := ⟨_, rfl⟩
      have ht1 : ¬ TT < q := by have := hak.1; simp only at this; omega
      have HTY : Hid (typedI s [x] = TT ∧ endedI s y o [x] = q) := ⟨hTT, hak.2⟩
      obtain ⟨a0, c0', ea0, _, _, hca⟩ := HSL.out.he
      obtain ⟨rfl, rfl⟩ : ea = a0 ∧ ec = c0' := by injection ea0 with a b c; exact ⟨a, c⟩
      clear ea0
      obtain ⟨bl, off, rfl, hbl, hc⟩ := hca.resolve_left (by intro e; rw [e] at hx; simp at hx)
      have c0 := (HBR.out.cell (p := ⟨bl, off + j * 4 + 0, none⟩) hbl).trans (hc j _ hx 0 _ rfl)
      have c1 := (HBR.out.cell (p := ⟨bl, off + j * 4 + 1, none⟩) hbl).trans (hc j _ hx 1 _ rfl)
      have c2 := (HBR.out.cell (p := ⟨bl, off + j * 4 + 2, none⟩) hbl).trans (hc j _ hx 2 _ rfl)
      have c3 := (HBR.out.cell (p := ⟨bl, off + j * 4 + 3, none⟩) hbl).trans (hc j _ hx 3 _ rfl)
      rw [Nat.add_zero] at c0
      simp only at c0 c1 c2 c3
      clear hx hxm hc hca hq hbl hak hTT hnn
      go_upto_region 31 with fail
      obtain ⟨W6, hW6⟩ : ∃ W, wr.alloc (.cells #[.string x, .string y, .bool o, .int .i64 q] 64) = W := ⟨_, rfl⟩
      have r6 : Rec W6 wr.heap.size #[.string x, .string y, .bool o, .int .i64 q] 64 := by rw [← hW6]; exact rec_new _ _ _
      have b6 : Below wr.heap.size wr W6 := by rw [← hW6]; exact below_new _ _
      rw [hW6]
      have g3 := r6.cell 3 (v := .int .i64 q) rfl
      clear hW6 c0 c1 c2 c3 f4
      go_upto_region 32 with fail
      clear g3
      have HR6 := hidE r6
      have HD6 := hidE ((Below.refl W6.heap.size W6).drew)
      have HD : Hid (Below W5.heap.size W5 W6.drew) := Below.on (Below.on HBR.out b6) HD6.out
      have HSd := hidE (HSB.out.keep HD.out)
      have f0 : ∀ u : Up W6.drew, u.x.cell? ⟨sb, 0, none⟩ = some (.int .i64 (m : Int)) := fun u => u.cell HSd.out.c0
      have f1 : ∀ u : Up W6.drew, u.x.cell? ⟨sb, 1, none⟩ = some (.int .i64 (m2 : Int)) := fun u => u.cell HSd.out.c1
      have f2 : ∀ u : Up W6.drew, u.x.cell? ⟨sb, 2, none⟩ = some (.slice la lm lc) := fun u => u.cell HSd.out.c2
      have f3 : ∀ u : Up W6.drew, u.x.cell? ⟨sb, 3, none⟩ = some (.slice ta tm tc) := fun u => u.cell HSd.out.c3
      have f4 : ∀ u : Up W6.drew, u.x.cell? ⟨sb, 4, none⟩ = some (.slice (some ⟨bl, off, none⟩) em ec) := fun u => u.cell HSd.out.c4
      have f5 : ∀ u : Up W6.drew, u.x.cell? ⟨sb, 5, none⟩ = some (.slice ka km kc) := fun u => u.cell HSd.out.c5
      have b0 : ∀ u : Up W6.drew, u.x.cell? ⟨wr.heap.size, 0, none⟩ = some (.string x) := fun u => u.cell ((HR6.out.below HD6.out HR6.out.lt).cell 0 rfl)
      have b1 : ∀ u : Up W6.drew, u.x.cell? ⟨wr.heap.size, 1, none⟩ = some (.string y) := fun u => u.cell ((HR6.out.below HD6.out HR6.out.lt).cell 1 rfl)
      have b2 : ∀ u : Up W6.drew, u.x.cell? ⟨wr.heap.size, 2, none⟩ = some (.bool o) := fun u => u.cell ((HR6.out.below HD6.out HR6.out.lt).cell 2 rfl)
      have b3 : ∀ u : Up W6.drew, u.x.cell? ⟨wr.heap.size, 3, none⟩ = some (.int .i64 q) := fun u => u.cell ((HR6.out.below HD6.out HR6.out.lt).cell 3 rfl)
      have up_ne : Nonempty (Up W6.drew) := ⟨⟨W6.drew, Below.refl _ _⟩⟩
      have HB6 := hidE b6
      clear b6 r6
      refine wp_calm [([0, 1, 2, 3, 4, 5, 6, 7, 8], 9), ([], 10), ([11, 12, 13, 14, 15, 16, 17, 18, 19, 20, 22, 23], 21)] [] [24, 25] (by kernel_rfl) (by kernel_rfl) ?_
      simp only [wpCalm, wpLoud, pickL, nthL, upC_eqS]
      repeat (go_big_quiet_step (fail))
      refine wpQuiet_nil ?_
      go_wp2_with fail
      first | refine ⟨rfl, below_new W6.drew _, wpQuiet_nil ?_⟩ | refine ⟨below_new W6.drew _, wpQuiet_nil ?_⟩
      go_wp2_with (first | (go_at_call 20; refine (C.out.h20o W6.drew x HD.out HOX.out.1).mono ?_; rintro e wa ⟨rfl, hba⟩; try dsimp only))
      first | refine ⟨rfl, by first | exact hba | (rw [alloc_sizeS] at hba; exact hba), ?_⟩ | refine ⟨by first | exact hba | (rw [alloc_sizeS] at hba; exact hba), ?_⟩
      rw [HTY.out.1]
      have HBa := hidE (Below.on (Below.on HD.out (below_new W6.drew _)) hba)
      have HDa := hidE (Below.on (below_new W6.drew _) hba)
      have HSa := hidE (HSB.out.keep HBa.out)
      have HRa := hidE ((HR6.out.below HD6.out HR6.out.lt).below HDa.out (HR6.out.below HD6.out HR6.out.lt).lt)
      clear f0 f1 f2 f3 f4 f5 b0 b1 b2 b3 up_ne hba
      have f0 : ∀ u : Up wa, u.x.cell? ⟨sb, 0, none⟩ = some (.int .i64 (m : Int)) := fun u => u.cell HSa.out.c0
      have f1 : ∀ u : Up wa, u.x.cell? ⟨sb, 1, none⟩ = some (.int .i64 (m2 : Int)) := fun u => u.cell HSa.out.c1
      have f2 : ∀ u : Up wa, u.x.cell? ⟨sb, 2, none⟩ = some (.slice la lm lc) := fun u => u.cell HSa.out.c2
      have f3 : ∀ u : Up wa, u.x.cell? ⟨sb, 3, none⟩ = some (.slice ta tm tc) := fun u => u.cell HSa.out.c3
      have f4 : ∀ u : Up wa, u.x.cell? ⟨sb, 4, none⟩ = some (.slice (some ⟨bl, off, none⟩) em ec) := fun u => u.cell HSa.out.c4
      have f5 : ∀ u : Up wa, u.x.cell? ⟨sb, 5, none⟩ = some (.slice ka km kc) := fun u => u.cell HSa.out.c5
      have b0 : ∀ u : Up wa, u.x.cell? ⟨wr.heap.size, 0, none⟩ = some (.string x) := fun u => u.cell (HRa.out.cell 0 rfl)
      have b1 : ∀ u : Up wa, u.x.cell? ⟨wr.heap.size, 1, none⟩ = some (.string y) := fun u => u.cell (HRa.out.cell 1 rfl)
      have b2 : ∀ u : Up wa, u.x.cell? ⟨wr.heap.size, 2, none⟩ = some (.bool o) := fun u => u.cell (HRa.out.cell 2 rfl)
      have b3 : ∀ u : Up wa, u.x.cell? ⟨wr.heap.size, 3, none⟩ = some (.int .i64 q) := fun u => u.cell (HRa.out.cell 3 rfl)
      have up_ne : Nonempty (Up wa) := ⟨⟨wa, Below.refl _ _⟩⟩
      have ht2 : decide (TT < q) = false := decide_eq_false (by omega)
      repeat (go_big_quiet_step (fail))
      refine wpQuiet_nil ?_
      have h22 := C.out.h22 wa x y o HBa.out HOX.out.1 HOX.out.2
      rw [HTY.out.2] at h22
      go_wp2_with (first | (go_at_call 22; refine h22.mono ?_; rintro e wb ⟨rfl, hbb⟩; try dsimp only))
      first | refine wpQuiet_nil ?_ | refine ⟨rfl, hbb, wpQuiet_nil ?_⟩ | refine ⟨hbb, wpQuiet_nil ?_⟩ | refine ⟨rfl, hbb, ?_⟩ | refine ⟨hbb, ?_⟩
      have HBb := hidE (Below.on HBa.out hbb)
      clear f0 f1 f2 f3 f4 f5 b0 b1 b2 b3 up_ne hbb
      go_wp2_with fail
      go_roundw
      case rel => exact ⟨j + 1, by omega, by go_num, by rw [HSTEP.out], HBb.out⟩
      case measure => simp [intOf]; omega
    · have hlt' : ¬ (j : Int) < em := by omega
      have HNE : Hid (N = E) := by show _ = _; rw [← HN.out, List.take_of_length_le (by have := HLEN.out; omega), HE4.out.1]
      rw [HNE.out]
      have HBQ := hidE HBR.out
      clear HN HNE HBR
      go_wp2_with fail
      clear f4
      obtain ⟨ys, hyl, hyi, hys⟩ := rels_x HR.out
      obtain ⟨a1, c1', hye, hy1, hy2, hy3⟩ := hys
      obtain ⟨rfl, hye2, rfl⟩ : ra = a1 ∧ m2 = ys.length ∧ rc = c1' := by injection hye with a b c; exact ⟨a, b, c⟩
      have HY3 := hidE hy3
      have HYI := hidE (And.intro hyl hyi)
      have hrc : m2 ≤ rc ∧ rc ≤ 9223372036854775807 := ⟨by rw [hye2]; exact hy1, hy2⟩
      have HYE := hidE hye2
      clear hye hye2 hy1 hy2 hy3 hyl hyi
      obtain ⟨F, hF⟩ : ∃ F : RelP → Int, F = fun r => ((labsAt g.nodes r.fr).length : Int) + (labsAt g.nodes r.tt).length := ⟨_, rfl⟩
      have HF := hidE hF
      have HEF : Hid (isum F g.rels = E) := by show _ = _; rw [hF]; exact HE4.out.2
      have HFN : Hid (∀ r ∈ g.rels, 0 ≤ F r) := fun r _ => by rw [hF]; simp only; omega
      clear hF
      go_loopw [16, 15] (fun i r wr => ∃ (j : Nat), j ≤ m2 ∧ i = .int .i64 j ∧ r = .int .i64 (isum F (g.rels.take j)) ∧ Below W5.heap.size W5 wr) (fun i _ _ => m2 - (intOf i).toNat)
      case atStart => exact ⟨0, Nat.zero_le _, rfl, by rw [List.take_zero]; rfl, HBQ.out⟩
      case round =>
        obtain ⟨j, hj, rfl, rfl, hbr⟩ := hrel
        have HBR := hidE hbr
        have hrg := HRG.out.below hbr HRG.out.lt
        have c1 := hrg.cell 1 rfl
        obtain ⟨N, hN⟩ : ∃ N, isum F (g.rels.take j) = N := ⟨_, rfl⟩
        have HN := hidE hN
        rw [hN]
        clear hN hbr HBQ
        by_cases hlt : j < m2
        · have hlt' : (j : Int) < m2 := by omega
          have hjr : j < g.rels.length := by have := HM.out.2.1; omega
          obtain ⟨r, hr⟩ : ∃ q, g.rels[j]? = some q := ⟨_, List.getElem?_eq_getElem hjr⟩
          obtain ⟨⟨yi, yf, yt, ty, ⟨pa, pn, pc⟩⟩, hy⟩ : ∃ y, ys[j]? = some y := ⟨_, List.getElem?_eq_getElem (by have := HYE.out; omega)⟩
          have hid : yi = r.id ∧ yf = r.fr ∧ yt = r.tt ∧ ty = r.type := (HYI.out.2 j r _ hr hy).1
          have HSTEP : Hid (isum F (g.rels.take (j + 1)) = N + F r) := by show _ = _; rw [isum_take hr, HN.out]
          obtain ⟨LF, hLF⟩ : ∃ n, (labsAt g.nodes yf).length = n := ⟨_, rfl⟩
          obtain ⟨LT, hLT⟩ : ∃ n, (labsAt g.nodes yt).length = n := ⟨_, rfl⟩
          have hFr : F r = (LF : Int) + LT := by rw [HF.out, ← hLF, ← hLT, hid.2.1, hid.2.2.1]
          rw [hFr] at HSTEP
          have hN0 : 0 ≤ N := by have := (isum_take_le (f := F) j HFN.out).1; rw [HN.out] at this; exact this
          have hN1 : N + ((LF : Int) + LT) ≤ 360000 := by have := (isum_take_le (f := F) (j + 1) HFN.out).2; rw [HSTEP.out, HEF.out] at this; omega
          have hL1 : LF ≤ 3000 := by rw [← hLF]; exact labsAt_le HFIT.out.kk yf
          have hL2 : LT ≤ 3000 := by rw [← hLT]; exact labsAt_le HFIT.out.kk yt
          have H39f : Hid (∀ W, Below W5.heap.size W5 W → Calls Tryz.prog 39 #[.agg #[.slice na m nc, .slice ra m2 rc, .int .i64 nn, .int .i64 nr], .int .i64 yf] W fun e w' => e = .returned (.int .i64 (LF : Int)) ∧ Below W.heap.size W w') := fun W hb => by rw [← hLF]; exact C.out.h39 W yf hb
          have H39t : Hid (∀ W, Below W5.heap.size W5 W → Calls Tryz.prog 39 #[.agg #[.slice na m nc, .slice ra m2 rc, .int .i64 nn, .int .i64 nr], .int .i64 yt] W fun e w' => e = .returned (.int .i64 (LT : Int)) ∧ Below W.heap.size W w') := fun W hb => by rw [← hLT]; exact C.out.h39 W yt hb
          obtain ⟨bl, off, rfl, hbl, hc⟩ := HY3.out.resolve_left (by intro e; rw [e] at hy; simp at hy)
          have hbB : Below B w wr := (Below.on HB5.out HBR.out).mono hB
          have d1 := (hbB.cell (p := ⟨bl, off + j * 5 + 1, none⟩) hbl).trans (hc j _ hy 1 _ rfl)
          have d2 := (hbB.cell (p := ⟨bl, off + j * 5 + 2, none⟩) hbl).trans (hc j _ hy 2 _ rfl)
          simp only at d1 d2
          have x0 : ∀ u : Up wr, u.x.cell? ⟨w.heap.size, 0, none⟩ = some (.slice na m nc) := fun u => u.cell (hrg.cell 0 rfl)
          have x1 : ∀ u : Up wr, u.x.cell? ⟨w.heap.size, 1, none⟩ = some (.slice (some ⟨bl, off, none⟩) m2 rc) := fun u => u.cell (hrg.cell 1 rfl)
          have x2 : ∀ u : Up wr, u.x.cell? ⟨w.heap.size, 2, none⟩ = some (.int .i64 nn) := fun u => u.cell (hrg.cell 2 rfl)
          have x3 : ∀ u : Up wr, u.x.cell? ⟨w.heap.size, 3, none⟩ = some (.int .i64 nr) := fun u => u.cell (hrg.cell 3 rfl)
          have fd1 : ∀ u : Up wr, u.x.cell? ⟨bl, off + j * 5 + 1, none⟩ = some (.int .i64 yf) := fun u => u.cell d1
          have fd2 : ∀ u : Up wr, u.x.cell? ⟨bl, off + j * 5 + 2, none⟩ = some (.int .i64 yt) := fun u => u.cell d2
          have up_ne : Nonempty (Up wr) := ⟨⟨wr, Below.refl _ _⟩⟩
          clear hjr hr hy hid hFr hLF hLT hbl hc hbB d1 d2 hrg
          go_upto_region 38 with fail
          clear c1
          refine wp_up (by kernel_rfl) (by kernel_rfl) ?_
          repeat (go_big_quiet_step (first | (go_at_call_of 39 (Value.int .i64 yf); exact Up.call (H39f.out _ (Below.on HBR.out (Up.b _)))) | (go_at_call_of 39 (Value.int .i64 yt); exact Up.call (H39t.out _ (Below.on HBR.out (Up.b _))))))
          refine wpQuiet_nil ?_
          rintro w8 ⟨⟨W8, hb8⟩, rfl⟩
          have HB8 := hidE (Below.on HBR.out hb8)
          clear x0 x1 x2 x3 fd1 fd2 up_ne hb8 H39f H39t
          go_wp2_with fail
          go_roundw
          case rel => exact ⟨j + 1, by omega, by go_num, by rw [HSTEP.out], HB8.out⟩
          case measure => simp [intOf]; omega
        · have hlt' : ¬ (j : Int) < m2 := by omega
          have HNE : Hid (N = E) := by show _ = _; rw [← HN.out, List.take_of_length_le (by have := HM.out.2.1; omega), HEF.out]
          rw [HNE.out]
          have f1 := (HSB.out.keep HBR.out).c1
          clear HN HNE hrg
          go_wp2_with (go_at_call 10; refine (C.out.h10 _ HBR.out).mono ?_; rintro e W9 ⟨rfl, y1⟩; have HY := hidE (Below.on (Below.on HB5.out HBR.out) y1); clear y1)
          rw [← HQ.out]
          go_ret
          exact ⟨rfl, HY.out⟩
end Go.Proofs.YthfilnflgahcjaaGreatDoor

namespace Go.Proofs.YthfilnflgahcjaaGreatDoor
open Go.RowKit Go.Shelf Go.Maps
set_option linter.unusedVariables false
set_option linter.unusedSimpArgs false
attribute [local go_sem] Oper.semAt_some
set_option maxRecDepth 100000 in
set_option maxHeartbeats 16000000 in
theorem sums_law (g : GraphP) (v : Value) (B : Nat) (w : World) (hB : B ≤ w.heap.size) (hE : Env2 w) (h : GraphLies B w v g) (hz : LentG g) :
    Calls Tryz.prog 6 #[v] w fun e w' => e = .returned (.bool true) ∧ Below w.heap.size w w' := by
  have HE := hidE hE
  have HG := hidE h
  have HZ := hidE hz
  obtain ⟨na, nc, ra, rc, rfl, hn, hr⟩ := h
  have HN := hidE hn
  have HR := hidE hr
  obtain ⟨m, hm⟩ : ∃ n, g.nodes.length = n := ⟨_, rfl⟩
  obtain ⟨m2, hm2⟩ : ∃ n, g.rels.length = n := ⟨_, rfl⟩
  obtain ⟨nn, hnne⟩ : ∃ n, g.nn = n := ⟨_, rfl⟩
  obtain ⟨nr, hnre⟩ : ∃ n, g.nr = n := ⟨_, rfl⟩
  have HM := hidE (And.intro hm (And.intro hm2 (And.intro hnne hnre)))
  obtain ⟨sm, hsm⟩ : ∃ b, smallG g = b := ⟨_, rfl⟩
  have HSM := hidE hsm
  have H9 : Hid (∀ W, Below w.heap.size w W → Calls Tryz.prog 9 #[.agg #[.slice na m nc, .slice ra m2 rc, .int .i64 nn, .int .i64 nr]] W fun e w' => e = .returned (.bool sm) ∧ Below W.heap.size W w') := fun W hb => by
    rw [← hsm, ← hm, ← hm2, ← hnne, ← hnre]
    exact smallG_any g _ B W (Nat.le_trans hB hb.size) (HG.out.below (hb.mono hB)) HZ.out.sane
  have H13 : Hid (smallG g = true → ∀ W, Below w.heap.size w W → Calls Tryz.prog 13 #[.agg #[.slice na m nc, .slice ra m2 rc, .int .i64 nn, .int .i64 nr]] W fun e w' => e = .returned (.int .i64 (if checkPB g = true then 0 else 2)) ∧ Below W.heap.size W w') := fun hs W hb => by
    rw [← hm, ← hm2, ← hnne, ← hnre]
    exact checkP_any g B _ W (Nat.le_trans hB hb.size) (HE.out.e.below hb HE.out.e.room) (HG.out.below (hb.mono hB)) (small_mild hs) (w64_range HZ.out.nn) (w64_range HZ.out.nr) (fun r hr => (HZ.out.r r hr).1.2)
  have HWK : Hid (∀ W, Below w.heap.size w W → Calls Tryz.prog 10 #[] W fun e w' => e = .returned (.bool true) ∧ Below W.heap.size W w') := fun W hb => works_any W (HE.out.e.below hb HE.out.e.room)
  rw [hm] at HG HN ⊢
  rw [hm2] at HG HR ⊢
  rw [hnne] at HG ⊢
  rw [hnre] at HG ⊢
  clear hn hr hE hz hsm hm hm2 hnne hnre
  obtain ⟨W1, hW1⟩ : ∃ W1, w.alloc (.cells #[.slice na m nc, .slice ra m2 rc, .int .i64 nn, .int .i64 nr] 25) = W1 := ⟨_, rfl⟩
  have r1 : Rec W1 w.heap.size #[.slice na m nc, .slice ra m2 rc, .int .i64 nn, .int .i64 nr] 25 := by rw [← hW1]; exact rec_new _ _ _
  have b1 : Below w.heap.size w W1 := by rw [← hW1]; exact (Below.refl _ _).alloc (Nat.le_refl _) _
  have HW1 := hidE hW1
  have HR1 := hidE r1
  have HB1 := hidE b1
  clear hW1 b1
  have c0 := r1.cell 0 rfl
  have c1 := r1.cell 1 rfl
  have c2 := r1.cell 2 rfl
  have c3 := r1.cell 3 rfl
  clear r1
  go_enter Tryz.func6, Tryz.ntmps6
  go_upto_region 1 with fail
  try rw [HW1.out]
  go_wp2_with fail
  refine (H9.out _ HB1.out).mono ?_
  rintro e W2 ⟨rfl, hb2⟩
  have HB2 := hidE (Below.on HB1.out hb2)
  have HR2 := hidE (HR1.out.below hb2 HR1.out.lt)
  clear hb2 c0 c1 c2 c3
  cases sm with
  | false =>
    go_wp2_with (go_at_call 10; refine (HWK.out _ HB2.out).mono ?_; rintro e W4 ⟨rfl, y1⟩; have HY := hidE (Below.on HB2.out y1); clear y1)
    go_ret
    exact ⟨rfl, HY.out⟩
  | true =>
    have c0 := HR2.out.cell 0 rfl
    have c1 := HR2.out.cell 1 rfl
    have c2 := HR2.out.cell 2 rfl
    have c3 := HR2.out.cell 3 rfl
    go_wp2_with fail
    refine (H13.out HSM.out _ HB2.out).mono ?_
    rintro e W3 ⟨rfl, hb3⟩
    have HB3 := hidE (Below.on HB2.out hb3)
    have HR3 := hidE (HR2.out.below hb3 HR2.out.lt)
    clear hb3 c0 c1 c2 c3 HB2 HR2
    obtain ⟨ck, hck⟩ : ∃ b, checkPB g = b := ⟨_, rfl⟩
    have HCK := hidE hck
    rw [hck]; clear hck
    cases ck with
    | false =>
      go_wp2_with (first | (go_at_call 12; refine (num_any _ _).mono ?_; rintro e _ ⟨rfl, rfl⟩) | (go_at_call 10; refine (HWK.out _ HB3.out).mono ?_; rintro e W4 ⟨rfl, y1⟩; have HY := hidE (Below.on HB3.out y1); clear y1))
      go_ret
      exact ⟨rfl, HY.out⟩
    | true =>
      go_upto_region 3 with (first | (go_at_call 12; refine (num_any _ _).mono ?_; rintro e W4 ⟨rfl, rfl⟩))
      have hsw := (small_weighs HSM.out).1
      have hfrg : ∀ r ∈ g.rels, W64 r.fr ∧ W64 r.tt := fun r hr => (HZ.out.r r hr).1.2
      have hidg : ∀ n ∈ g.nodes, W64 n.id := fun n hn => (HZ.out.n n hn).1
      have HFR := hidE (And.intro hfrg hidg)
      have HFIT := hidE (may_fit HSM.out HCK.out hfrg hidg)
      have hm60 : m ≤ 60 := by have := HM.out.1; omega
      have hm60' : m2 ≤ 60 := by have := HM.out.2.1; omega
      have H11 : Hid (Calls Tryz.prog 11 #[.agg #[.slice na m nc, .slice ra m2 rc, .int .i64 nn, .int .i64 nr]] W4 fun e w' => ∃ s vl vt ve vk, e = .returned (.tuple #[statV s vl vt ve vk, .int .i64 0]) ∧ CntA g s ∧ CntL W4.heap.size w' vl vt ve vk s ∧ Below W4.heap.size W4 w') :=
        count_may g _ B W4 (Nat.le_trans hB HB3.out.size) (HE.out.below HB3.out) (HG.out.below (HB3.out.mono hB)) HSM.out (w64_range HZ.out.nn) (w64_range HZ.out.nr) HCK.out hfrg hidg (fun n hn q hq => ((HZ.out.n n hn).2.2 q hq).2.1)
      have c0 := HR3.out.cell 0 rfl
      have c1 := HR3.out.cell 1 rfl
      have c2 := HR3.out.cell 2 rfl
      have c3 := HR3.out.cell 3 rfl
      clear hfrg hidg hsw
      go_wp2_with fail
      refine H11.out.mono ?_
      rintro e WB ⟨s, vl, vt, ve, vk, rfl, hci, hcl, hbb⟩
      have hcb := may_b HSM.out HCK.out HFR.out.1 HFR.out.2 hci
      have hok := sums_ok hci cmpB_anti (check_nd HCK.out)
      have hst := cnt_lies hcb hcl
      have HCB := hidE hcb
      have HOK := hidE hok
      have HA := hidE (hok.asks (by have := HM.out.1; omega) (by have := HM.out.2.1; omega) HFIT.out.ll)
      obtain ⟨la, lc, rfl⟩ := hcl.l.slice
      obtain ⟨ta, tc, rfl⟩ := hcl.t.slice
      obtain ⟨ea, ec, rfl⟩ := hcl.e.slice
      obtain ⟨ka, kc, rfl⟩ := hcl.k.slice
      have hpn : s.nodes = (m : Int) := by rw [hok.n, HM.out.1]
      have hpr : s.rels = (m2 : Int) := by rw [hok.r, HM.out.2.1]
      obtain ⟨lm, hlm⟩ : ∃ n, s.labels.length = n := ⟨_, rfl⟩
      obtain ⟨tm, htm⟩ : ∃ n, s.types.length = n := ⟨_, rfl⟩
      obtain ⟨em, hem⟩ : ∃ n, s.ends.length = n := ⟨_, rfl⟩
      obtain ⟨km, hkm⟩ : ∃ n, s.keys.length = n := ⟨_, rfl⟩
      have hlb : lm ≤ 1000000 := by have := hcb.l; omega
      have htb : tm ≤ 1000000 := by have := hcb.t; omega
      have heb : em ≤ 1000000 := by have := hcb.e; omega
      have hkb : km ≤ 1000000 := by have := hcb.k; omega
      have HLEN := hidE (And.intro hlm (And.intro htm (And.intro hem (And.intro hkm (And.intro hpn hpr)))))
      have HVs : Hid (∀ va vb vc vd, statV s va vb vc vd = .agg #[.int .i64 (m : Int), .int .i64 (m2 : Int), va, vb, vc, vd]) := fun va vb vc vd => by unfold statV; rw [hpn, hpr]
      rw [hlm] at hst ⊢
      rw [htm] at hst ⊢
      rw [hem] at hst ⊢
      rw [hkm] at hst ⊢
      rw [HVs.out]
      have hcap1 := (show tm ≤ tc ∧ tc ≤ 9223372036854775807 by obtain ⟨_, _, e, r1, r2, _⟩ := hst.ht; injection e with _ e1 e2; subst e2; exact ⟨by rw [← e1]  at r1; exact r1, r2⟩)
      have HST := hidE hst
      have HBB := hidE hbb
      clear hst hbb hcl hci hcb hok hpn hpr hlm htm hem hkm c0 c1 c2 c3 H11 hcap1
      go_upto_region 4 with fail
      obtain ⟨W5, hW5⟩ : ∃ W, WB.alloc (.cells #[.int .i64 (m : Int), .int .i64 (m2 : Int), .slice la lm lc, .slice ta tm tc, .slice ea em ec, .slice ka km kc] 33) = W := ⟨_, rfl⟩
      have s5 : SBox WB.heap.size (.int .i64 (m : Int)) (.int .i64 (m2 : Int)) (.slice la lm lc) (.slice ta tm tc) (.slice ea em ec) (.slice ka km kc) W5 := by rw [← hW5]; exact sbox_new _ _ _ _ _ _ _ _
      have b5 : Below WB.heap.size WB W5 := by rw [← hW5]; exact below_new _ _
      have HB5 : Hid (Below w.heap.size w W5) := Below.on HB3.out (Below.on HBB.out b5)
      have HSB := hidE s5
      have HSL := hidE (HST.out.up b5 b5.size)
      have HRG := hidE (HR3.out.below (Below.on HBB.out b5) HR3.out.lt)
      rw [hW5]
      clear hW5 s5 b5 HST HBB HB3 HR3 HB1 HW1 HR1 H9 H13
      have C : Hid (SumsC g s B WB.heap.size m m2 lm tm em km nc rc lc tc ec kc na ra la ta ea ka nn nr w W5) := ⟨hB, HM.out.1, HM.out.2.1, hm60, hm60', HLEN.out, HOK.out, HFIT.out, HCB.out, HSB.out, HSL.out, HRG.out, HB5.out, HE.out, HG.out, HR.out⟩
      have H12 : Hid (∀ W, Calls Tryz.prog 12 #[.int .i64 0] W fun e w' => e = .returned (.int .i64 0) ∧ Below W.heap.size W w') := fun W => (num_any 0 W).mono fun e w' ⟨h1, h2⟩ => ⟨h1, by rw [h2]; exact Below.refl _ _⟩
      have f0 : ∀ u : Up W5, u.x.cell? ⟨WB.heap.size, 0, none⟩ = some (.int .i64 (m : Int)) := fun u => u.cell HSB.out.c0
      have f1 : ∀ u : Up W5, u.x.cell? ⟨WB.heap.size, 1, none⟩ = some (.int .i64 (m2 : Int)) := fun u => u.cell HSB.out.c1
      have f2 : ∀ u : Up W5, u.x.cell? ⟨WB.heap.size, 2, none⟩ = some (.slice la lm lc) := fun u => u.cell HSB.out.c2
      have f3 : ∀ u : Up W5, u.x.cell? ⟨WB.heap.size, 3, none⟩ = some (.slice ta tm tc) := fun u => u.cell HSB.out.c3
      have f4 : ∀ u : Up W5, u.x.cell? ⟨WB.heap.size, 4, none⟩ = some (.slice ea em ec) := fun u => u.cell HSB.out.c4
      have f5 : ∀ u : Up W5, u.x.cell? ⟨WB.heap.size, 5, none⟩ = some (.slice ka km kc) := fun u => u.cell HSB.out.c5
      have x0 : ∀ u : Up W5, u.x.cell? ⟨w.heap.size, 0, none⟩ = some (.slice na m nc) := fun u => u.cell (HRG.out.cell 0 rfl)
      have x1 : ∀ u : Up W5, u.x.cell? ⟨w.heap.size, 1, none⟩ = some (.slice ra m2 rc) := fun u => u.cell (HRG.out.cell 1 rfl)
      have up_ne : Nonempty (Up W5) := ⟨⟨W5, Below.refl _ _⟩⟩
      refine wp_up (by kernel_rfl) (by kernel_rfl) ?_
      repeat (go_big_quiet_step (first | (go_at_call 12; exact Up.call (H12.out _)) | (go_at_call 17; exact Up.call (C.out.h17 _ (Up.b _))) | (go_at_call 20; exact Up.call (C.out.h20n _ (Up.b _)))))
      refine wpQuiet_nil ?_
      rintro w7 ⟨⟨W7, hb7⟩, rfl⟩
      have HBQ := hidE hb7
      clear f0 f1 f2 f3 f4 f5 x0 x1 up_ne hb7 H12
      go_upto_region 6 with fail
      go_cut [5] from 17 (fun s5 W => s5 = .int .i64 0 ∧ W = w7)
      case first =>
        go_wp2_with fail
        go_meet
        case rel => exact ⟨rfl, rfl⟩
      case rest =>
        obtain ⟨rfl, rfl⟩ := hcut
        have hk := ‹∀ (a : Act) (w : World), Code.wp _ _ _ a w → _›
        refine hk _ _ ?_
        refine wp_seq (sums_e7 g s B _ m m2 lm tm em km nc rc lc tc ec kc na ra la ta ea ka nn nr w W5 _ _ _ _ _ _ _ _ _ _ _ _ _ _ _ _ _ _ _ _ _ _ _ _ _ _ _ _ _ _ _ _ _ _ _ _ _ _ _ _ _ _ _ _ _ _ _ _ _ _ _ _ _ _ _ _ _ _ _ _ _ _ _ _ _ _ _ _ _ _ _ _ _ _ _ _ _ _ _ _ _ _ _ _ _ _ _ _ _ _ _ _ _ _ _ _ _ _ _ _ _ _ _ _ _ _ _ _ _ _ _ _ _ _ _ _ _ _ _ _ _ _ _ _ _ _ _ _ _ _ _ _ _ _ _ _ _ _ _ _ _ _ _ _ _ _ _ _ _ _ _ _ _ _ _ _ _ _ _ _ _ _ _ _ _ _ _ _ _ _ _ _ _ _ _ _ _ _ _ _ _ _ _ _ _ _ _ _ _ _ _ _ _ _ _ _ _ _ _ _ _ _ _ _ _ _ _ _ _ _ _ _ _ _ _ _ _ _ _ _ _ _ _ _ _ _ _ _ _ _ _ _ _ _ _ _ _ _ _ _ _ _ _ _ _ _ _ _ _ _ _ _ _ _ _ _ _ _ _ _ _ _ _ _ _ _ _ _ _ _ _ _ _ _ _ _ _ C HBQ _ _ ?_)
        intro v2 v6 v7 v8 v9 v10 v11 v12 v13 v14 v15 v16 v17 v18 v19 v20 v21 v22 v23 v24 v25 v26 v27 v28 v29 v30 v31 v32 v33 v34 v35 v36 v37 v38 v39 v40 v41 v42 v43 v44 v45 v46 v47 v48 v49 v50 v51 v52 v53 v54 v55 v56 v57 v58 v59 v60 v61 v62 v63 v64 v65 v66 v67 v68 v69 v70 v71 v72 v73 v74 v75 v76 v77 v78 v79 v80 v81 v82 v83 v84 v85 v86 v87 v88 v89 v90 v91 v92 v93 v94 v95 v96 v97 v98 v99 v100 v101 v102 v103 v104 v105 v106 v107 v108 v109 v110 v111 v112 v113 v114 v115 v116 v117 v118 v119 v120 v121 v122 v123 v124 v125 v126 v127 v128 v129 v130 v131 v132 v133 v134 v135 v136 v137 v138 v139 v140 v141 v142 v143 v144 v145 v146 v147 v148 v149 v150 v151 v152 v153 v154 v155 v156 v157 v158 v159 v160 v161 v162 v163 v164 v165 v166 v167 v168 v169 v170 v171 v172 v173 v174 v175 v176 v177 v178 v179 v180 v181 v182 v183 v184 v185 v186 v187 v188 v189 v190 v191 v192 v193 v194 v195 v196 v197 v198 v199 v200 v201 v202 v203 v204 v205 v206 v207 v208 v209 v210 v211 v212 v213 v214 v215 v216 v217 v218 v219 v220 v221 v222 v223 v224 v225 v226 v227 v228 v229 v230 v231 v232 v233 v234 v235 v236 v237 v238 v239 v240 v241 v242 v243 v244 v245 v246 v247 v248 v249 v250 v251 v252 v253 v254 v255 v256 v257 v258 v259 v260 v261 v262 v263 v264 v265 v266 v267 v268 v269 v270 v271 v272 v273 v274 v275 v276 v277 v278 v279 v280 wa hba
        refine wp_seq (sums_e14 g s B _ m m2 lm tm em km nc rc lc tc ec kc na ra la ta ea ka nn nr w W5 v2 v6 v7 v8 v9 v10 v11 v12 v13 v14 v15 v16 v17 v18 v19 v20 v21 v22 v23 v24 v25 v26 v27 v28 v29 v30 v31 v32 v33 v34 v35 v36 v37 v38 v39 v40 v41 v42 v43 v44 v45 v46 v47 v48 v49 v50 v51 v52 v53 v54 v55 v56 v57 v58 v59 v60 v61 v62 v63 v64 v65 v66 v67 v68 v69 v70 v71 v72 v73 v74 v75 v76 v77 v78 v79 v80 v81 v82 v83 v84 v85 v86 v87 v88 v89 v90 v91 v92 v93 v94 v95 v96 v97 v98 v99 v100 v101 v102 v103 v104 v105 v106 v107 v108 v109 v110 v111 v112 v113 v114 v115 v116 v117 v118 v119 v120 v121 v122 v123 v124 v125 v126 v127 v128 v129 v130 v131 v132 v133 v134 v135 v136 v137 v138 v139 v140 v141 v142 v143 v144 v145 v146 v147 v148 v149 v150 v151 v152 v153 v154 v155 v156 v157 v158 v159 v160 v161 v162 v163 v164 v165 v166 v167 v168 v169 v170 v171 v172 v173 v174 v175 v176 v177 v178 v179 v180 v181 v182 v183 v184 v185 v186 v187 v188 v189 v190 v191 v192 v193 v194 v195 v196 v197 v198 v199 v200 v201 v202 v203 v204 v205 v206 v207 v208 v209 v210 v211 v212 v213 v214 v215 v216 v217 v218 v219 v220 v221 v222 v223 v224 v225 v226 v227 v228 v229 v230 v231 v232 v233 v234 v235 v236 v237 v238 v239 v240 v241 v242 v243 v244 v245 v246 v247 v248 v249 v250 v251 v252 v253 v254 v255 v256 v257 v258 v259 v260 v261 v262 v263 v264 v265 v266 v267 v268 v269 v270 v271 v272 v273 v274 v275 v276 v277 v278 v279 v280 _ C (hidE hba) _ _ ?_)
        intro x2 x6 x7 x8 x9 x10 x11 x12 x13 x14 x15 x16 x17 x18 x19 x20 x21 x22 x23 x24 x25 x26 x27 x28 x29 x30 x31 x32 x33 x34 x35 x36 x37 x38 x39 x40 x41 x42 x43 x44 x45 x46 x47 x48 x49 x50 x51 x52 x53 x54 x55 x56 x57 x58 x59 x60 x61 x62 x63 x64 x65 x66 x67 x68 x69 x70 x71 x72 x73 x74 x75 x76 x77 x78 x79 x80 x81 x82 x83 x84 x85 x86 x87 x88 x89 x90 x91 x92 x93 x94 x95 x96 x97 x98 x99 x100 x101 x102 x103 x104 x105 x106 x107 x108 x109 x110 x111 x112 x113 x114 x115 x116 x117 x118 x119 x120 x121 x122 x123 x124 x125 x126 x127 x128 x129 x130 x131 x132 x133 x134 x135 x136 x137 x138 x139 x140 x141 x142 x143 x144 x145 x146 x147 x148 x149 x150 x151 x152 x153 x154 x155 x156 x157 x158 x159 x160 x161 x162 x163 x164 x165 x166 x167 x168 x169 x170 x171 x172 x173 x174 x175 x176 x177 x178 x179 x180 x181 x182 x183 x184 x185 x186 x187 x188 x189 x190 x191 x192 x193 x194 x195 x196 x197 x198 x199 x200 x201 x202 x203 x204 x205 x206 x207 x208 x209 x210 x211 x212 x213 x214 x215 x216 x217 x218 x219 x220 x221 x222 x223 x224 x225 x226 x227 x228 x229 x230 x231 x232 x233 x234 x235 x236 x237 x238 x239 x240 x241 x242 x243 x244 x245 x246 x247 x248 x249 x250 x251 x252 x253 x254 x255 x256 x257 x258 x259 x260 x261 x262 x263 x264 x265 x266 x267 x268 x269 x270 x271 x272 x273 x274 x275 x276 x277 x278 x279 x280 wb hbb
        refine wp_seq (sums_e20 g s B _ m m2 lm tm em km nc rc lc tc ec kc na ra la ta ea ka nn nr w W5 x2 x6 x7 x8 x9 x10 x11 x12 x13 x14 x15 x16 x17 x18 x19 x20 x21 x22 x23 x24 x25 x26 x27 x28 x29 x30 x31 x32 x33 x34 x35 x36 x37 x38 x39 x40 x41 x42 x43 x44 x45 x46 x47 x48 x49 x50 x51 x52 x53 x54 x55 x56 x57 x58 x59 x60 x61 x62 x63 x64 x65 x66 x67 x68 x69 x70 x71 x72 x73 x74 x75 x76 x77 x78 x79 x80 x81 x82 x83 x84 x85 x86 x87 x88 x89 x90 x91 x92 x93 x94 x95 x96 x97 x98 x99 x100 x101 x102 x103 x104 x105 x106 x107 x108 x109 x110 x111 x112 x113 x114 x115 x116 x117 x118 x119 x120 x121 x122 x123 x124 x125 x126 x127 x128 x129 x130 x131 x132 x133 x134 x135 x136 x137 x138 x139 x140 x141 x142 x143 x144 x145 x146 x147 x148 x149 x150 x151 x152 x153 x154 x155 x156 x157 x158 x159 x160 x161 x162 x163 x164 x165 x166 x167 x168 x169 x170 x171 x172 x173 x174 x175 x176 x177 x178 x179 x180 x181 x182 x183 x184 x185 x186 x187 x188 x189 x190 x191 x192 x193 x194 x195 x196 x197 x198 x199 x200 x201 x202 x203 x204 x205 x206 x207 x208 x209 x210 x211 x212 x213 x214 x215 x216 x217 x218 x219 x220 x221 x222 x223 x224 x225 x226 x227 x228 x229 x230 x231 x232 x233 x234 x235 x236 x237 x238 x239 x240 x241 x242 x243 x244 x245 x246 x247 x248 x249 x250 x251 x252 x253 x254 x255 x256 x257 x258 x259 x260 x261 x262 x263 x264 x265 x266 x267 x268 x269 x270 x271 x272 x273 x274 x275 x276 x277 x278 x279 x280 _ C (hidE hbb) _ _ ?_)
        intro y2 y6 y7 y8 y9 y10 y11 y12 y13 y14 y15 y16 y17 y18 y19 y20 y21 y22 y23 y24 y25 y26 y27 y28 y29 y30 y31 y32 y33 y34 y35 y36 y37 y38 y39 y40 y41 y42 y43 y44 y45 y46 y47 y48 y49 y50 y51 y52 y53 y54 y55 y56 y57 y58 y59 y60 y61 y62 y63 y64 y65 y66 y67 y68 y69 y70 y71 y72 y73 y74 y75 y76 y77 y78 y79 y80 y81 y82 y83 y84 y85 y86 y87 y88 y89 y90 y91 y92 y93 y94 y95 y96 y97 y98 y99 y100 y101 y102 y103 y104 y105 y106 y107 y108 y109 y110 y111 y112 y113 y114 y115 y116 y117 y118 y119 y120 y121 y122 y123 y124 y125 y126 y127 y128 y129 y130 y131 y132 y133 y134 y135 y136 y137 y138 y139 y140 y141 y142 y143 y144 y145 y146 y147 y148 y149 y150 y151 y152 y153 y154 y155 y156 y157 y158 y159 y160 y161 y162 y163 y164 y165 y166 y167 y168 y169 y170 y171 y172 y173 y174 y175 y176 y177 y178 y179 y180 y181 y182 y183 y184 y185 y186 y187 y188 y189 y190 y191 y192 y193 y194 y195 y196 y197 y198 y199 y200 y201 y202 y203 y204 y205 y206 y207 y208 y209 y210 y211 y212 y213 y214 y215 y216 y217 y218 y219 y220 y221 y222 y223 y224 y225 y226 y227 y228 y229 y230 y231 y232 y233 y234 y235 y236 y237 y238 y239 y240 y241 y242 y243 y244 y245 y246 y247 y248 y249 y250 y251 y252 y253 y254 y255 y256 y257 y258 y259 y260 y261 y262 y263 y264 y265 y266 y267 y268 y269 y270 y271 y272 y273 y274 y275 y276 y277 y278 y279 y280 wd hbd
        exact sums_t26 g s B _ m m2 lm tm em km nc rc lc tc ec kc na ra la ta ea ka nn nr w W5 y2 y6 y7 y8 y9 y10 y11 y12 y13 y14 y15 y16 y17 y18 y19 y20 y21 y22 y23 y24 y25 y26 y27 y28 y29 y30 y31 y32 y33 y34 y35 y36 y37 y38 y39 y40 y41 y42 y43 y44 y45 y46 y47 y48 y49 y50 y51 y52 y53 y54 y55 y56 y57 y58 y59 y60 y61 y62 y63 y64 y65 y66 y67 y68 y69 y70 y71 y72 y73 y74 y75 y76 y77 y78 y79 y80 y81 y82 y83 y84 y85 y86 y87 y88 y89 y90 y91 y92 y93 y94 y95 y96 y97 y98 y99 y100 y101 y102 y103 y104 y105 y106 y107 y108 y109 y110 y111 y112 y113 y114 y115 y116 y117 y118 y119 y120 y121 y122 y123 y124 y125 y126 y127 y128 y129 y130 y131 y132 y133 y134 y135 y136 y137 y138 y139 y140 y141 y142 y143 y144 y145 y146 y147 y148 y149 y150 y151 y152 y153 y154 y155 y156 y157 y158 y159 y160 y161 y162 y163 y164 y165 y166 y167 y168 y169 y170 y171 y172 y173 y174 y175 y176 y177 y178 y179 y180 y181 y182 y183 y184 y185 y186 y187 y188 y189 y190 y191 y192 y193 y194 y195 y196 y197 y198 y199 y200 y201 y202 y203 y204 y205 y206 y207 y208 y209 y210 y211 y212 y213 y214 y215 y216 y217 y218 y219 y220 y221 y222 y223 y224 y225 y226 y227 y228 y229 y230 y231 y232 y233 y234 y235 y236 y237 y238 y239 y240 y241 y242 y243 y244 y245 y246 y247 y248 y249 y250 y251 y252 y253 y254 y255 y256 y257 y258 y259 y260 y261 y262 y263 y264 y265 y266 y267 y268 y269 y270 y271 y272 y273 y274 y275 y276 y277 y278 y279 y280 _ C (hidE hbd)
end Go.Proofs.YthfilnflgahcjaaGreatDoor

