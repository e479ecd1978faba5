/- What StatsSums' walk stands on. StatsSums: the types. -/
import Derived.Test.YthfilnflgahcjaaGreatDoorJoin34
import Derived.Test.YthfilnflgahcjaaGreatDoorJoin35
import Derived.Test.YthfilnflgahcjaaGreatDoorJoin25
import Derived.Test.YthfilnflgahcjaaGreatDoorJoin4
import Derived.Test.YthfilnflgahcjaaGreatDoorJoin3
import Derived.Test.YthfilnflgahcjaaGreatDoorJoin26
namespace Go.Proofs.YthfilnflgahcjaaGreatDoor
open Go.RowKit Go.Shelf Go.Maps
set_option linter.unusedVariables false
set_option linter.unusedSimpArgs false
attribute [local go_sem] Oper.semAt_some
theorem alloc_sizeS (W : World) (o : Obj) : (W.alloc o).heap.size = W.heap.size + 1 := by simp
theorem upC_eqS (w : World) : upC w = fun w' => ∃ u : Up w, w' = u.x := rfl
theorem pair_at {α : Type} {R : α → α → Prop} {xs : List α} (h : xs.Pairwise R) {i j : Nat} {a b : α} (ha : xs[i]? = some a) (hb : xs[j]? = some b) (hij : i < j) : R a b := by
  obtain ⟨h1, e1⟩ := List.getElem?_eq_some_iff.1 ha
  obtain ⟨h2, e2⟩ := List.getElem?_eq_some_iff.1 hb
  have := List.pairwise_iff_getElem.1 h i j h1 h2 hij
  rw [e1, e2] at this
  exact this
theorem may_fit {g : GraphP} (hs : smallG g = true) (hok : checkPB g = true) (hfr : ∀ r ∈ g.rels, W64 r.fr ∧ W64 r.tt) (hid : ∀ n ∈ g.nodes, W64 n.id) : CntFit txG g 900000 3000 := by
  have hk := hok
  simp only [checkPB, Bool.and_eq_true] at hk
  obtain ⟨_, ⟨h1, _⟩, h3, _⟩ := hk
  exact small_fit txG hs (fun n hn => by have := labelsB_bytes h3 n hn; omega) hfr (riseI_all h1).2 hid
theorem less_up {a b : ByteArray} (h : cmpB a b < 0) : Op.bytesLess a.toList b.toList = true := by
  rw [less_cmp]; simpa using h
/-- A graph that may be, its counts, and where they lie. -/
structure SumsC (g : GraphP) (s : StatP) (B sb m m2 lm tm em km nc rc lc tc ec kc : Nat) (na ra la ta ea ka : Option Addr) (nn nr : Int) (w W5 : World) : Prop where
  hB : B ≤ w.heap.size
  hm : g.nodes.length = m
  hm2 : g.rels.length = m2
  m60 : m ≤ 60
  m60' : m2 ≤ 60
  len : s.labels.length = lm ∧ s.types.length = tm ∧ s.ends.length = em ∧ s.keys.length = km ∧ s.nodes = (m : Int) ∧ s.rels = (m2 : Int)
  ok : SumsOk g s
  fit : CntFit txG g 900000 3000
  cb : CntB s
  bx : SBox sb (.int .i64 (m : Int)) (.int .i64 (m2 : Int)) (.slice la lm lc) (.slice ta tm tc) (.slice ea em ec) (.slice ka km kc) W5
  sl : StatL W5.heap.size W5 (.slice la lm lc) (.slice ta tm tc) (.slice ea em ec) (.slice ka km kc) s
  rg : Rec W5 w.heap.size #[.slice na m nc, .slice ra m2 rc, .int .i64 nn, .int .i64 nr] 25
  b5 : Below w.heap.size w W5
  he : Env2 w
  hg : GraphLies B w (.agg #[.slice na m nc, .slice ra m2 rc, .int .i64 nn, .int .i64 nr]) g
  hr : RelsLie B w (.slice ra m2 rc) g.rels
section
variable {g : GraphP} {s : StatP} {B sb m m2 lm tm em km nc rc lc tc ec kc : Nat} {na ra la ta ea ka : Option Addr} {nn nr : Int} {w W5 : World}
theorem SumsC.vs (C : SumsC g s B sb m m2 lm tm em km nc rc lc tc ec kc na ra la ta ea ka nn nr w W5) (va vb vc vd : Value) : statV s va vb vc vd = .agg #[.int .i64 (m : Int), .int .i64 (m2 : Int), va, vb, vc, vd] := by
  unfold statV; rw [C.len.2.2.2.2.1, C.len.2.2.2.2.2]
abbrev AskT (s : StatP) : Prop := cutI s.nodes = s.nodes ∧ typedI s [] = s.rels ∧ (∀ x ∈ s.types, typedI s [x.1, x.1] = x.2) ∧ (∀ x ∈ s.labels, labelledI s [x.1] = x.2) ∧ (∀ x ∈ s.keys, x.2.2.1 ≤ labelledI s [x.1] ∧ 1 ≤ seekI s x.1 x.2.1) ∧ ∀ x ∈ s.ends, x.2.2.2 ≤ typedI s [x.1] ∧ endedI s x.2.1 x.2.2.1 [x.1] = x.2.2.2
theorem SumsC.ha (C : SumsC g s B sb m m2 lm tm em km nc rc lc tc ec kc na ra la ta ea ka nn nr w W5) : AskT s := C.ok.asks (by have := C.hm; have := C.m60; omega) (by have := C.hm2; have := C.m60'; omega) C.fit.ll
theorem SumsC.h17 (C : SumsC g s B sb m m2 lm tm em km nc rc lc tc ec kc na ra la ta ea ka nn nr w W5) (W : World) (hb : Below W5.heap.size W5 W) : Calls Tryz.prog 17 #[.agg #[.int .i64 (m : Int), .int .i64 (m2 : Int), .slice la lm lc, .slice ta tm tc, .slice ea em ec, .slice ka km kc]] W fun e w' => e = .returned (.int .i64 (m : Int)) ∧ Below W.heap.size W w' := by
  have h := all_any s _ _ _ _ _ W (C.sl.keep hb)
  rwa [C.vs, C.ha.1, C.len.2.2.2.2.1] at h
theorem SumsC.h20n (C : SumsC g s B sb m m2 lm tm em km nc rc lc tc ec kc na ra la ta ea ka nn nr w W5) (W : World) (hb : Below W5.heap.size W5 W) : Calls Tryz.prog 20 #[.agg #[.int .i64 (m : Int), .int .i64 (m2 : Int), .slice la lm lc, .slice ta tm tc, .slice ea em ec, .slice ka km kc], .slice none 0 0] W fun e w' => e = .returned (.int .i64 (m2 : Int)) ∧ Below W.heap.size W w' := by
  have h := typed_any s _ _ _ _ _ [] _ W hb.size (C.sl.keep hb) (srow_nil 1 strE _ _) (fun x hx => by simp at hx) (by simp)
  rwa [C.vs, C.ha.2.1, C.len.2.2.2.2.2] at h
theorem SumsC.h20 (C : SumsC g s B sb m m2 lm tm em km nc rc lc tc ec kc na ra la ta ea ka nn nr w W5) (W : World) (x : ByteArray) (hb : Below W5.heap.size W5 W) (hx : okS x) : Calls Tryz.prog 20 #[.agg #[.int .i64 (m : Int), .int .i64 (m2 : Int), .slice la lm lc, .slice ta tm tc, .slice ea em ec, .slice ka km kc], .slice (some ⟨W.heap.size, 0, none⟩) 2 2] (W.alloc (.cells #[.string x, .string x] 9)) fun e w' => e = .returned (.int .i64 (typedI s [x, x])) ∧ Below (W.alloc (.cells #[.string x, .string x] 9)).heap.size (W.alloc (.cells #[.string x, .string x] 9)) w' := by
  have hn := below_new W (.cells #[.string x, .string x] 9)
  have h := typed_any s _ _ _ _ _ [x, x] _ _ (Nat.le_refl _) (C.sl.up (Below.on hb hn) (Below.on hb hn).size) (srow_new (k := 1) (enc := strE) (fun _ => rfl) W [x, x] #[.string x, .string x] 9 rfl (by simp)) (fun y hy => by simp only [List.mem_cons, List.not_mem_nil, or_false, or_self] at hy; rw [hy]; exact hx) (by simp)
  rwa [C.vs] at h
theorem SumsC.h20o (C : SumsC g s B sb m m2 lm tm em km nc rc lc tc ec kc na ra la ta ea ka nn nr w W5) (W : World) (x : ByteArray) (hb : Below W5.heap.size W5 W) (hx : okS x) : Calls Tryz.prog 20 #[.agg #[.int .i64 (m : Int), .int .i64 (m2 : Int), .slice la lm lc, .slice ta tm tc, .slice ea em ec, .slice ka km kc], .slice (some ⟨W.heap.size, 0, none⟩) 1 1] (W.alloc (.cells #[.string x] 9)) fun e w' => e = .returned (.int .i64 (typedI s [x])) ∧ Below (W.alloc (.cells #[.string x] 9)).heap.size (W.alloc (.cells #[.string x] 9)) w' := by
  have hn := below_new W (.cells #[.string x] 9)
  have h := typed_any s _ _ _ _ _ [x] _ _ (Nat.le_refl _) (C.sl.up (Below.on hb hn) (Below.on hb hn).size) (srow_new (k := 1) (enc := strE) (fun _ => rfl) W [x] #[.string x] 9 rfl (by simp)) (fun y hy => by rw [List.mem_singleton.1 hy]; exact hx) (by simp)
  rwa [C.vs] at h
theorem SumsC.h19 (C : SumsC g s B sb m m2 lm tm em km nc rc lc tc ec kc na ra la ta ea ka nn nr w W5) (W : World) (x : ByteArray) (hb : Below W5.heap.size W5 W) (hx : okS x) : Calls Tryz.prog 19 #[.agg #[.int .i64 (m : Int), .int .i64 (m2 : Int), .slice la lm lc, .slice ta tm tc, .slice ea em ec, .slice ka km kc], .slice (some ⟨W.heap.size, 0, none⟩) 1 1] (W.alloc (.cells #[.string x] 9)) fun e w' => e = .returned (.int .i64 (labelledI s [x])) ∧ Below (W.alloc (.cells #[.string x] 9)).heap.size (W.alloc (.cells #[.string x] 9)) w' := by
  have hn := below_new W (.cells #[.string x] 9)
  have h := labelled_any s _ _ _ _ _ [x] _ _ (Nat.le_refl _) (C.sl.up (Below.on hb hn) (Below.on hb hn).size) (srow_new (k := 1) (enc := strE) (fun _ => rfl) W [x] #[.string x] 9 rfl (by simp)) (fun y hy => by rw [List.mem_singleton.1 hy]; exact hx) (by simp)
  rwa [C.vs] at h
theorem SumsC.h24 (C : SumsC g s B sb m m2 lm tm em km nc rc lc tc ec kc na ra la ta ea ka nn nr w W5) (W : World) (x y : ByteArray) (hb : Below W5.heap.size W5 W) (hx : okS x) (hy : okS y) : Calls Tryz.prog 24 #[.agg #[.int .i64 (m : Int), .int .i64 (m2 : Int), .slice la lm lc, .slice ta tm tc, .slice ea em ec, .slice ka km kc], .string x, .string y] W fun e w' => e = .returned (.int .i64 (seekI s x y)) ∧ Below W.heap.size W w' := by
  have h := seek_any s _ _ _ _ x y _ W hb.size (C.sl.keep hb) hx hy
  rwa [C.vs] at h
theorem SumsC.h22 (C : SumsC g s B sb m m2 lm tm em km nc rc lc tc ec kc na ra la ta ea ka nn nr w W5) (W : World) (x y : ByteArray) (o : Bool) (hb : Below W5.heap.size W5 W) (hx : okS x) (hy : okS y) : Calls Tryz.prog 22 #[.agg #[.int .i64 (m : Int), .int .i64 (m2 : Int), .slice la lm lc, .slice ta tm tc, .slice ea em ec, .slice ka km kc], .string x, .string y, .bool o] W fun e w' => e = .returned (.int .i64 (endedI s y o [x])) ∧ Below W.heap.size W w' := by
  have h := ended_any s _ _ _ _ x y o _ W hb.size (C.sl.keep hb) hx hy
  rwa [C.vs] at h
theorem SumsC.h39 (C : SumsC g s B sb m m2 lm tm em km nc rc lc tc ec kc na ra la ta ea ka nn nr w W5) (W : World) (i : Int) (hb : Below W5.heap.size W5 W) : Calls Tryz.prog 39 #[.agg #[.slice na m nc, .slice ra m2 rc, .int .i64 nn, .int .i64 nr], .int .i64 i] W fun e w' => e = .returned (.int .i64 ((labsAt g.nodes i).length : Int)) ∧ Below W.heap.size W w' :=
  labels39_any g i _ B W (Nat.le_trans C.hB (Below.on C.b5 hb).size) (C.hg.below ((Below.on C.b5 hb).mono C.hB)) (by have := C.hm; have := C.m60; omega)
theorem SumsC.h10 (C : SumsC g s B sb m m2 lm tm em km nc rc lc tc ec kc na ra la ta ea ka nn nr w W5) (W : World) (hb : Below W5.heap.size W5 W) : Calls Tryz.prog 10 #[] W fun e w' => e = .returned (.bool true) ∧ Below W.heap.size W w' :=
  works_any W (C.he.e.below (Below.on C.b5 hb) C.he.e.room)
end
end Go.Proofs.YthfilnflgahcjaaGreatDoor

namespace Go.Proofs.YthfilnflgahcjaaGreatDoor
open Go.RowKit Go.Shelf Go.Maps
set_option linter.unusedVariables false
set_option linter.unusedSimpArgs false
attribute [local go_sem] Oper.semAt_some
set_option maxRecDepth 100000 in
set_option maxHeartbeats 16000000 in
theorem sums_e7 (g : GraphP) (s : StatP) (B sb m m2 lm tm em km nc rc lc tc ec kc : Nat) (na ra la ta ea ka : Option Addr) (nn nr : Int) (w W5 : World) (u2 u6 u7 u8 u9 u10 u11 u12 u13 u14 u15 u16 u17 u18 u19 u20 u21 u22 u23 u24 u25 u26 u27 u28 u29 u30 u31 u32 u33 u34 u35 u36 u37 u38 u39 u40 u41 u42 u43 u44 u45 u46 u47 u48 u49 u50 u51 u52 u53 u54 u55 u56 u57 u58 u59 u60 u61 u62 u63 u64 u65 u66 u67 u68 u69 u70 u71 u72 u73 u74 u75 u76 u77 u78 u79 u80 u81 u82 u83 u84 u85 u86 u87 u88 u89 u90 u91 u92 u93 u94 u95 u96 u97 u98 u99 u100 u101 u102 u103 u104 u105 u106 u107 u108 u109 u110 u111 u112 u113 u114 u115 u116 u117 u118 u119 u120 u121 u122 u123 u124 u125 u126 u127 u128 u129 u130 u131 u132 u133 u134 u135 u136 u137 u138 u139 u140 u141 u142 u143 u144 u145 u146 u147 u148 u149 u150 u151 u152 u153 u154 u155 u156 u157 u158 u159 u160 u161 u162 u163 u164 u165 u166 u167 u168 u169 u170 u171 u172 u173 u174 u175 u176 u177 u178 u179 u180 u181 u182 u183 u184 u185 u186 u187 u188 u189 u190 u191 u192 u193 u194 u195 u196 u197 u198 u199 u200 u201 u202 u203 u204 u205 u206 u207 u208 u209 u210 u211 u212 u213 u214 u215 u216 u217 u218 u219 u220 u221 u222 u223 u224 u225 u226 u227 u228 u229 u230 u231 u232 u233 u234 u235 u236 u237 u238 u239 u240 u241 u242 u243 u244 u245 u246 u247 u248 u249 u250 u251 u252 u253 u254 u255 u256 u257 u258 u259 u260 u261 u262 u263 u264 u265 u266 u267 u268 u269 u270 u271 u272 u273 u274 u275 u276 u277 u278 u279 u280 : Value) (wx : World) (C : Hid (SumsC g s B sb m m2 lm tm em km nc rc lc tc ec kc na ra la ta ea ka nn nr w W5)) (HBQ : Hid (Below W5.heap.size W5 wx))
    (Q : Exit → Act → World → Prop) (K : Act → World → Prop) (hK : ∀ (v2 v6 v7 v8 v9 v10 v11 v12 v13 v14 v15 v16 v17 v18 v19 v20 v21 v22 v23 v24 v25 v26 v27 v28 v29 v30 v31 v32 v33 v34 v35 v36 v37 v38 v39 v40 v41 v42 v43 v44 v45 v46 v47 v48 v49 v50 v51 v52 v53 v54 v55 v56 v57 v58 v59 v60 v61 v62 v63 v64 v65 v66 v67 v68 v69 v70 v71 v72 v73 v74 v75 v76 v77 v78 v79 v80 v81 v82 v83 v84 v85 v86 v87 v88 v89 v90 v91 v92 v93 v94 v95 v96 v97 v98 v99 v100 v101 v102 v103 v104 v105 v106 v107 v108 v109 v110 v111 v112 v113 v114 v115 v116 v117 v118 v119 v120 v121 v122 v123 v124 v125 v126 v127 v128 v129 v130 v131 v132 v133 v134 v135 v136 v137 v138 v139 v140 v141 v142 v143 v144 v145 v146 v147 v148 v149 v150 v151 v152 v153 v154 v155 v156 v157 v158 v159 v160 v161 v162 v163 v164 v165 v166 v167 v168 v169 v170 v171 v172 v173 v174 v175 v176 v177 v178 v179 v180 v181 v182 v183 v184 v185 v186 v187 v188 v189 v190 v191 v192 v193 v194 v195 v196 v197 v198 v199 v200 v201 v202 v203 v204 v205 v206 v207 v208 v209 v210 v211 v212 v213 v214 v215 v216 v217 v218 v219 v220 v221 v222 v223 v224 v225 v226 v227 v228 v229 v230 v231 v232 v233 v234 v235 v236 v237 v238 v239 v240 v241 v242 v243 v244 v245 v246 v247 v248 v249 v250 v251 v252 v253 v254 v255 v256 v257 v258 v259 v260 v261 v262 v263 v264 v265 v266 v267 v268 v269 v270 v271 v272 v273 v274 v275 v276 v277 v278 v279 v280 : Value) (w' : World), Below W5.heap.size W5 w' → K { tmps := #[.agg #[.slice na m nc, .slice ra m2 rc, .int .i64 nn, .int .i64 nr], .pointer (some ⟨w.heap.size, 0, none⟩), v2, .pointer (some ⟨sb, 0, none⟩), .int .i64 0, .int .i64 (m2 : Int), v6, v7, v8, v9, v10, v11, v12, v13, v14, v15, v16, v17, v18, v19, v20, v21, v22, v23, v24, v25, v26, v27, v28, v29, v30, v31, v32, v33, v34, v35, v36, v37, v38, v39, v40, v41, v42, v43, v44, v45, v46, v47, v48, v49, v50, v51, v52, v53, v54, v55, v56, v57, v58, v59, v60, v61, v62, v63, v64, v65, v66, v67, v68, v69, v70, v71, v72, v73, v74, v75, v76, v77, v78, v79, v80, v81, v82, v83, v84, v85, v86, v87, v88, v89, v90, v91, v92, v93, v94, v95, v96, v97, v98, v99, v100, v101, v102, v103, v104, v105, v106, v107, v108, v109, v110, v111, v112, v113, v114, v115, v116, v117, v118, v119, v120, v121, v122, v123, v124, v125, v126, v127, v128, v129, v130, v131, v132, v133, v134, v135, v136, v137, v138, v139, v140, v141, v142, v143, v144, v145, v146, v147, v148, v149, v150, v151, v152, v153, v154, v155, v156, v157, v158, v159, v160, v161, v162, v163, v164, v165, v166, v167, v168, v169, v170, v171, v172, v173, v174, v175, v176, v177, v178, v179, v180, v181, v182, v183, v184, v185, v186, v187, v188, v189, v190, v191, v192, v193, v194, v195, v196, v197, v198, v199, v200, v201, v202, v203, v204, v205, v206, v207, v208, v209, v210, v211, v212, v213, v214, v215, v216, v217, v218, v219, v220, v221, v222, v223, v224, v225, v226, v227, v228, v229, v230, v231, v232, v233, v234, v235, v236, v237, v238, v239, v240, v241, v242, v243, v244, v245, v246, v247, v248, v249, v250, v251, v252, v253, v254, v255, v256, v257, v258, v259, v260, v261, v262, v263, v264, v265, v266, v267, v268, v269, v270, v271, v272, v273, v274, v275, v276, v277, v278, v279, v280], defers := [] } w') :
    (elemAt 7 (Tryz.f6.body.getD .skip)).wp Tryz.prog (Exit.then K Q) { tmps := #[.agg #[.slice na m nc, .slice ra m2 rc, .int .i64 nn, .int .i64 nr], .pointer (some ⟨w.heap.size, 0, none⟩), u2, .pointer (some ⟨sb, 0, none⟩), .int .i64 0, .int .i64 0, u6, u7, u8, u9, u10, u11, u12, u13, u14, u15, u16, u17, u18, u19, u20, u21, u22, u23, u24, u25, u26, u27, u28, u29, u30, u31, u32, u33, u34, u35, u36, u37, u38, u39, u40, u41, u42, u43, u44, u45, u46, u47, u48, u49, u50, u51, u52, u53, u54, u55, u56, u57, u58, u59, u60, u61, u62, u63, u64, u65, u66, u67, u68, u69, u70, u71, u72, u73, u74, u75, u76, u77, u78, u79, u80, u81, u82, u83, u84, u85, u86, u87, u88, u89, u90, u91, u92, u93, u94, u95, u96, u97, u98, u99, u100, u101, u102, u103, u104, u105, u106, u107, u108, u109, u110, u111, u112, u113, u114, u115, u116, u117, u118, u119, u120, u121, u122, u123, u124, u125, u126, u127, u128, u129, u130, u131, u132, u133, u134, u135, u136, u137, u138, u139, u140, u141, u142, u143, u144, u145, u146, u147, u148, u149, u150, u151, u152, u153, u154, u155, u156, u157, u158, u159, u160, u161, u162, u163, u164, u165, u166, u167, u168, u169, u170, u171, u172, u173, u174, u175, u176, u177, u178, u179, u180, u181, u182, u183, u184, u185, u186, u187, u188, u189, u190, u191, u192, u193, u194, u195, u196, u197, u198, u199, u200, u201, u202, u203, u204, u205, u206, u207, u208, u209, u210, u211, u212, u213, u214, u215, u216, u217, u218, u219, u220, u221, u222, u223, u224, u225, u226, u227, u228, u229, u230, u231, u232, u233, u234, u235, u236, u237, u238, u239, u240, u241, u242, u243, u244, u245, u246, u247, u248, u249, u250, u251, u252, u253, u254, u255, u256, u257, u258, u259, u260, u261, u262, u263, u264, u265, u266, u267, u268, u269, u270, u271, u272, u273, u274, u275, u276, u277, u278, u279, u280], defers := [] } wx := by
  have HK : Hid (∀ (v2 v6 v7 v8 v9 v10 v11 v12 v13 v14 v15 v16 v17 v18 v19 v20 v21 v22 v23 v24 v25 v26 v27 v28 v29 v30 v31 v32 v33 v34 v35 v36 v37 v38 v39 v40 v41 v42 v43 v44 v45 v46 v47 v48 v49 v50 v51 v52 v53 v54 v55 v56 v57 v58 v59 v60 v61 v62 v63 v64 v65 v66 v67 v68 v69 v70 v71 v72 v73 v74 v75 v76 v77 v78 v79 v80 v81 v82 v83 v84 v85 v86 v87 v88 v89 v90 v91 v92 v93 v94 v95 v96 v97 v98 v99 v100 v101 v102 v103 v104 v105 v106 v107 v108 v109 v110 v111 v112 v113 v114 v115 v116 v117 v118 v119 v120 v121 v122 v123 v124 v125 v126 v127 v128 v129 v130 v131 v132 v133 v134 v135 v136 v137 v138 v139 v140 v141 v142 v143 v144 v145 v146 v147 v148 v149 v150 v151 v152 v153 v154 v155 v156 v157 v158 v159 v160 v161 v162 v163 v164 v165 v166 v167 v168 v169 v170 v171 v172 v173 v174 v175 v176 v177 v178 v179 v180 v181 v182 v183 v184 v185 v186 v187 v188 v189 v190 v191 v192 v193 v194 v195 v196 v197 v198 v199 v200 v201 v202 v203 v204 v205 v206 v207 v208 v209 v210 v211 v212 v213 v214 v215 v216 v217 v218 v219 v220 v221 v222 v223 v224 v225 v226 v227 v228 v229 v230 v231 v232 v233 v234 v235 v236 v237 v238 v239 v240 v241 v242 v243 v244 v245 v246 v247 v248 v249 v250 v251 v252 v253 v254 v255 v256 v257 v258 v259 v260 v261 v262 v263 v264 v265 v266 v267 v268 v269 v270 v271 v272 v273 v274 v275 v276 v277 v278 v279 v280 : Value) (w' : World), Below W5.heap.size W5 w' → Exit.then K Q .normal { tmps := #[.agg #[.slice na m nc, .slice ra m2 rc, .int .i64 nn, .int .i64 nr], .pointer (some ⟨w.heap.size, 0, none⟩), v2, .pointer (some ⟨sb, 0, none⟩), .int .i64 0, .int .i64 (m2 : Int), v6, v7, v8, v9, v10, v11, v12, v13, v14, v15, v16, v17, v18, v19, v20, v21, v22, v23, v24, v25, v26, v27, v28, v29, v30, v31, v32, v33, v34, v35, v36, v37, v38, v39, v40, v41, v42, v43, v44, v45, v46, v47, v48, v49, v50, v51, v52, v53, v54, v55, v56, v57, v58, v59, v60, v61, v62, v63, v64, v65, v66, v67, v68, v69, v70, v71, v72, v73, v74, v75, v76, v77, v78, v79, v80, v81, v82, v83, v84, v85, v86, v87, v88, v89, v90, v91, v92, v93, v94, v95, v96, v97, v98, v99, v100, v101, v102, v103, v104, v105, v106, v107, v108, v109, v110, v111, v112, v113, v114, v115, v116, v117, v118, v119, v120, v121, v122, v123, v124, v125, v126, v127, v128, v129, v130, v131, v132, v133, v134, v135, v136, v137, v138, v139, v140, v141, v142, v143, v144, v145, v146, v147, v148, v149, v150, v151, v152, v153, v154, v155, v156, v157, v158, v159, v160, v161, v162, v163, v164, v165, v166, v167, v168, v169, v170, v171, v172, v173, v174, v175, v176, v177, v178, v179, v180, v181, v182, v183, v184, v185, v186, v187, v188, v189, v190, v191, v192, v193, v194, v195, v196, v197, v198, v199, v200, v201, v202, v203, v204, v205, v206, v207, v208, v209, v210, v211, v212, v213, v214, v215, v216, v217, v218, v219, v220, v221, v222, v223, v224, v225, v226, v227, v228, v229, v230, v231, v232, v233, v234, v235, v236, v237, v238, v239, v240, v241, v242, v243, v244, v245, v246, v247, v248, v249, v250, v251, v252, v253, v254, v255, v256, v257, v258, v259, v260, v261, v262, v263, v264, v265, v266, v267, v268, v269, v270, v271, v272, v273, v274, v275, v276, v277, v278, v279, v280], defers := [] } w') := hK
  clear hK
  obtain ⟨QQ, hQ⟩ : ∃ QQ, Exit.then K Q = QQ := ⟨_, rfl⟩
  rw [hQ] at HK ⊢
  clear hQ Q K
  have HM := hidE (And.intro C.out.hm (And.intro C.out.hm2 True.intro))
  have HLEN := hidE C.out.len
  have HOK := hidE C.out.ok
  have HA := hidE C.out.ha
  have HFIT := hidE C.out.fit
  have HSB := hidE C.out.bx
  have HSL := hidE C.out.sl
  have HRG := hidE C.out.rg
  have HB5 := hidE C.out.b5
  have hm60 := C.out.m60
  have hm60' := C.out.m60'
  have hlb : lm ≤ 1000000 := by have := C.out.cb.l; have := HLEN.out.1; omega
  have htb : tm ≤ 1000000 := by have := C.out.cb.t; have := HLEN.out.2.1; omega
  have heb : em ≤ 1000000 := by have := C.out.cb.e; have := HLEN.out.2.2.1; omega
  have hkb : km ≤ 1000000 := by have := C.out.cb.k; have := HLEN.out.2.2.2.1; omega
  conv =>
    arg 2
    whnf
  go_wp2_with fail
  go_loopw [6, 5] (fun i r wr => ∃ (j : Nat), j ≤ tm ∧ i = .int .i64 j ∧ r = .int .i64 (isum (fun x => x.2) (s.types.take j)) ∧ Below W5.heap.size W5 wr) (fun i _ _ => tm - (intOf i).toNat)
  case atStart => exact ⟨0, Nat.zero_le _, rfl, by rw [List.take_zero]; rfl, HBQ.out⟩
  case round =>
    obtain ⟨j, hj, rfl, rfl, hbr⟩ := hrel
    have HBR := hidE hbr
    have hsr := HSB.out.keep hbr
    have f3 := hsr.c3
    obtain ⟨N, hN⟩ : ∃ N, isum (fun x => x.2) (s.types.take j) = N := ⟨_, rfl⟩
    have HN := hidE hN
    rw [hN]
    clear hN hbr hsr HBQ
    by_cases hlt : j < tm
    · have hlt' : (j : Int) < tm := by omega
      obtain ⟨⟨x, q⟩, hx⟩ : ∃ q, s.types[j]? = some q := ⟨_, List.getElem?_eq_getElem (by have := HLEN.out; omega)⟩
      have hxm := List.mem_of_getElem? hx
      have HSTEP : Hid (isum (fun x => x.2) (s.types.take (j + 1)) = N + q) := by show _ = _; rw [isum_take hx, HN.out]
      have hall : isum (fun x => x.2) s.types = (m2 : Int) := by rw [HOK.out.tt.all, List.length_map, HM.out.2.1]
      have hnn : ∀ x ∈ s.types, 0 ≤ (fun x : ByteArray × Int => x.2) x := fun x hx => by have := (HOK.out.tt.val x hx).2.1; show 0 ≤ x.2; omega
      have hq := HOK.out.tt.val _ hxm
      have hq1 : ¬ q < 1 := by have := hq.2.1; simp only at this; omega
      have hN0 : 0 ≤ N := by have := (isum_take_le (f := fun x : ByteArray × Int => x.2) j hnn).1; rw [HN.out] at this; exact this
      have hN1 : N + q ≤ 60 := by have := (isum_take_le (f := fun x : ByteArray × Int => x.2) (j + 1) hnn).2; rw [HSTEP.out, hall] at this; omega
      have HOX : Hid (okS x) := HSL.out.ot _ hxm
      have HTY : Hid (typedI s [x, x] = q) := HA.out.2.2.1 _ hxm
      obtain ⟨a0, c0', ea0, _, _, hca⟩ := HSL.out.ht
      obtain ⟨rfl, rfl⟩ : ta = a0 ∧ tc = c0' := by injection ea0 with a b c; exact ⟨a, c⟩
      clear ea0
      obtain ⟨bl, off, rfl, hbl, hc⟩ := hca.resolve_left (by intro e; rw [e] at hx; simp at hx)
      have c0 := (HBR.out.cell (p := ⟨bl, off + j * 2 + 0, none⟩) hbl).trans (hc j _ hx 0 _ rfl)
      have c1 := (HBR.out.cell (p := ⟨bl, off + j * 2 + 1, none⟩) hbl).trans (hc j _ hx 1 _ rfl)
      rw [Nat.add_zero] at c0
      simp only at c0 c1
      have HPV : Hid (∀ k, j = k + 1 → ∃ y, Op.bytesLess y.toList x.toList = true ∧ wr.cell? ⟨bl, off + k * 2, none⟩ = some (.string y)) := fun k hk => by
        obtain ⟨⟨y, p⟩, hy⟩ : ∃ q, s.types[k]? = some q := ⟨_, List.getElem?_eq_getElem (by have := HLEN.out; omega)⟩
        have d0 := (HBR.out.cell (p := ⟨bl, off + k * 2 + 0, none⟩) hbl).trans (hc k _ hy 0 _ rfl)
        rw [Nat.add_zero] at d0
        exact ⟨y, less_up (pair_at HOK.out.tt.up hy hx (by omega)), d0⟩
      have HBL := hidE hbl
      clear hx hxm hc hca hall hnn hq hbl
      go_upto_region 11 with fail
      obtain ⟨W6, hW6⟩ : ∃ W, wr.alloc (.cells #[.string x, .int .i64 q] 62) = W := ⟨_, rfl⟩
      have r6 : Rec W6 wr.heap.size #[.string x, .int .i64 q] 62 := by rw [← hW6]; exact rec_new _ _ _
      have b6 : Below wr.heap.size wr W6 := by rw [← hW6]; exact below_new _ _
      rw [hW6]
      have g0 := r6.cell 0 (v := .string x) rfl
      have g1 := r6.cell 1 (v := .int .i64 q) rfl
      clear hW6 c0 c1 f3
      go_upto_region 12 with fail
      clear g0 g1
      have HR6 := hidE r6
      have HD6 := hidE ((Below.refl W6.heap.size W6).drew)
      have HD : Hid (Below W5.heap.size W5 W6.drew) := Below.on (Below.on HBR.out b6) HD6.out
      have HSd := hidE (HSB.out.keep HD.out)
      have f0 : ∀ u : Up W6.drew, u.x.cell? ⟨sb, 0, none⟩ = some (.int .i64 (m : Int)) := fun u => u.cell HSd.out.c0
      have f1 : ∀ u : Up W6.drew, u.x.cell? ⟨sb, 1, none⟩ = some (.int .i64 (m2 : Int)) := fun u => u.cell HSd.out.c1
      have f2 : ∀ u : Up W6.drew, u.x.cell? ⟨sb, 2, none⟩ = some (.slice la lm lc) := fun u => u.cell HSd.out.c2
      have f3 : ∀ u : Up W6.drew, u.x.cell? ⟨sb, 3, none⟩ = some (.slice (some ⟨bl, off, none⟩) tm tc) := fun u => u.cell HSd.out.c3
      have f4 : ∀ u : Up W6.drew, u.x.cell? ⟨sb, 4, none⟩ = some (.slice ea em ec) := fun u => u.cell HSd.out.c4
      have f5 : ∀ u : Up W6.drew, u.x.cell? ⟨sb, 5, none⟩ = some (.slice ka km kc) := fun u => u.cell HSd.out.c5
      have b0 : ∀ u : Up W6.drew, u.x.cell? ⟨wr.heap.size, 0, none⟩ = some (.string x) := fun u => u.cell ((HR6.out.below HD6.out HR6.out.lt).cell 0 rfl)
      have b1 : ∀ u : Up W6.drew, u.x.cell? ⟨wr.heap.size, 1, none⟩ = some (.int .i64 q) := fun u => u.cell ((HR6.out.below HD6.out HR6.out.lt).cell 1 rfl)
      have up_ne : Nonempty (Up W6.drew) := ⟨⟨W6.drew, Below.refl _ _⟩⟩
      have HB6 := hidE b6
      clear b6 r6
      by_cases hj0 : j = 0
      · skip
        have hj0' : ¬ (0 : Int) < j := by omega
        refine wp_calm [([0, 1, 2, 3, 4, 5, 6, 7, 8, 9, 10, 11, 12, 13, 14, 15, 16, 17, 18, 19, 20, 21, 22, 23, 24, 27, 28], 25), ([], 26)] [] [29, 30] (by kernel_rfl) (by kernel_rfl) ?_
        simp only [wpCalm, wpLoud, pickL, nthL, upC_eqS]
        repeat (go_big_quiet_step (fail))
        refine wpQuiet_nil ?_
        go_wp2_with fail
        first | refine ⟨rfl, below_new W6.drew _, wpQuiet_nil ?_⟩ | refine ⟨below_new W6.drew _, wpQuiet_nil ?_⟩
        go_wp2_with (first | (go_at_call 20; refine (C.out.h20 W6.drew x HD.out HOX.out).mono ?_; rintro e wa ⟨rfl, hba⟩; try dsimp only))
        first | refine ⟨rfl, by first | exact hba | (rw [alloc_sizeS] at hba; exact hba), wpQuiet_nil ?_⟩ | refine ⟨by first | exact hba | (rw [alloc_sizeS] at hba; exact hba), wpQuiet_nil ?_⟩
        rw [HTY.out]
        have HBa := hidE (Below.on (Below.on HD.out (below_new W6.drew _)) hba)
        clear f0 f1 f2 f3 f4 f5 b0 b1 up_ne hba
        go_wp2_with fail
        go_roundw
        case rel => exact ⟨j + 1, by omega, by go_num, by rw [HSTEP.out], HBa.out⟩
        case measure => simp [intOf]; omega
      · skip
        obtain ⟨k, rfl⟩ : ∃ k, j = k + 1 := ⟨j - 1, by omega⟩
        obtain ⟨y, hyx, cy⟩ := HPV.out k rfl
        have hj0' : (0 : Int) < (k : Int) + 1 := by omega
        have hkt : k < tm := by omega
        have hkt' : (k : Int) < tm := by omega
        have fy : ∀ u : Up W6.drew, u.x.cell? ⟨bl, off + k * 2, none⟩ = some (.string y) := fun u => u.cell ((HD6.out.cell (p := ⟨bl, off + k * 2, none⟩) (Nat.lt_of_lt_of_le HBL.out (Below.on HBR.out HB6.out).size)).trans ((HB6.out.cell (p := ⟨bl, off + k * 2, none⟩) (Nat.lt_of_lt_of_le HBL.out HBR.out.size)).trans cy))
        refine wp_calm [([0, 1, 2, 3, 4, 5, 6, 7, 8, 9, 10, 11, 12, 13, 14, 15, 16, 17, 18, 19, 20, 21, 22, 23, 24, 27, 28], 25), ([], 26)] [] [29, 30] (by kernel_rfl) (by kernel_rfl) ?_
        simp only [wpCalm, wpLoud, pickL, nthL, upC_eqS]
        repeat (go_big_quiet_step (fail))
        refine wpQuiet_nil ?_
        go_wp2_with fail
        first | refine ⟨rfl, below_new W6.drew _, wpQuiet_nil ?_⟩ | refine ⟨below_new W6.drew _, wpQuiet_nil ?_⟩
        go_wp2_with (first | (go_at_call 20; refine (C.out.h20 W6.drew x HD.out HOX.out).mono ?_; rintro e wa ⟨rfl, hba⟩; try dsimp only))
        first | refine ⟨rfl, by first | exact hba | (rw [alloc_sizeS] at hba; exact hba), wpQuiet_nil ?_⟩ | refine ⟨by first | exact hba | (rw [alloc_sizeS] at hba; exact hba), wpQuiet_nil ?_⟩
        rw [HTY.out]
        have HBa := hidE (Below.on (Below.on HD.out (below_new W6.drew _)) hba)
        clear f0 f1 f2 f3 f4 f5 b0 b1 up_ne hba
        go_wp2_with fail
        go_roundw
        case rel => exact ⟨(k + 1) + 1, by omega, by go_num, by rw [HSTEP.out], HBa.out⟩
        case measure => simp [intOf]; omega
    · have hlt' : ¬ (j : Int) < tm := by omega
      have HNE : Hid (N = (m2 : Int)) := by show _ = _; rw [← HN.out, List.take_of_length_le (by have := HLEN.out; omega), HOK.out.tt.all, List.length_map, HM.out.2.1]
      rw [HNE.out]
      have HBQ := hidE HBR.out
      clear HN HNE HBR
      go_wp2_with fail
      exact HK.out _ _ _ _ _ _ _ _ _ _ _ _ _ _ _ _ _ _ _ _ _ _ _ _ _ _ _ _ _ _ _ _ _ _ _ _ _ _ _ _ _ _ _ _ _ _ _ _ _ _ _ _ _ _ _ _ _ _ _ _ _ _ _ _ _ _ _ _ _ _ _ _ _ _ _ _ _ _ _ _ _ _ _ _ _ _ _ _ _ _ _ _ _ _ _ _ _ _ _ _ _ _ _ _ _ _ _ _ _ _ _ _ _ _ _ _ _ _ _ _ _ _ _ _ _ _ _ _ _ _ _ _ _ _ _ _ _ _ _ _ _ _ _ _ _ _ _ _ _ _ _ _ _ _ _ _ _ _ _ _ _ _ _ _ _ _ _ _ _ _ _ _ _ _ _ _ _ _ _ _ _ _ _ _ _ _ _ _ _ _ _ _ _ _ _ _ _ _ _ _ _ _ _ _ _ _ _ _ _ _ _ _ _ _ _ _ _ _ _ _ _ _ _ _ _ _ _ _ _ _ _ _ _ _ _ _ _ _ _ _ _ _ _ _ _ _ _ _ _ _ _ _ _ _ _ _ _ _ _ _ _ _ _ _ _ _ _ _ _ _ _ _ _ _ _ _ _ HBQ.out
end Go.Proofs.YthfilnflgahcjaaGreatDoor

