/- StatsAsks' walk: what is held against the document. -/
import Derived.Test.YthfilnflgahcjaaGreatDoorJoin29
import Derived.Test.YthfilnflgahcjaaGreatDoorRfrom
import Derived.Test.YthfilnflgahcjaaGreatDoorJoin31
import Derived.Test.YthfilnflgahcjaaGreatDoorRlab
import Derived.Test.YthfilnflgahcjaaGreatDoorJoin30
import Derived.Test.YthfilnflgahcjaaGreatDoorJoin32
import Derived.Deep.Cut
namespace Go.Proofs.YthfilnflgahcjaaGreatDoor
open Go.RowKit Go.Shelf Go.Maps
set_option linter.unusedVariables false
set_option linter.unusedSimpArgs false
attribute [local go_sem] Oper.semAt_some
set_option maxRecDepth 100000 in
set_option maxHeartbeats 16000000 in
theorem asks_e10 (s : StatP) (key lab kind : ByteArray) (dir sn sr : Int) (ls ts : List ByteArray) (ns : List Int) (la ta ea ka lsa tsa nsa : Option Addr) (lc tc ec kc lsc tsc nsc p1 p2 p3 p4 m1 m2 m3 bv ov vc : Nat) (w wc : World) (u12 u13 u14 u15 u16 u17 u18 u19 u20 u21 u22 u23 u24 u25 u26 u27 u28 u29 u30 u31 u32 u33 u34 u35 u36 u37 u38 u39 u40 u41 u42 u43 u44 u45 u46 u47 u48 u49 u50 u51 u52 u53 u54 u55 u56 u57 u58 u59 u60 u61 u62 u63 u64 u65 u66 u67 u68 u69 u70 u71 u72 u73 u74 u75 u76 u77 u78 u79 u80 u81 u82 u83 u84 u85 u86 u87 u88 u89 u90 u91 u92 u93 u94 u95 u96 u97 u98 u99 u100 u101 u102 u103 u104 u105 u106 u107 u108 u109 u110 u111 u112 u113 u114 u115 u116 u117 u118 u119 u120 u121 u122 u123 u124 u125 u126 u127 u128 u129 u130 u131 u132 u133 u134 u135 u136 u137 u138 u139 u140 u141 u142 u143 u144 u145 u146 u147 u148 u149 u150 u151 u152 u153 u154 u155 u156 u157 u158 u159 u160 u161 u162 u163 u164 u165 u166 u167 u168 u169 u170 u171 u172 u173 u174 u175 u176 u177 u178 u179 u180 u181 u182 u183 u184 u185 u186 u187 u188 u189 u190 u191 u192 u193 u194 u195 u196 u197 u198 u199 u200 u201 u202 u203 u204 u205 u206 u207 u208 u209 u210 u211 u212 u213 u214 u215 u216 u217 u218 : Value)
    (HM : Hid (ls.length = m1 ∧ ts.length = m2 ∧ ns.length = m3)) (k2 : ¬ 20 < m2) (k3 : ¬ 100 < m3)
    (HWK : Hid (∀ W, Below w.heap.size w W → Calls Tryz.prog 10 #[] W fun e w' => e = .returned (.bool true) ∧ Below W.heap.size W w'))
    (hc4 : m2 + 1 ≤ vc ∧ vc ≤ 9223372036854775807) (hbv : bv < wc.heap.size)
    (HCV : Hid (∀ (i : Nat) (x : ByteArray), (ts ++ [spareS])[i]? = some x → wc.cell? ⟨bv, ov + i, none⟩ = some (.string x)))
    (HB34 : Hid (Below w.heap.size w wc))
    (HT4 : Hid (SRow 1 strE wc.heap.size wc (.slice tsa m2 tsc) ts)) (HN4 : Hid (SRow 1 intE wc.heap.size wc (.slice nsa m3 nsc) ns))
    (HA2 : Hid (Rec wc (w.heap.size + 1) #[.slice lsa m1 lsc, .slice tsa m2 tsc, .string key, .int .i64 dir, .slice nsa m3 nsc] 46))
    (HV : Hid (statV s (.slice la p1 lc) (.slice ta p2 tc) (.slice ea p3 ec) (.slice ka p4 kc) = .agg #[.int .i64 sn, .int .i64 sr, .slice la p1 lc, .slice ta p2 tc, .slice ea p3 ec, .slice ka p4 kc]))
    (HOK : Hid (okS key ∧ (∀ x ∈ ls, okS x) ∧ ∀ x ∈ ts, okS x)) (HOL : Hid (okS lab)) (HOKD : Hid (okS kind)) (hml : ls.length ≤ 100000) (hmt : ts.length ≤ 100000)
    (HVT : Hid (SRow 1 strE wc.heap.size wc (.slice (some ⟨bv, ov, none⟩) m2 vc) ts))
    (HS4 : Hid (StatL wc.heap.size wc (.slice la p1 lc) (.slice ta p2 tc) (.slice ea p3 ec) (.slice ka p4 kc) s))
    (HL4 : Hid (SRow 1 strE wc.heap.size wc (.slice lsa m1 lsc) ls))
    (HA1 : Hid (Rec wc w.heap.size #[.int .i64 sn, .int .i64 sr, .slice la p1 lc, .slice ta p2 tc, .slice ea p3 ec, .slice ka p4 kc] 33))
    (Q : Exit → Act → World → Prop) (K : Act → World → Prop) (hK : ∀ (v12 v13 v14 v15 v16 v17 v18 v19 v20 v21 v22 v23 v24 v25 v26 v27 v28 v29 v30 v31 v32 v33 v34 v35 v36 v37 v38 v39 v40 v41 v42 v43 v44 v45 v46 v47 v48 v49 v50 v51 v52 v53 v54 v55 v56 v57 v58 v59 v60 v61 v62 v63 v64 v65 v66 v67 v68 v69 v70 v71 v72 v73 v74 v75 v76 v77 v78 v79 v80 v81 v82 v83 v84 v85 v86 v87 v88 v89 v90 v91 v92 v93 v94 v95 v96 v97 v98 v99 v100 v101 v102 v103 v104 v105 v106 v107 v108 v109 v110 v111 v112 v113 v114 v115 v116 v117 v118 v119 v120 v121 v122 v123 v124 v125 v126 v127 v128 v129 v130 v131 v132 v133 v134 v135 v136 v137 v138 v139 v140 v141 v142 v143 v144 v145 v146 v147 v148 v149 v150 v151 v152 v153 v154 v155 v156 v157 v158 v159 v160 v161 v162 v163 v164 v165 v166 v167 v168 v169 v170 v171 v172 v173 v174 v175 v176 v177 v178 v179 v180 v181 v182 v183 v184 v185 v186 v187 v188 v189 v190 v191 v192 v193 v194 v195 v196 v197 v198 v199 v200 v201 v202 v203 v204 v205 v206 v207 v208 v209 v210 v211 v212 v213 v214 v215 v216 v217 v218 : Value) (w9 : World), Below wc.heap.size wc w9 → K
      { tmps := #[.agg #[.int .i64 sn, .int .i64 sr, .slice la p1 lc, .slice ta p2 tc, .slice ea p3 ec, .slice ka p4 kc], .agg #[.slice lsa m1 lsc, .slice tsa m2 tsc, .string key, .int .i64 dir, .slice nsa m3 nsc], .pointer (some ⟨w.heap.size, 0, none⟩), .pointer (some ⟨w.heap.size + 1, 0, none⟩), .bool false, .slice (some ⟨bv, ov, none⟩) m2 vc, .string lab, .string kind, undef, undef, undef, undef, v12, v13, v14, v15, v16, v17, v18, v19, v20, v21, v22, v23, v24, v25, v26, v27, v28, v29, v30, v31, v32, v33, v34, v35, v36, v37, v38, v39, v40, v41, v42, v43, v44, v45, v46, v47, v48, v49, v50, v51, v52, v53, v54, v55, v56, v57, v58, v59, v60, v61, v62, v63, v64, v65, v66, v67, v68, v69, v70, v71, v72, v73, v74, v75, v76, v77, v78, v79, v80, v81, v82, v83, v84, v85, v86, v87, v88, v89, v90, v91, v92, v93, v94, v95, v96, v97, v98, v99, v100, v101, v102, v103, v104, v105, v106, v107, v108, v109, v110, v111, v112, v113, v114, v115, v116, v117, v118, v119, v120, v121, v122, v123, v124, v125, v126, v127, v128, v129, v130, v131, v132, v133, v134, v135, v136, v137, v138, v139, v140, v141, v142, v143, v144, v145, v146, v147, v148, v149, v150, v151, v152, v153, v154, v155, v156, v157, v158, v159, v160, v161, v162, v163, v164, v165, v166, v167, v168, v169, v170, v171, v172, v173, v174, v175, v176, v177, v178, v179, v180, v181, v182, v183, v184, v185, v186, v187, v188, v189, v190, v191, v192, v193, v194, v195, v196, v197, v198, v199, v200, v201, v202, v203, v204, v205, v206, v207, v208, v209, v210, v211, v212, v213, v214, v215, v216, v217, v218], defers := [] } w9) :
    (elemAt 10 (Tryz.f4.body.getD .skip)).wp Tryz.prog (Exit.then K Q)
      { tmps := #[.agg #[.int .i64 sn, .int .i64 sr, .slice la p1 lc, .slice ta p2 tc, .slice ea p3 ec, .slice ka p4 kc], .agg #[.slice lsa m1 lsc, .slice tsa m2 tsc, .string key, .int .i64 dir, .slice nsa m3 nsc], .pointer (some ⟨w.heap.size, 0, none⟩), .pointer (some ⟨w.heap.size + 1, 0, none⟩), .bool false, .slice (some ⟨bv, ov, none⟩) m2 vc, .string lab, .string kind, undef, undef, undef, undef, u12, u13, u14, u15, u16, u17, u18, u19, u20, u21, u22, u23, u24, u25, u26, u27, u28, u29, u30, u31, u32, u33, u34, u35, u36, u37, u38, u39, u40, u41, u42, u43, u44, u45, u46, u47, u48, u49, u50, u51, u52, u53, u54, u55, u56, u57, u58, u59, u60, u61, u62, u63, u64, u65, u66, u67, u68, u69, u70, u71, u72, u73, u74, u75, u76, u77, u78, u79, u80, u81, u82, u83, u84, u85, u86, u87, u88, u89, u90, u91, u92, u93, u94, u95, u96, u97, u98, u99, u100, u101, u102, u103, u104, u105, u106, u107, u108, u109, u110, u111, u112, u113, u114, u115, u116, u117, u118, u119, u120, u121, u122, u123, u124, u125, u126, u127, u128, u129, u130, u131, u132, u133, u134, u135, u136, u137, u138, u139, u140, u141, u142, u143, u144, u145, u146, u147, u148, u149, u150, u151, u152, u153, u154, u155, u156, u157, u158, u159, u160, u161, u162, u163, u164, u165, u166, u167, u168, u169, u170, u171, u172, u173, u174, u175, u176, u177, u178, u179, u180, u181, u182, u183, u184, u185, u186, u187, u188, u189, u190, u191, u192, u193, u194, u195, u196, u197, u198, u199, u200, u201, u202, u203, u204, u205, u206, u207, u208, u209, u210, u211, u212, u213, u214, u215, u216, u217, u218], defers := [] } wc := by
  conv =>
    arg 2
    whnf
  try dsimp only
  go_upto_region 10 with fail
  obtain ⟨ia, hia⟩ : ∃ n, cutI s.nodes = n := ⟨_, rfl⟩
  obtain ⟨ib, hib⟩ : ∃ n, labelledI s ls = n := ⟨_, rfl⟩
  obtain ⟨ic, hic⟩ : ∃ n, typedI s ts = n := ⟨_, rfl⟩
  obtain ⟨E, hE⟩ : ∃ E : Bool → Int, (fun o => endedI s lab o [kind]) = E := ⟨_, rfl⟩
  have hE' : ∀ o, endedI s lab o [kind] = E o := fun o => by rw [← hE]
  have H17 : Hid (∀ W, Below wc.heap.size wc W → Calls Tryz.prog 17 #[.agg #[.int .i64 sn, .int .i64 sr, .slice la p1 lc, .slice ta p2 tc, .slice ea p3 ec, .slice ka p4 kc]] W fun e w' => e = .returned (.int .i64 ia) ∧ Below W.heap.size W w') := fun W hb => by
    have h := all_any s _ _ _ _ _ W (HS4.out.keep hb)
    rwa [HV.out, hia] at h
  have H18n : Hid (∀ W, Below wc.heap.size wc W → Calls Tryz.prog 18 #[.agg #[.int .i64 sn, .int .i64 sr, .slice la p1 lc, .slice ta p2 tc, .slice ea p3 ec, .slice ka p4 kc], .slice none 0 0] W fun e w' => e = .returned (.int .i64 ia) ∧ Below W.heap.size W w') := fun W hb => by
    have h := rlabelled_any s _ _ _ _ _ [] _ W hb.size (HS4.out.keep hb) (srow_nil 1 strE _ W) (fun x hx => by cases hx)
    have e0 : rlabelledI s [] = ia := by rw [← hia]; rfl
    rwa [HV.out, e0] at h
  have H19 : Hid (∀ W, Below wc.heap.size wc W → Calls Tryz.prog 19 #[.agg #[.int .i64 sn, .int .i64 sr, .slice la p1 lc, .slice ta p2 tc, .slice ea p3 ec, .slice ka p4 kc], .slice lsa m1 lsc] W fun e w' => e = .returned (.int .i64 ib) ∧ Below W.heap.size W w') := fun W hb => by
    have h := labelled_any s _ _ _ _ _ ls _ W hb.size (HS4.out.keep hb) (HL4.out.keep hb) HOK.out.2.1 hml
    rwa [HV.out, hib] at h
  have H18 : Hid (∀ W, Below wc.heap.size wc W → Calls Tryz.prog 18 #[.agg #[.int .i64 sn, .int .i64 sr, .slice la p1 lc, .slice ta p2 tc, .slice ea p3 ec, .slice ka p4 kc], .slice lsa m1 lsc] W fun e w' => e = .returned (.int .i64 ib) ∧ Below W.heap.size W w') := fun W hb => by
    have h := rlabelled_any s _ _ _ _ _ ls _ W hb.size (HS4.out.keep hb) (HL4.out.keep hb) HOK.out.2.1
    rwa [HV.out, labelled_same, hib] at h
  have H20 : Hid (∀ W, Below wc.heap.size wc W → Calls Tryz.prog 20 #[.agg #[.int .i64 sn, .int .i64 sr, .slice la p1 lc, .slice ta p2 tc, .slice ea p3 ec, .slice ka p4 kc], .slice (some ⟨bv, ov, none⟩) m2 vc] W fun e w' => e = .returned (.int .i64 ic) ∧ Below W.heap.size W w') := fun W hb => by
    have h := typed_any s _ _ _ _ _ ts _ W hb.size (HS4.out.keep hb) (HVT.out.keep hb) HOK.out.2.2 hmt
    rwa [HV.out, hic] at h
  have H21 : Hid (∀ W, Below wc.heap.size wc W → Calls Tryz.prog 21 #[.agg #[.int .i64 sn, .int .i64 sr, .slice la p1 lc, .slice ta p2 tc, .slice ea p3 ec, .slice ka p4 kc], .slice tsa m2 tsc] W fun e w' => e = .returned (.int .i64 ic) ∧ Below W.heap.size W w') := fun W hb => by
    have h := rtyped_any s _ _ _ _ _ ts _ W hb.size (HS4.out.keep hb) (HT4.out.keep hb) HOK.out.2.2 hmt
    rwa [HV.out, typed_same, hic] at h
  have H22 : Hid (∀ W o, Below wc.heap.size wc W → Calls Tryz.prog 22 #[.agg #[.int .i64 sn, .int .i64 sr, .slice la p1 lc, .slice ta p2 tc, .slice ea p3 ec, .slice ka p4 kc], .string kind, .string lab, .bool o] W fun e w' => e = .returned (.int .i64 (E o)) ∧ Below W.heap.size W w') := fun W o hb => by
    have h := ended_any s _ _ _ _ kind lab o _ W hb.size (HS4.out.keep hb) HOKD.out HOL.out
    rwa [HV.out, hE'] at h
  have H23 : Hid (∀ W o, Below wc.heap.size wc W → Calls Tryz.prog 23 #[.agg #[.int .i64 sn, .int .i64 sr, .slice la p1 lc, .slice ta p2 tc, .slice ea p3 ec, .slice ka p4 kc], .string kind, .string lab, .bool o] W fun e w' => e = .returned (.int .i64 (E o)) ∧ Below W.heap.size W w') := fun W o hb => by
    have h := rend_any s _ _ _ _ kind lab o _ W hb.size (HS4.out.keep hb) HOKD.out HOL.out
    rwa [HV.out, ended_same, hE'] at h
  clear hia hib hic hE hE'
  have up_ne : Nonempty (Up wc) := ⟨⟨wc, Below.refl _ _⟩⟩
  have e0 : ∀ u : Up wc, u.x.cell? ⟨w.heap.size, 0, none⟩ = some (.int .i64 sn) := fun u => u.cell (HA1.out.cell 0 rfl)
  have e1 : ∀ u : Up wc, u.x.cell? ⟨w.heap.size, 1, none⟩ = some (.int .i64 sr) := fun u => u.cell (HA1.out.cell 1 rfl)
  have e2 : ∀ u : Up wc, u.x.cell? ⟨w.heap.size, 2, none⟩ = some (.slice la p1 lc) := fun u => u.cell (HA1.out.cell 2 rfl)
  have e3 : ∀ u : Up wc, u.x.cell? ⟨w.heap.size, 3, none⟩ = some (.slice ta p2 tc) := fun u => u.cell (HA1.out.cell 3 rfl)
  have e4 : ∀ u : Up wc, u.x.cell? ⟨w.heap.size, 4, none⟩ = some (.slice ea p3 ec) := fun u => u.cell (HA1.out.cell 4 rfl)
  have e5 : ∀ u : Up wc, u.x.cell? ⟨w.heap.size, 5, none⟩ = some (.slice ka p4 kc) := fun u => u.cell (HA1.out.cell 5 rfl)
  have f0 : ∀ u : Up wc, u.x.cell? ⟨w.heap.size + 1, 0, none⟩ = some (.slice lsa m1 lsc) := fun u => u.cell (HA2.out.cell 0 rfl)
  have f1 : ∀ u : Up wc, u.x.cell? ⟨w.heap.size + 1, 1, none⟩ = some (.slice tsa m2 tsc) := fun u => u.cell (HA2.out.cell 1 rfl)
  have f3 : ∀ u : Up wc, u.x.cell? ⟨w.heap.size + 1, 3, none⟩ = some (.int .i64 dir) := fun u => u.cell (HA2.out.cell 3 rfl)
  refine wp_up (by kernel_rfl) (by kernel_rfl) ?_
  iterate 4 (go_big_quiet_step (first | (go_at_call 17; exact Up.call (H17.out _ (Up.b _))) | (go_at_call 18; exact Up.call (H18n.out _ (Up.b _)))))
  repeat (go_big_quiet_step (first | (go_at_call 18; exact Up.call (H18.out _ (Up.b _))) | (go_at_call 19; exact Up.call (H19.out _ (Up.b _))) | (go_at_call 20; exact Up.call (H20.out _ (Up.b _))) | (go_at_call 21; exact Up.call (H21.out _ (Up.b _))) | (go_at_call 22; exact Up.call (H22.out _ _ (Up.b _))) | (go_at_call 23; exact Up.call (H23.out _ _ (Up.b _)))))
  refine wpQuiet_nil ?_
  rintro w' ⟨⟨W5, hb5⟩, rfl⟩
  clear e0 e1 e2 e3 e4 e5 f0 f1 f3 up_ne H17 H18n H18 H19 H20 H21 H22 H23
  have HB5 := hidE hb5
  clear hb5
  go_wp2_with fail
  all_goals exact HB5.out
set_option maxRecDepth 100000 in
set_option maxHeartbeats 16000000 in
theorem asks_e12 (s : StatP) (key lab kind : ByteArray) (dir sn sr : Int) (ls ts : List ByteArray) (ns : List Int) (la ta ea ka lsa tsa nsa : Option Addr) (lc tc ec kc lsc tsc nsc p1 p2 p3 p4 m1 m2 m3 bv ov vc : Nat) (w wc w' : World) (u12 u13 u14 u15 u16 u17 u18 u19 u20 u21 u22 u23 u24 u25 u26 u27 u28 u29 u30 u31 u32 u33 u34 u35 u36 u37 u38 u39 u40 u41 u42 u43 u44 u45 u46 u47 u48 u49 u50 u51 u52 u53 u54 u55 u56 u57 u58 u59 u60 u61 u62 u63 u64 u65 u66 u67 u68 u69 u70 u71 u72 u73 u74 u75 u76 u77 u78 u79 u80 u81 u82 u83 u84 u85 u86 u87 u88 u89 u90 u91 u92 u93 u94 u95 u96 u97 u98 u99 u100 u101 u102 u103 u104 u105 u106 u107 u108 u109 u110 u111 u112 u113 u114 u115 u116 u117 u118 u119 u120 u121 u122 u123 u124 u125 u126 u127 u128 u129 u130 u131 u132 u133 u134 u135 u136 u137 u138 u139 u140 u141 u142 u143 u144 u145 u146 u147 u148 u149 u150 u151 u152 u153 u154 u155 u156 u157 u158 u159 u160 u161 u162 u163 u164 u165 u166 u167 u168 u169 u170 u171 u172 u173 u174 u175 u176 u177 u178 u179 u180 u181 u182 u183 u184 u185 u186 u187 u188 u189 u190 u191 u192 u193 u194 u195 u196 u197 u198 u199 u200 u201 u202 u203 u204 u205 u206 u207 u208 u209 u210 u211 u212 u213 u214 u215 u216 u217 u218 : Value)
    (HM : Hid (ls.length = m1 ∧ ts.length = m2 ∧ ns.length = m3)) (k2 : ¬ 20 < m2) (k3 : ¬ 100 < m3)
    (HWK : Hid (∀ W, Below w.heap.size w W → Calls Tryz.prog 10 #[] W fun e w' => e = .returned (.bool true) ∧ Below W.heap.size W w'))
    (hc4 : m2 + 1 ≤ vc ∧ vc ≤ 9223372036854775807) (hbv : bv < wc.heap.size)
    (HCV : Hid (∀ (i : Nat) (x : ByteArray), (ts ++ [spareS])[i]? = some x → wc.cell? ⟨bv, ov + i, none⟩ = some (.string x)))
    (HB34 : Hid (Below w.heap.size w wc))
    (HT4 : Hid (SRow 1 strE wc.heap.size wc (.slice tsa m2 tsc) ts)) (HN4 : Hid (SRow 1 intE wc.heap.size wc (.slice nsa m3 nsc) ns))
    (HA2 : Hid (Rec wc (w.heap.size + 1) #[.slice lsa m1 lsc, .slice tsa m2 tsc, .string key, .int .i64 dir, .slice nsa m3 nsc] 46))
    (HV : Hid (statV s (.slice la p1 lc) (.slice ta p2 tc) (.slice ea p3 ec) (.slice ka p4 kc) = .agg #[.int .i64 sn, .int .i64 sr, .slice la p1 lc, .slice ta p2 tc, .slice ea p3 ec, .slice ka p4 kc]))
    (HOK : Hid (okS key ∧ (∀ x ∈ ls, okS x) ∧ ∀ x ∈ ts, okS x)) (HOL : Hid (okS lab)) (HOKD : Hid (okS kind)) (hml : ls.length ≤ 100000) (hmt : ts.length ≤ 100000)
    (HVT : Hid (SRow 1 strE wc.heap.size wc (.slice (some ⟨bv, ov, none⟩) m2 vc) ts))
    (HS4 : Hid (StatL wc.heap.size wc (.slice la p1 lc) (.slice ta p2 tc) (.slice ea p3 ec) (.slice ka p4 kc) s))
    (HL4 : Hid (SRow 1 strE wc.heap.size wc (.slice lsa m1 lsc) ls))
    (HA1 : Hid (Rec wc w.heap.size #[.int .i64 sn, .int .i64 sr, .slice la p1 lc, .slice ta p2 tc, .slice ea p3 ec, .slice ka p4 kc] 33))
    (Q : Exit → Act → World → Prop) (K : Act → World → Prop) (hK : ∀ (v12 v13 v14 v15 v16 v17 v18 v19 v20 v21 v22 v23 v24 v25 v26 v27 v28 v29 v30 v31 v32 v33 v34 v35 v36 v37 v38 v39 v40 v41 v42 v43 v44 v45 v46 v47 v48 v49 v50 v51 v52 v53 v54 v55 v56 v57 v58 v59 v60 v61 v62 v63 v64 v65 v66 v67 v68 v69 v70 v71 v72 v73 v74 v75 v76 v77 v78 v79 v80 v81 v82 v83 v84 v85 v86 v87 v88 v89 v90 v91 v92 v93 v94 v95 v96 v97 v98 v99 v100 v101 v102 v103 v104 v105 v106 v107 v108 v109 v110 v111 v112 v113 v114 v115 v116 v117 v118 v119 v120 v121 v122 v123 v124 v125 v126 v127 v128 v129 v130 v131 v132 v133 v134 v135 v136 v137 v138 v139 v140 v141 v142 v143 v144 v145 v146 v147 v148 v149 v150 v151 v152 v153 v154 v155 v156 v157 v158 v159 v160 v161 v162 v163 v164 v165 v166 v167 v168 v169 v170 v171 v172 v173 v174 v175 v176 v177 v178 v179 v180 v181 v182 v183 v184 v185 v186 v187 v188 v189 v190 v191 v192 v193 v194 v195 v196 v197 v198 v199 v200 v201 v202 v203 v204 v205 v206 v207 v208 v209 v210 v211 v212 v213 v214 v215 v216 v217 v218 : Value) (w9 : World), Below wc.heap.size wc w9 → K
      { tmps := #[.agg #[.int .i64 sn, .int .i64 sr, .slice la p1 lc, .slice ta p2 tc, .slice ea p3 ec, .slice ka p4 kc], .agg #[.slice lsa m1 lsc, .slice tsa m2 tsc, .string key, .int .i64 dir, .slice nsa m3 nsc], .pointer (some ⟨w.heap.size, 0, none⟩), .pointer (some ⟨w.heap.size + 1, 0, none⟩), .bool false, .slice (some ⟨bv, ov, none⟩) m2 vc, .string lab, .string kind, undef, undef, undef, undef, v12, v13, v14, v15, v16, v17, v18, v19, v20, v21, v22, v23, v24, v25, v26, v27, v28, v29, v30, v31, v32, v33, v34, v35, v36, v37, v38, v39, v40, v41, v42, v43, v44, v45, v46, v47, v48, v49, v50, v51, v52, v53, v54, v55, v56, v57, v58, v59, v60, v61, v62, v63, v64, v65, v66, v67, v68, v69, v70, v71, v72, v73, v74, v75, v76, v77, v78, v79, v80, v81, v82, v83, v84, v85, v86, v87, v88, v89, v90, v91, v92, v93, v94, v95, v96, v97, v98, v99, v100, v101, v102, v103, v104, v105, v106, v107, v108, v109, v110, v111, v112, v113, v114, v115, v116, v117, v118, v119, v120, v121, v122, v123, v124, v125, v126, v127, v128, v129, v130, v131, v132, v133, v134, v135, v136, v137, v138, v139, v140, v141, v142, v143, v144, v145, v146, v147, v148, v149, v150, v151, v152, v153, v154, v155, v156, v157, v158, v159, v160, v161, v162, v163, v164, v165, v166, v167, v168, v169, v170, v171, v172, v173, v174, v175, v176, v177, v178, v179, v180, v181, v182, v183, v184, v185, v186, v187, v188, v189, v190, v191, v192, v193, v194, v195, v196, v197, v198, v199, v200, v201, v202, v203, v204, v205, v206, v207, v208, v209, v210, v211, v212, v213, v214, v215, v216, v217, v218], defers := [] } w9)
    (HB5 : Hid (Below wc.heap.size wc w')) :
    (elemAt 12 (Tryz.f4.body.getD .skip)).wp Tryz.prog (Exit.then K Q)
      { tmps := #[.agg #[.int .i64 sn, .int .i64 sr, .slice la p1 lc, .slice ta p2 tc, .slice ea p3 ec, .slice ka p4 kc], .agg #[.slice lsa m1 lsc, .slice tsa m2 tsc, .string key, .int .i64 dir, .slice nsa m3 nsc], .pointer (some ⟨w.heap.size, 0, none⟩), .pointer (some ⟨w.heap.size + 1, 0, none⟩), .bool false, .slice (some ⟨bv, ov, none⟩) m2 vc, .string lab, .string kind, undef, undef, undef, undef, u12, u13, u14, u15, u16, u17, u18, u19, u20, u21, u22, u23, u24, u25, u26, u27, u28, u29, u30, u31, u32, u33, u34, u35, u36, u37, u38, u39, u40, u41, u42, u43, u44, u45, u46, u47, u48, u49, u50, u51, u52, u53, u54, u55, u56, u57, u58, u59, u60, u61, u62, u63, u64, u65, u66, u67, u68, u69, u70, u71, u72, u73, u74, u75, u76, u77, u78, u79, u80, u81, u82, u83, u84, u85, u86, u87, u88, u89, u90, u91, u92, u93, u94, u95, u96, u97, u98, u99, u100, u101, u102, u103, u104, u105, u106, u107, u108, u109, u110, u111, u112, u113, u114, u115, u116, u117, u118, u119, u120, u121, u122, u123, u124, u125, u126, u127, u128, u129, u130, u131, u132, u133, u134, u135, u136, u137, u138, u139, u140, u141, u142, u143, u144, u145, u146, u147, u148, u149, u150, u151, u152, u153, u154, u155, u156, u157, u158, u159, u160, u161, u162, u163, u164, u165, u166, u167, u168, u169, u170, u171, u172, u173, u174, u175, u176, u177, u178, u179, u180, u181, u182, u183, u184, u185, u186, u187, u188, u189, u190, u191, u192, u193, u194, u195, u196, u197, u198, u199, u200, u201, u202, u203, u204, u205, u206, u207, u208, u209, u210, u211, u212, u213, u214, u215, u216, u217, u218], defers := [] } w' := by
  conv =>
    arg 2
    whnf
  try dsimp only
  go_upto_region 12 with fail
  obtain ⟨ik, hik⟩ : ∃ n, seekI s lab key = n := ⟨_, rfl⟩
  obtain ⟨ifn, hifn⟩ : ∃ n, fanI s dir ts = n := ⟨_, rfl⟩
  obtain ⟨ifr, hifr⟩ : ∃ n, fromI s lab dir ts = n := ⟨_, rfl⟩
  have H24 : Hid (∀ W, Below wc.heap.size wc W → Calls Tryz.prog 24 #[.agg #[.int .i64 sn, .int .i64 sr, .slice la p1 lc, .slice ta p2 tc, .slice ea p3 ec, .slice ka p4 kc], .string lab, .string key] W fun e w' => e = .returned (.int .i64 ik) ∧ Below W.heap.size W w') := fun W hb => by
    have h := seek_any s _ _ _ _ lab key _ W hb.size (HS4.out.keep hb) HOL.out HOK.out.1
    rwa [HV.out, hik] at h
  have H25 : Hid (∀ W, Below wc.heap.size wc W → Calls Tryz.prog 25 #[.agg #[.int .i64 sn, .int .i64 sr, .slice la p1 lc, .slice ta p2 tc, .slice ea p3 ec, .slice ka p4 kc], .string lab, .string key] W fun e w' => e = .returned (.int .i64 ik) ∧ Below W.heap.size W w') := fun W hb => by
    have h := rseek_any s _ _ _ _ lab key _ W hb.size (HS4.out.keep hb) HOL.out HOK.out.1
    rwa [HV.out, seek_same, hik] at h
  have H26 : Hid (∀ W, Below wc.heap.size wc W → Calls Tryz.prog 26 #[.agg #[.int .i64 sn, .int .i64 sr, .slice la p1 lc, .slice ta p2 tc, .slice ea p3 ec, .slice ka p4 kc], .int .i64 dir, .slice (some ⟨bv, ov, none⟩) m2 vc] W fun e w' => e = .returned (.int .i64 ifn) ∧ Below W.heap.size W w') := fun W hb => by
    have h := fan_any s _ _ _ _ _ dir ts _ W hb.size (HS4.out.keep hb) (HVT.out.keep hb) HOK.out.2.2 hmt
    rwa [HV.out, hifn] at h
  have H27 : Hid (∀ W, Below wc.heap.size wc W → Calls Tryz.prog 27 #[.agg #[.int .i64 sn, .int .i64 sr, .slice la p1 lc, .slice ta p2 tc, .slice ea p3 ec, .slice ka p4 kc], .int .i64 dir, .slice tsa m2 tsc] W fun e w' => e = .returned (.int .i64 ifn) ∧ Below W.heap.size W w') := fun W hb => by
    have h := rfan_any s _ _ _ _ _ dir ts _ W hb.size (HS4.out.keep hb) (HT4.out.keep hb) HOK.out.2.2 hmt
    rwa [HV.out, fan_same, hifn] at h
  have H28 : Hid (∀ W, Below wc.heap.size wc W → Calls Tryz.prog 28 #[.agg #[.int .i64 sn, .int .i64 sr, .slice la p1 lc, .slice ta p2 tc, .slice ea p3 ec, .slice ka p4 kc], .string lab, .int .i64 dir, .slice (some ⟨bv, ov, none⟩) m2 vc] W fun e w' => e = .returned (.int .i64 ifr) ∧ Below W.heap.size W w') := fun W hb => by
    have h := from_any s _ _ _ _ _ lab dir ts _ W hb.size (HS4.out.keep hb) (HVT.out.keep hb) HOL.out HOK.out.2.2 hmt
    rwa [HV.out, hifr] at h
  have H29 : Hid (∀ W, Below wc.heap.size wc W → Calls Tryz.prog 29 #[.agg #[.int .i64 sn, .int .i64 sr, .slice la p1 lc, .slice ta p2 tc, .slice ea p3 ec, .slice ka p4 kc], .string lab, .int .i64 dir, .slice tsa m2 tsc] W fun e w' => e = .returned (.int .i64 ifr) ∧ Below W.heap.size W w') := fun W hb => by
    have h := rfrom_any s _ _ _ _ _ lab dir ts _ W hb.size (HS4.out.keep hb) (HT4.out.keep hb) HOL.out HOK.out.2.2 hmt
    rwa [HV.out, from_same, hifr] at h
  clear hik hifn hifr
  have HA1' := hidE (HA1.out.below HB5.out HA1.out.lt)
  have HA2' := hidE (HA2.out.below HB5.out HA2.out.lt)
  have up_ne : Nonempty (Up w') := ⟨⟨w', Below.refl _ _⟩⟩
  have e0 : ∀ u : Up w', u.x.cell? ⟨w.heap.size, 0, none⟩ = some (.int .i64 sn) := fun u => u.cell (HA1'.out.cell 0 rfl)
  have e1 : ∀ u : Up w', u.x.cell? ⟨w.heap.size, 1, none⟩ = some (.int .i64 sr) := fun u => u.cell (HA1'.out.cell 1 rfl)
  have e2 : ∀ u : Up w', u.x.cell? ⟨w.heap.size, 2, none⟩ = some (.slice la p1 lc) := fun u => u.cell (HA1'.out.cell 2 rfl)
  have e3 : ∀ u : Up w', u.x.cell? ⟨w.heap.size, 3, none⟩ = some (.slice ta p2 tc) := fun u => u.cell (HA1'.out.cell 3 rfl)
  have e4 : ∀ u : Up w', u.x.cell? ⟨w.heap.size, 4, none⟩ = some (.slice ea p3 ec) := fun u => u.cell (HA1'.out.cell 4 rfl)
  have e5 : ∀ u : Up w', u.x.cell? ⟨w.heap.size, 5, none⟩ = some (.slice ka p4 kc) := fun u => u.cell (HA1'.out.cell 5 rfl)
  have f1 : ∀ u : Up w', u.x.cell? ⟨w.heap.size + 1, 1, none⟩ = some (.slice tsa m2 tsc) := fun u => u.cell (HA2'.out.cell 1 rfl)
  have f2 : ∀ u : Up w', u.x.cell? ⟨w.heap.size + 1, 2, none⟩ = some (.string key) := fun u => u.cell (HA2'.out.cell 2 rfl)
  have f3 : ∀ u : Up w', u.x.cell? ⟨w.heap.size + 1, 3, none⟩ = some (.int .i64 dir) := fun u => u.cell (HA2'.out.cell 3 rfl)
  refine wp_up (by kernel_rfl) (by kernel_rfl) ?_
  repeat (go_big_quiet_step (first | (go_at_call 24; exact Up.call (H24.out _ (Below.on HB5.out (Up.b _)))) | (go_at_call 25; exact Up.call (H25.out _ (Below.on HB5.out (Up.b _)))) | (go_at_call 26; exact Up.call (H26.out _ (Below.on HB5.out (Up.b _)))) | (go_at_call 27; exact Up.call (H27.out _ (Below.on HB5.out (Up.b _)))) | (go_at_call 28; exact Up.call (H28.out _ (Below.on HB5.out (Up.b _)))) | (go_at_call 29; exact Up.call (H29.out _ (Below.on HB5.out (Up.b _))))))
  refine wpQuiet_nil ?_
  rintro w6 ⟨⟨W6, hb6⟩, rfl⟩
  clear e0 e1 e2 e3 e4 e5 f1 f2 f3 up_ne H24 H25 H26 H27 H28 H29 HA1' HA2'
  have HB6 := hidE (Below.on HB5.out hb6)
  clear hb6
  go_wp2_with fail
  all_goals exact HB6.out
end Go.Proofs.YthfilnflgahcjaaGreatDoor
