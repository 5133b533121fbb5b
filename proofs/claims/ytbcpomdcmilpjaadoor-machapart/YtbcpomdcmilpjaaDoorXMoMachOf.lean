/- Our own: texts joined: MoMachOf. -/
import Derived.Test.YtbcpomdcmilpjaaDoorXMoEnt
import Derived.Test.YtbcpomdcmilpjaaDoorXCdM
import Derived.Test.YtbcpomdcmilpjaaDoorXUntM
import Derived.Deep.LoopGhost
import Derived.Deep.DeepCutAuto
import Derived.Deep.CutBlock
import Derived.Deep.RegionHeld3
import Derived.Deep.AppendLies
namespace Go.Proofs.YtbcpomdcmilpjaaDoor
open Go.RowKit
set_option maxRecDepth 100000 in
set_option maxHeartbeats 16000000 in
theorem machOf_any {w : World} (I : Im) (hW : WellI I) (adf adw : Option Addr) (cf cw : Nat) (hF : XMf (InH w) w (.slice adf I.funs.length cf) I.funs) (hWd : XRow (InH w) w (.slice adw I.words.length cw) I.words.length (wosV I.words)) (hwv : ∀ v ∈ I.words, v < 18446744073709551616) (which : Nat) (hwh : which < I.funs.length) (args : List Int) (h4 : args.length ≤ 4) (h64 : ∀ v ∈ args, In64 v) (aad : Option Addr) (ac : Nat) (hargs : XRow (InH w) w (.slice aad args.length ac) args.length (intsG args)) (ticks most : Nat) (htk : ticks ≤ 5000) (hmo : most ≤ 1000000) :
  Calls Tryd.prog 14 #[.agg #[.slice adf I.funs.length cf, .slice adw I.words.length cw], .int .i64 (which : Int), .slice aad args.length ac, .int .i64 (ticks : Int), .int .i64 (most : Int)] w (OutO w I ticks most (enterM I ticks ⟨[], 0⟩ [] (which : Int) (four args) 0)) := by
 have hwl := hW.wl
 have hfl := hW.fl
 have hwl' : (I.words.length : Int) ≤ 8000 := by omega
 have hfl' : (I.funs.length : Int) ≤ 8 := by omega
 have hal' : (args.length : Int) ≤ 4 := by omega
 have hmo' : (most : Int) ≤ 1000000 := by omega
 have htk' : (ticks : Int) ≤ 5000 := by omega
 have HF := hidX hF
 have HWD := hidX hWd
 have HWV := hidX hwv
 have HAR := hidX hargs
 have HW := hidX hW
 have H64 := hidX h64
 generalize hS0 : enterM I ticks ⟨[], 0⟩ [] (which : Int) (four args) 0 = S0
 have HS0 := hidX hS0
 have hM0 := mo_start w (.slice adf I.funs.length cf) (.slice adw I.words.length cw)
 obtain ⟨W0, hW0⟩ : ∃ W0, W0 = ((((w.alloc (.cells #[.slice adf I.funs.length cf, .slice adw I.words.length cw] 25)).alloc (.cells ocZ 40)).alloc (.cells ocZ 40)).alloc (.cells #[.int .i64 0, .int .i64 0, .int .i64 0, .int .i64 0] 67)) := ⟨_, rfl⟩
 rw [← hW0] at hM0
 have HM0 := hidX hM0
 clear hM0 hF hWd hwv hargs hW hS0 hwl hfl
 go_enter Tryd.func14, Tryd.ntmps14
 go_wp2_with fail
 rw [← hW0]
 clear hW0
 go_loopw [15] (fun v15 wr => ∃ q : Nat, v15 = .int .i64 (q : Int) ∧ q ≤ args.length ∧ Hid (Mo w wr (.slice adf I.funs.length cf) (.slice adw I.words.length cw) [] (.slice none 0 0) (.slice none 0 0) ⟨[], 0⟩ (four (args.take q)))) (fun v15 _ => args.length - (intOf v15).toNat)
 case atStart => exact ⟨0, rfl, by omega, HM0.out⟩
 case round =>
  obtain ⟨q, rfl, hq, HM⟩ := hrel
  by_cases hlt : q < args.length
  ·as_aux_lemma =>
    have hlt' : (q : Int) < (args.length : Int) := by omega
    obtain ⟨ga, oa, rfl, hga, ka⟩ := HAR.out.int hlt
    replace ka := (HM.out.low.cell (p := ⟨ga, _, none⟩) hga).trans ka
    have HX := hidX ((four_set h4 hlt))
    have HV := hidX (H64.out _ (List.getElem_mem hlt))
    generalize args[q] = y at ka HX HV
    have hn4 := HM.out.n4
    have hnb := HM.out.nb
    have hq4 : (q : Int) < 4 := by omega
    have g1 : wr.cell? ⟨w.heap.size + 1 + 1 + 1, q, none⟩ = some (.int .i64 ((four (args.take q))[q]'(by rw [hn4]; omega))) := by rw [cell_of_blk hnb q, List.getElem?_toArray, intsG_at (by rw [hn4]; omega)]
    have g2 := free_of_blk hnb q
    generalize ((four (args.take q))[q]'(by rw [hn4]; omega)) = y0 at g1
    have HN := hidX (show Mo w (wr.setCell ⟨w.heap.size + 1 + 1 + 1, q, none⟩ (.int .i64 y)) (.slice adf I.funs.length cf) (.slice adw I.words.length cw) [] (.slice none 0 0) (.slice none 0 0) ⟨[], 0⟩ (four (args.take (q + 1))) from by
     refine HM.out.next (But.set (But.refl _ _) _ _) ?_ (four_len (by rw [List.length_take]; omega)) (four_in64 (fun v hv => H64.out v (List.mem_of_mem_take hv)))
     have := blk_setCell hnb q (.int .i64 y)
     rw [List.setIfInBounds_toArray, intsG_setL, HX.out] at this
     exact this)
    have HND := hidX (show Mo w (wr.drew.setCell ⟨w.heap.size + 1 + 1 + 1, q, none⟩ (.int .i64 y)) (.slice adf I.funs.length cf) (.slice adw I.words.length cw) [] (.slice none 0 0) (.slice none 0 0) ⟨[], 0⟩ (four (args.take (q + 1))) from by
     refine HM.out.next (But.set (But.drew (But.refl _ _)) _ _) ?_ (four_len (by rw [List.length_take]; omega)) (four_in64 (fun v hv => H64.out v (List.mem_of_mem_take hv)))
     have := blk_setCell (show wr.drew.heap[w.heap.size + 1 + 1 + 1]? = _ from hnb) q (.int .i64 y)
     rw [List.setIfInBounds_toArray, intsG_setL, HX.out] at this
     exact this)
    clear hnb
    go_wp2
    go_roundw
    case rel => exact ⟨q + 1, by go_num, by omega, by first | exact HN.out | exact HND.out⟩
    all_goals (simp [intOf]; omega)
  ·have hqe : q = args.length := by omega
   subst hqe
   have hnlt : ¬ ((args.length : Int) < (args.length : Int)) := by omega
   rw [List.take_length] at HM
   clear HAR HM0 hlt hq
   go_wp2_with fail
   go_loopg [12, 13, 16, 17] (most + 1) (fun k v12 v13 v16 v17 wr => ∃ (n t : Nat) (en : Int) (S : List En) (ov : Value) (g : Gm) (nx : List Int), v13 = .int .i64 en ∧ v16 = .int .i64 (t : Int) ∧ v17 = .int .i64 (n : Int) ∧ n ≤ most ∧ most - n < k ∧ Hid (AtM I ticks S0 n en t S g nx) ∧ Hid (Mo w wr (.slice adf I.funs.length cf) (.slice adw I.words.length cw) S v12 ov g nx))
   case atStart => exact ⟨0, 0, (which : Int), [], .slice none 0 0, ⟨[], 0⟩, four args, rfl, rfl, rfl, by omega, by omega, ⟨Or.inl ⟨by omega, by omega, HS0.out.symm⟩, by omega, by simp, by simp, by simp, by simp, by simp⟩, HM.out⟩
   case round =>
    obtain ⟨n, t, en, S, ov, g, nx, rfl, rfl, rfl, hn, hnk, HA, HJ⟩ := hrel
    have hn' : (n : Int) ≤ (most : Int) := by omega
    clear HM HS0
    go_upto_block 3 with fail
    refine wp_block (wp_seq (enter_any HA.out HJ.out HF.out HW.out htk hn (fun _ _ d _ _ h => by cases d <;> exact h) ?hN ?hE))
    case hE =>
     as_aux_lemma =>
      rintro u12 u13 u18 u43 u44 u45 u46 u47 u48 u49 u50 u51 u52 u53 u54 u55 u56 u57 u58 u59 u60 u61 u62 u63 u64 u65 u66 u67 u68 u69 u70 u71 u72 u73 u74 u75 u76 u77 w1 ⟨⟨how, v2, ov2, g2, hfin, hol, hend⟩⟩
      (try simp only [Exit.inBlock, Exit.then])
      exact ret_row (w.heap.size + 1) 10 _ 40 rfl rfl hfin.res Tryd.underlying40 (by kernel_rfl) (hfin.outO hol hend)
    case hN =>
     have ht8 := HA.out.t8
     clear HA HJ
     rintro u12 u13 u18 u43 u44 u45 u46 u47 u48 u49 u50 u51 u52 u53 u54 u55 u56 u57 u58 u59 u60 u61 u62 u63 u64 u65 u66 u67 u68 u69 u70 u71 u72 u73 u74 u75 u76 u77 w1 ⟨⟨h, f, fb, sb⟩, S2, ov2, g2, rfl, hR, hM⟩
     obtain ⟨cad, ccap, rfl⟩ := own_is hM.row
     show Code.wp _ _ _ _ _
     refine word_any hM rfl hR ht8 HF.out HWD.out HWV.out HW.out htk hn (fun _ _ d _ _ h => by cases d <;> exact h) ?hN ?hE ?hB
     case hN =>
      as_aux_lemma =>
       rintro v12 v13 v16 v19 v20 v21 v22 v23 v78 v79 v80 v81 v82 v83 v84 v85 v86 v87 v88 v89 v90 v91 v92 v93 v94 v95 v96 v97 v98 v99 v100 v101 v102 v103 v104 v105 v106 v107 v108 v109 v110 v111 v112 v113 v114 v115 v116 v117 v118 v119 v120 v121 v122 v123 v124 v125 v126 v127 v128 v129 v130 v131 v132 v133 v134 v135 v136 v137 v138 v139 v140 v141 v142 v143 v144 v145 v146 v147 v148 v149 v150 v151 v152 v153 v154 v155 v156 v157 v158 v159 v160 v161 v162 v163 v164 v165 v166 v167 v168 v169 v170 v171 v172 v173 v174 v175 v176 v177 v178 v179 v180 v181 v182 v183 v184 v185 v186 v187 v188 v189 v190 v191 v192 v193 v194 v195 v196 v197 v198 v199 v200 v201 v202 v203 v204 v205 v206 v207 v208 v209 v210 v211 v212 v213 v214 v215 v216 v217 v218 v219 v220 v221 v222 v223 v224 v225 v226 v227 v228 v229 v230 v231 v232 v233 v234 v235 v236 v237 v238 v239 v240 v241 v242 v243 v244 v245 v246 v247 v248 v249 v250 v251 v252 v253 v254 v255 v256 v257 v258 v259 v260 v261 v262 v263 v264 v265 v266 v267 v268 v269 v270 v271 v272 v273 v274 v275 v276 v277 v278 v279 v280 v281 v282 v283 v284 v285 v286 v287 v288 v289 v290 v291 v292 v293 v294 v295 v296 v297 v298 v299 v300 v301 v302 v303 v304 v305 v306 v307 v308 v309 v310 v311 v312 v313 v314 v315 v316 v317 v318 v319 v320 v321 v322 v323 v324 v325 v326 v327 v328 v329 v330 v331 v332 v333 v334 v335 v336 v337 v338 v339 v340 v341 v342 v343 v344 v345 v346 v347 v348 v349 v350 v351 v352 v353 v354 v355 v356 v357 v358 v359 v360 v361 v362 v363 v364 v365 v366 v367 v368 v369 v370 v371 v372 v373 v374 w3 ⟨⟨en3, t3, S3, ov3, g3, nx3, rfl, rfl, hA3, hM3⟩⟩ hlt
       have HA3 := hidX hA3
       have HM3 := hidX hM3
       clear hA3 hM3 hM hR
       simp only [Exit.inBlock]
       go_wp2
       go_roundg (most - (n + 1) + 1)
       case rel => exact ⟨n + 1, t3, en3, S3, ov3, g3, nx3, by go_num, by go_num, by go_num, by omega, by omega, HA3, HM3⟩
       all_goals omega
     case hE =>
      as_aux_lemma =>
       rintro v12 v13 v16 v19 v20 v21 v22 v23 v78 v79 v80 v81 v82 v83 v84 v85 v86 v87 v88 v89 v90 v91 v92 v93 v94 v95 v96 v97 v98 v99 v100 v101 v102 v103 v104 v105 v106 v107 v108 v109 v110 v111 v112 v113 v114 v115 v116 v117 v118 v119 v120 v121 v122 v123 v124 v125 v126 v127 v128 v129 v130 v131 v132 v133 v134 v135 v136 v137 v138 v139 v140 v141 v142 v143 v144 v145 v146 v147 v148 v149 v150 v151 v152 v153 v154 v155 v156 v157 v158 v159 v160 v161 v162 v163 v164 v165 v166 v167 v168 v169 v170 v171 v172 v173 v174 v175 v176 v177 v178 v179 v180 v181 v182 v183 v184 v185 v186 v187 v188 v189 v190 v191 v192 v193 v194 v195 v196 v197 v198 v199 v200 v201 v202 v203 v204 v205 v206 v207 v208 v209 v210 v211 v212 v213 v214 v215 v216 v217 v218 v219 v220 v221 v222 v223 v224 v225 v226 v227 v228 v229 v230 v231 v232 v233 v234 v235 v236 v237 v238 v239 v240 v241 v242 v243 v244 v245 v246 v247 v248 v249 v250 v251 v252 v253 v254 v255 v256 v257 v258 v259 v260 v261 v262 v263 v264 v265 v266 v267 v268 v269 v270 v271 v272 v273 v274 v275 v276 v277 v278 v279 v280 v281 v282 v283 v284 v285 v286 v287 v288 v289 v290 v291 v292 v293 v294 v295 v296 v297 v298 v299 v300 v301 v302 v303 v304 v305 v306 v307 v308 v309 v310 v311 v312 v313 v314 v315 v316 v317 v318 v319 v320 v321 v322 v323 v324 v325 v326 v327 v328 v329 v330 v331 v332 v333 v334 v335 v336 v337 v338 v339 v340 v341 v342 v343 v344 v345 v346 v347 v348 v349 v350 v351 v352 v353 v354 v355 v356 v357 v358 v359 v360 v361 v362 v363 v364 v365 v366 v367 v368 v369 v370 v371 v372 v373 v374 w3 ⟨⟨how, v3, ov3, g3, hfin, hol, hend⟩⟩
       (try simp only [Exit.inBlock, Exit.then])
       exact ret_row (w.heap.size + 1) 10 _ 40 rfl rfl hfin.res Tryd.underlying40 (by kernel_rfl) (hfin.outO hol hend)
     case hB =>
      as_aux_lemma =>
       rintro v12 v13 v16 v19 v20 v21 v22 v23 v78 v79 v80 v81 v82 v83 v84 v85 v86 v87 v88 v89 v90 v91 v92 v93 v94 v95 v96 v97 v98 v99 v100 v101 v102 v103 v104 v105 v106 v107 v108 v109 v110 v111 v112 v113 v114 v115 v116 v117 v118 v119 v120 v121 v122 v123 v124 v125 v126 v127 v128 v129 v130 v131 v132 v133 v134 v135 v136 v137 v138 v139 v140 v141 v142 v143 v144 v145 v146 v147 v148 v149 v150 v151 v152 v153 v154 v155 v156 v157 v158 v159 v160 v161 v162 v163 v164 v165 v166 v167 v168 v169 v170 v171 v172 v173 v174 v175 v176 v177 v178 v179 v180 v181 v182 v183 v184 v185 v186 v187 v188 v189 v190 v191 v192 v193 v194 v195 v196 v197 v198 v199 v200 v201 v202 v203 v204 v205 v206 v207 v208 v209 v210 v211 v212 v213 v214 v215 v216 v217 v218 v219 v220 v221 v222 v223 v224 v225 v226 v227 v228 v229 v230 v231 v232 v233 v234 v235 v236 v237 v238 v239 v240 v241 v242 v243 v244 v245 v246 v247 v248 v249 v250 v251 v252 v253 v254 v255 v256 v257 v258 v259 v260 v261 v262 v263 v264 v265 v266 v267 v268 v269 v270 v271 v272 v273 v274 v275 v276 v277 v278 v279 v280 v281 v282 v283 v284 v285 v286 v287 v288 v289 v290 v291 v292 v293 v294 v295 v296 v297 v298 v299 v300 v301 v302 v303 v304 v305 v306 v307 v308 v309 v310 v311 v312 v313 v314 v315 v316 v317 v318 v319 v320 v321 v322 v323 v324 v325 v326 v327 v328 v329 v330 v331 v332 v333 v334 v335 v336 v337 v338 v339 v340 v341 v342 v343 v344 v345 v346 v347 v348 v349 v350 v351 v352 v353 v354 v355 v356 v357 v358 v359 v360 v361 v362 v363 v364 v365 v366 v367 v368 v369 v370 v371 v372 v373 v374 w3 ⟨S3, ov3, g3, nx3, hM3, hol3, hend3⟩
       have HJ := hidX hM3
       have HE := hidX hend3
       have HOL := hidX hol3
       clear hM3 hend3 hol3 hM hR
       simp only [Exit.inBlock]
       obtain ⟨oad, ocap, rfl⟩ := own_is HJ.out.out
       have hmo2 := HJ.out
       have o0 := cell_of_blk hmo2.ob 0
       have o1 := cell_of_blk hmo2.ob 1
       have o2 := cell_of_blk hmo2.ob 2
       have o3 := cell_of_blk hmo2.ob 3
       have fo0 := free_of_blk hmo2.ob 0
       have fo1 := free_of_blk hmo2.ob 1
       have r0 := cell_of_blk hmo2.res 0
       have r1 := cell_of_blk hmo2.res 1
       have r2 := cell_of_blk hmo2.res 2
       have r3 := cell_of_blk hmo2.res 3
       have fr0 := free_of_blk hmo2.res 0
       have fr1 := free_of_blk hmo2.res 1
       have fr2 := free_of_blk hmo2.res 2
       have fr3 := free_of_blk hmo2.res 3
       simp only [List.getElem?_toArray, List.getElem?_cons_zero, List.getElem?_cons_succ] at o0 o1 o2 o3 r0 r1 r2 r3
       clear hmo2
       go_wp2
       (try simp only [Exit.inBlock, Exit.then])
       have hfin := HJ.out.fin (Y := _) (But.set (But.refl _ _) 0 (.string ⟨(hStuck).toArray⟩)) hStuck 0
       exact ret_row (w.heap.size + 1) 10 _ 40 rfl rfl hfin.res Tryd.underlying40 (by kernel_rfl) (hfin.outO HOL.out HE.out)
end Go.Proofs.YtbcpomdcmilpjaaDoor
