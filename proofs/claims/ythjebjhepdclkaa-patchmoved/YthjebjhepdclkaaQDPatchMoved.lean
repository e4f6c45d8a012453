import Derived.Test.YthjebjhepdclkaaQCPatchMoved
import Derived.BigQuiet
import Derived.Lib.QuietBelow
import Derived.Test.YthjebjhepdclkaaQAPatchMoved
import Derived.Deep.RegionHeld3
import Derived.Deep.DeepCutAuto
import Derived.Test.YthjebjhepdclkaaQBPatchMoved
import Derived.Deep.CutBlock
/- PatchMoved: the order of a great region. -/
namespace Go.Proofs.Ythjebjhepdclkaa
open Go.RowKit Go.Shelf

def lexPart (md : Region.Mode) (ops : Array Oper) : Nat → Nat → Array Bool → Bool
  | 0, _, _ => true
  | m + 1, k, listed => (Region.ready md ops listed).contains k && Region.free md ops listed k && lexPart md ops m (k + 1) (listed.setIfInBounds k true)
def setMany : Nat → Nat → Array Bool → Array Bool
  | 0, _, l => l
  | m + 1, k, l => setMany m (k + 1) (l.setIfInBounds k true)
theorem lex_parts (md : Region.Mode) (ops : Array Oper) (n : Nat) : ∀ (m k : Nat) (l l' : Array Bool), lexPart md ops m k l = true → setMany m k l = l' → Region.lexFrom md ops n (k + m) l' = true → Region.lexFrom md ops (n + m) k l = true
  | 0, k, l, l', _, h2, h3 => by simp only [setMany] at h2; subst h2; exact h3
  | m + 1, k, l, l', h1, h2, h3 => by
    simp only [lexPart, Bool.and_eq_true] at h1
    rw [Nat.add_succ]
    simp only [Region.lexFrom, Bool.and_eq_true]
    exact ⟨h1.1, lex_parts md ops n m (k + 1) _ l' h1.2 h2 (by rw [Nat.add_assoc, Nat.add_comm 1 m]; exact h3)⟩
def opsOf : Code → Array Oper
  | .region _ ops _ => ops
  | _ => #[]
noncomputable def pmR24 : Code := (Try.f3.body.bind (regionOf 24)).getD .skip
noncomputable def opsR : Array Oper := opsOf pmR24
def lq0 : Array Bool := ⟨List.replicate 0 true ++ List.replicate 102 false⟩
def lq17 : Array Bool := ⟨List.replicate 17 true ++ List.replicate 85 false⟩
def lq34 : Array Bool := ⟨List.replicate 34 true ++ List.replicate 68 false⟩
def lq51 : Array Bool := ⟨List.replicate 51 true ++ List.replicate 51 false⟩
def lq68 : Array Bool := ⟨List.replicate 68 true ++ List.replicate 34 false⟩
def lq85 : Array Bool := ⟨List.replicate 85 true ++ List.replicate 17 false⟩
def lq102 : Array Bool := ⟨List.replicate 102 true⟩
theorem lxp0 : lexPart .any opsR 17 0 lq0 = true := by kernel_rfl
theorem lxs0 : setMany 17 0 lq0 = lq17 := by kernel_rfl
theorem lxp17 : lexPart .any opsR 17 17 lq17 = true := by kernel_rfl
theorem lxs17 : setMany 17 17 lq17 = lq34 := by kernel_rfl
theorem lxp34 : lexPart .any opsR 17 34 lq34 = true := by kernel_rfl
theorem lxs34 : setMany 17 34 lq34 = lq51 := by kernel_rfl
theorem lxp51 : lexPart .any opsR 17 51 lq51 = true := by kernel_rfl
theorem lxs51 : setMany 17 51 lq51 = lq68 := by kernel_rfl
theorem lxp68 : lexPart .any opsR 17 68 lq68 = true := by kernel_rfl
theorem lxs68 : setMany 17 68 lq68 = lq85 := by kernel_rfl
theorem lxp85 : lexPart .any opsR 17 85 lq85 = true := by kernel_rfl
theorem lxs85 : setMany 17 85 lq85 = lq102 := by kernel_rfl
theorem lxe : Region.lexFrom .any opsR 0 102 lq102 = true := by kernel_rfl
theorem lxt85 : Region.lexFrom .any opsR 17 85 lq85 = true := lex_parts .any opsR 0 17 85 lq85 lq102 lxp85 lxs85 lxe
theorem lxt68 : Region.lexFrom .any opsR 34 68 lq68 = true := lex_parts .any opsR 17 17 68 lq68 lq85 lxp68 lxs68 lxt85
theorem lxt51 : Region.lexFrom .any opsR 51 51 lq51 = true := lex_parts .any opsR 34 17 51 lq51 lq68 lxp51 lxs51 lxt68
theorem lxt34 : Region.lexFrom .any opsR 68 34 lq34 = true := lex_parts .any opsR 51 17 34 lq34 lq51 lxp34 lxs34 lxt51
theorem lxt17 : Region.lexFrom .any opsR 85 17 lq17 = true := lex_parts .any opsR 68 17 17 lq17 lq34 lxp17 lxs17 lxt34
theorem lxt0 : Region.lexFrom .any opsR 102 0 lq0 = true := lex_parts .any opsR 85 17 0 lq0 lq17 lxp0 lxs0 lxt17
theorem lexR24 : Region.lexB .any opsR = true := by
  unfold Region.lexB
  rw [Bool.and_eq_true]
  refine ⟨by kernel_rfl, ?_⟩
  have e1 : opsR.size = 102 := by kernel_rfl
  have e2 : Array.replicate 102 false = lq0 := by kernel_rfl
  rw [e1, e2]
  exact lxt0
end Go.Proofs.Ythjebjhepdclkaa
/- PatchMoved: the guard of a patch. -/
namespace Go.Proofs.Ythjebjhepdclkaa
open Go.RowKit Go.Shelf

attribute [local go_sem ↓] Go.wp_at_zero Go.wp_at_succ
set_option maxHeartbeats 12800000 in
set_option maxRecDepth 100000 in
theorem pm_r24 (u0 u1 u2 u3 u4 u5 u6 u7 u9 u10 u11 u12 u13 u14 u15 u16 u18 u20 u22 u23 u26 u27 u28 u29 u30 u31 u32 u33 u34 u35 u36 u37 u38 u39 u40 u41 u42 u43 u44 u45 u46 u47 u48 u49 u50 u51 u52 u53 u54 u55 u56 u57 u58 u59 u60 u61 u62 u63 u64 u65 u66 u67 u68 u69 u70 u71 u72 u73 u74 u75 u76 u77 u78 u79 u80 u81 u82 u83 u84 u85 u86 u87 u88 u89 u90 u91 u92 u93 u94 u95 u96 u97 u98 u99 u100 u101 u102 u103 u104 u105 u106 u107 u108 u109 u110 u111 u112 u113 u114 u115 u116 u117 u118 u119 u120 u121 u122 u123 u124 u125 u126 u127 u128 u129 u130 u131 u132 u133 u134 u135 u136 u137 u138 u139 u140 u141 u142 u143 u144 u145 u146 u147 u148 u149 u150 u151 u152 u153 u154 u155 u156 u157 u158 u159 u160 u161 u162 u163 u164 u165 u166 u167 u168 u169 u170 u171 u172 u173 u174 u175 u176 u177 u178 u179 u180 u181 u182 u183 u184 u185 u186 u187 u188 u189 u190 u191 u192 u193 u194 u195 u196 u197 u198 u199 u200 u201 u202 u203 u204 u205 u206 u207 u208 u209 u210 u211 u212 u213 u214 u215 u216 u217 u218 u219 u220 u221 u222 u223 u224 u225 u226 u227 u228 u229 u230 u231 u232 u233 u234 u235 u236 u237 u238 u239 u240 u241 u242 u243 u244 u245 u246 u247 u248 u249 u250 u251 u252 u253 u254 u255 u256 u257 u258 u259 u260 u261 u262 u263 u264 u265 u266 u267 u268 u269 u270 u271 u272 u273 u274 u275 u276 u277 u278 u279 u280 u281 u282 u283 u284 u285 u286 u287 u288 u289 u290 u291 u292 u293 u294 u295 u296 u297 u298 u299 u300 u301 u302 u303 u304 u305 u306 u307 u308 u309 u310 u311 u312 u313 u314 u315 u316 u317 u318 u319 u320 u321 u322 u323 u324 u325 u326 u327 u328 u329 u330 u331 u332 u333 u334 u335 u336 u337 u338 u339 u340 u341 u342 u343 u344 u345 u346 u347 u348 u349 u350 u351 u352 u353 u354 u355 u356 u357 u358 u359 u360 u361 u362 u363 u364 u365 u366 u367 u368 u369 u370 u371 u372 u373 u374 u375 u376 u377 u378 u379 u380 u381 u382 u383 u384 u385 u386 u387 u388 u389 u390 u391 u392 u393 u394 u395 u396 u397 u398 u399 u400 u401 u402 u403 u404 u405 u406 u407 u408 u409 u410 u411 u412 u413 u414 u415 u416 u417 u418 u419 u420 u421 u422 u423 u424 u425 u426 u427 u428 u429 u430 u431 u432 u433 u434 u435 u436 u437 u438 u439 u440 u441 u442 u443 u444 u445 u446 u447 u448 u449 u450 u451 u452 u453 u454 u455 u456 u457 u458 u459 u460 u461 u462 u463 u464 u465 u466 u467 u468 u469 u470 u471 u472 u473 u474 u475 u476 u477 u478 u479 u480 u481 u482 u483 u484 u485 u486 u487 u488 u489 u490 u491 u492 u493 u494 u495 u496 u497 u498 u499 u500 u501 u502 u503 u504 u505 u506 : Value) (W : World) (bC g2 g3 g4 P M d i R S RS : Nat) (cap2 cap3 cap4 : Nat) (mz : Int) (A2 K2 B2 L2 A3 K3 B3 L3 A4 K4 B4 L4 : Nat) (Q : Exit → Act → World → Prop)
    (hi : (i : Int) < (P : Int)) (hi0 : (0 : Int) ≤ (i : Int)) (wRS : IntKind.i64.wrap ((R : Int) * (S : Int)) = (RS : Int)) (wRM : IntKind.i64.wrap ((RS : Int) * (d : Int)) = (M : Int))
    (c20 : W.cell? ⟨g2, i * 4, none⟩ = some (.int .i64 mz)) (c21 : W.cell? ⟨g2, i * 4 + 1, none⟩ = some (.slice (some ⟨A2, 0, none⟩) M K2)) (c22 : W.cell? ⟨g2, i * 4 + 2, none⟩ = some (.int .i64 mz)) (c23 : W.cell? ⟨g2, i * 4 + 3, none⟩ = some (.slice (some ⟨B2, 0, none⟩) M L2))
    (c30 : W.cell? ⟨g3, i * 4, none⟩ = some (.int .i64 mz)) (c31 : W.cell? ⟨g3, i * 4 + 1, none⟩ = some (.slice (some ⟨A3, 0, none⟩) M K3)) (c32 : W.cell? ⟨g3, i * 4 + 2, none⟩ = some (.int .i64 mz)) (c33 : W.cell? ⟨g3, i * 4 + 3, none⟩ = some (.slice (some ⟨B3, 0, none⟩) M L3))
    (c40 : W.cell? ⟨g4, i * 4, none⟩ = some (.int .i64 mz)) (c41 : W.cell? ⟨g4, i * 4 + 1, none⟩ = some (.slice (some ⟨A4, 0, none⟩) M K4)) (c42 : W.cell? ⟨g4, i * 4 + 2, none⟩ = some (.int .i64 mz)) (c43 : W.cell? ⟨g4, i * 4 + 3, none⟩ = some (.slice (some ⟨B4, 0, none⟩) M L4))
    (k4 : W.cell? ⟨bC, 4, none⟩ = some (.int .i64 (R : Int))) (k5 : W.cell? ⟨bC, 5, none⟩ = some (.int .i64 (S : Int)))
    (cA : ∀ dd os, Calls Try.prog 10 #[rv mz (some ⟨B2, 0, none⟩) M L2, rv mz (some ⟨B3, 0, none⟩) M L3] (Sort.grow (redrawn W dd) os) fun e w'' => e = .returned (.bool true) ∧ ∃ p : Regrown, w'' = Sort.grow (redrawn W p.d) p.os)
    (cB : ∀ dd os, Calls Try.prog 10 #[rv mz (some ⟨A3, 0, none⟩) M K3, rv mz (some ⟨A4, 0, none⟩) M K4] (Sort.grow (redrawn W dd) os) fun e w'' => e = .returned (.bool true) ∧ ∃ p : Regrown, w'' = Sort.grow (redrawn W p.d) p.os)
    (hQ : Hid (∀ (Y : World) (v213 v214 v215 v216 v217 v218 v219 v220 v221 v222 v223 v224 v225 v226 v227 v228 v229 v230 v231 v232 v233 v234 v235 v236 v237 v238 v239 v240 v241 v242 v243 v244 v245 v246 v247 v248 v249 v250 v251 v252 v253 v254 v255 v256 v257 v258 v259 v260 v261 v262 v263 v264 v265 v266 v267 v268 v269 v270 v271 v272 v273 v274 v275 v276 v277 v278 v279 v280 v281 v282 v283 v284 v285 v286 v287 v288 v289 v290 v291 v292 v293 v294 v295 v296 v297 v298 v299 v300 v301 v302 v303 v304 v305 v306 v307 v308 v309 v310 v311 v312 v313 : Value), Below W.heap.size W Y → Q .normal ⟨#[u0, u1, u2, u3, u4, u5, u6, u7, .pointer (some ⟨bC, 0, none⟩), u9, u10, u11, u12, u13, u14, u15, u16, .slice (some ⟨g2, 0, none⟩) P cap2, u18, .slice (some ⟨g3, 0, none⟩) P cap3, u20, .slice (some ⟨g4, 0, none⟩) P cap4, u22, u23, .int .i64 (d : Int), .int .i64 (i : Int), u26, u27, u28, u29, u30, u31, u32, u33, u34, u35, u36, u37, u38, u39, u40, u41, u42, u43, u44, u45, u46, u47, u48, u49, u50, u51, u52, u53, u54, u55, u56, u57, u58, u59, u60, u61, u62, u63, u64, u65, u66, u67, u68, u69, u70, u71, u72, u73, u74, u75, u76, u77, u78, u79, u80, u81, u82, u83, u84, u85, u86, u87, u88, u89, u90, u91, u92, u93, u94, u95, u96, u97, u98, u99, u100, u101, u102, u103, u104, u105, u106, u107, u108, u109, u110, u111, u112, u113, u114, u115, u116, u117, u118, u119, u120, u121, u122, u123, u124, u125, u126, u127, u128, u129, u130, u131, u132, u133, u134, u135, u136, u137, u138, u139, u140, u141, u142, u143, u144, u145, u146, u147, u148, u149, u150, u151, u152, u153, u154, u155, u156, u157, u158, u159, u160, u161, u162, u163, u164, u165, u166, u167, u168, u169, u170, u171, u172, u173, u174, u175, u176, u177, u178, u179, u180, u181, u182, u183, u184, u185, u186, u187, u188, u189, u190, u191, u192, u193, u194, u195, u196, u197, u198, u199, u200, u201, u202, u203, u204, u205, u206, u207, u208, u209, u210, u211, u212, v213, v214, v215, v216, v217, v218, v219, v220, v221, v222, v223, v224, v225, v226, v227, v228, v229, v230, v231, v232, v233, v234, v235, v236, v237, v238, v239, v240, v241, v242, v243, v244, v245, v246, v247, v248, v249, v250, v251, v252, v253, v254, v255, v256, v257, v258, v259, v260, v261, v262, v263, v264, v265, v266, v267, v268, v269, v270, v271, v272, v273, v274, v275, v276, v277, v278, v279, v280, v281, v282, v283, v284, v285, v286, v287, v288, v289, v290, v291, v292, v293, v294, v295, v296, v297, v298, v299, v300, v301, v302, v303, v304, v305, v306, v307, v308, v309, v310, v311, v312, v313, .bool false, u315, u316, u317, u318, u319, u320, u321, u322, u323, u324, u325, u326, u327, u328, u329, u330, u331, u332, u333, u334, u335, u336, u337, u338, u339, u340, u341, u342, u343, u344, u345, u346, u347, u348, u349, u350, u351, u352, u353, u354, u355, u356, u357, u358, u359, u360, u361, u362, u363, u364, u365, u366, u367, u368, u369, u370, u371, u372, u373, u374, u375, u376, u377, u378, u379, u380, u381, u382, u383, u384, u385, u386, u387, u388, u389, u390, u391, u392, u393, u394, u395, u396, u397, u398, u399, u400, u401, u402, u403, u404, u405, u406, u407, u408, u409, u410, u411, u412, u413, u414, u415, u416, u417, u418, u419, u420, u421, u422, u423, u424, u425, u426, u427, u428, u429, u430, u431, u432, u433, u434, u435, u436, u437, u438, u439, u440, u441, u442, u443, u444, u445, u446, u447, u448, u449, u450, u451, u452, u453, u454, u455, u456, u457, u458, u459, u460, u461, u462, u463, u464, u465, u466, u467, u468, u469, u470, u471, u472, u473, u474, u475, u476, u477, u478, u479, u480, u481, u482, u483, u484, u485, u486, u487, u488, u489, u490, u491, u492, u493, u494, u495, u496, u497, u498, u499, u500, u501, u502, u503, u504, u505, u506], []⟩ Y)) :
    Code.wp Try.prog pmR24 Q ⟨#[u0, u1, u2, u3, u4, u5, u6, u7, .pointer (some ⟨bC, 0, none⟩), u9, u10, u11, u12, u13, u14, u15, u16, .slice (some ⟨g2, 0, none⟩) P cap2, u18, .slice (some ⟨g3, 0, none⟩) P cap3, u20, .slice (some ⟨g4, 0, none⟩) P cap4, u22, u23, .int .i64 (d : Int), .int .i64 (i : Int), u26, u27, u28, u29, u30, u31, u32, u33, u34, u35, u36, u37, u38, u39, u40, u41, u42, u43, u44, u45, u46, u47, u48, u49, u50, u51, u52, u53, u54, u55, u56, u57, u58, u59, u60, u61, u62, u63, u64, u65, u66, u67, u68, u69, u70, u71, u72, u73, u74, u75, u76, u77, u78, u79, u80, u81, u82, u83, u84, u85, u86, u87, u88, u89, u90, u91, u92, u93, u94, u95, u96, u97, u98, u99, u100, u101, u102, u103, u104, u105, u106, u107, u108, u109, u110, u111, u112, u113, u114, u115, u116, u117, u118, u119, u120, u121, u122, u123, u124, u125, u126, u127, u128, u129, u130, u131, u132, u133, u134, u135, u136, u137, u138, u139, u140, u141, u142, u143, u144, u145, u146, u147, u148, u149, u150, u151, u152, u153, u154, u155, u156, u157, u158, u159, u160, u161, u162, u163, u164, u165, u166, u167, u168, u169, u170, u171, u172, u173, u174, u175, u176, u177, u178, u179, u180, u181, u182, u183, u184, u185, u186, u187, u188, u189, u190, u191, u192, u193, u194, u195, u196, u197, u198, u199, u200, u201, u202, u203, u204, u205, u206, u207, u208, u209, u210, u211, u212, u213, u214, u215, u216, u217, u218, u219, u220, u221, u222, u223, u224, u225, u226, u227, u228, u229, u230, u231, u232, u233, u234, u235, u236, u237, u238, u239, u240, u241, u242, u243, u244, u245, u246, u247, u248, u249, u250, u251, u252, u253, u254, u255, u256, u257, u258, u259, u260, u261, u262, u263, u264, u265, u266, u267, u268, u269, u270, u271, u272, u273, u274, u275, u276, u277, u278, u279, u280, u281, u282, u283, u284, u285, u286, u287, u288, u289, u290, u291, u292, u293, u294, u295, u296, u297, u298, u299, u300, u301, u302, u303, u304, u305, u306, u307, u308, u309, u310, u311, u312, u313, u314, u315, u316, u317, u318, u319, u320, u321, u322, u323, u324, u325, u326, u327, u328, u329, u330, u331, u332, u333, u334, u335, u336, u337, u338, u339, u340, u341, u342, u343, u344, u345, u346, u347, u348, u349, u350, u351, u352, u353, u354, u355, u356, u357, u358, u359, u360, u361, u362, u363, u364, u365, u366, u367, u368, u369, u370, u371, u372, u373, u374, u375, u376, u377, u378, u379, u380, u381, u382, u383, u384, u385, u386, u387, u388, u389, u390, u391, u392, u393, u394, u395, u396, u397, u398, u399, u400, u401, u402, u403, u404, u405, u406, u407, u408, u409, u410, u411, u412, u413, u414, u415, u416, u417, u418, u419, u420, u421, u422, u423, u424, u425, u426, u427, u428, u429, u430, u431, u432, u433, u434, u435, u436, u437, u438, u439, u440, u441, u442, u443, u444, u445, u446, u447, u448, u449, u450, u451, u452, u453, u454, u455, u456, u457, u458, u459, u460, u461, u462, u463, u464, u465, u466, u467, u468, u469, u470, u471, u472, u473, u474, u475, u476, u477, u478, u479, u480, u481, u482, u483, u484, u485, u486, u487, u488, u489, u490, u491, u492, u493, u494, u495, u496, u497, u498, u499, u500, u501, u502, u503, u504, u505, u506], []⟩ W := by
  conv => arg 2; whnf
  have r4 := cell_regrown k4; have r5 := cell_regrown k5
  have e20 := cell_regrown c20; have e21 := cell_regrown c21; have e22 := cell_regrown c22; have e23 := cell_regrown c23
  have e30 := cell_regrown c30; have e31 := cell_regrown c31; have e32 := cell_regrown c32; have e33 := cell_regrown c33
  have e40 := cell_regrown c40; have e41 := cell_regrown c41; have e42 := cell_regrown c42; have e43 := cell_regrown c43
  clear c20 c21 c22 c23 c30 c31 c32 c33 c40 c41 c42 c43 k4 k5
  dsimp only [List.append]
  refine wp_region_quiet_below (by kernel_rfl) (by exact lexR24) ?_
  repeat (go_big_quiet_step ((first | (go_at_call 10; (with_reducible exact cA _ _)) | (go_at_call 10; (with_reducible exact cB _ _)))))
  refine wpQuiet_nil ?_
  intro _ hw'
  obtain ⟨⟨dq, osq⟩, hw''⟩ := hw'
  subst hw''
  exact hQ.out _ _ _ _ _ _ _ _ _ _ _ _ _ _ _ _ _ _ _ _ _ _ _ _ _ _ _ _ _ _ _ _ _ _ _ _ _ _ _ _ _ _ _ _ _ _ _ _ _ _ _ _ _ _ _ _ _ _ _ _ _ _ _ _ _ _ _ _ _ _ _ _ _ _ _ _ _ _ _ _ _ _ _ _ _ _ _ _ _ _ _ _ _ _ _ _ _ _ _ _ _ _ (below_regrown W dq osq)
end Go.Proofs.Ythjebjhepdclkaa
/- PatchMoved: all patches. -/
namespace Go.Proofs.Ythjebjhepdclkaa
open Go.RowKit Go.Shelf

attribute [local go_sem ↓] Go.wp_at_zero Go.wp_at_succ
set_option maxHeartbeats 12800000 in
set_option maxRecDepth 100000 in
theorem pm_b2 (u0 u1 u2 u3 u4 u5 u6 u7 u9 u10 u12 u13 u14 u15 u16 u18 u20 u23 u26 u27 u28 u29 u30 u31 u32 u33 u34 u35 u36 u37 u38 u39 u40 u41 u42 u43 u44 u45 u46 u47 u48 u49 u50 u51 u52 u53 u54 u55 u56 u57 u58 u59 u60 u61 u62 u63 u64 u65 u66 u67 u68 u69 u70 u71 u72 u73 u74 u75 u76 u77 u78 u79 u80 u81 u82 u83 u84 u85 u86 u87 u88 u89 u90 u91 u92 u93 u94 u95 u96 u97 u98 u99 u100 u101 u102 u103 u104 u105 u106 u107 u108 u109 u110 u111 u112 u113 u114 u115 u116 u117 u118 u119 u120 u121 u122 u123 u124 u125 u126 u127 u128 u129 u130 u131 u132 u133 u134 u135 u136 u137 u138 u139 u140 u141 u142 u143 u144 u145 u146 u147 u148 u149 u150 u151 u152 u153 u154 u155 u156 u157 u158 u159 u160 u161 u162 u163 u164 u165 u166 u167 u168 u169 u170 u171 u172 u173 u174 u175 u176 u177 u178 u179 u180 u181 u182 u183 u184 u185 u186 u187 u188 u189 u190 u191 u192 u193 u194 u195 u196 u197 u198 u199 u200 u201 u202 u203 u204 u205 u206 u207 u208 u209 u210 u211 u212 u213 u214 u215 u216 u217 u218 u219 u220 u221 u222 u223 u224 u225 u226 u227 u228 u229 u230 u231 u232 u233 u234 u235 u236 u237 u238 u239 u240 u241 u242 u243 u244 u245 u246 u247 u248 u249 u250 u251 u252 u253 u254 u255 u256 u257 u258 u259 u260 u261 u262 u263 u264 u265 u266 u267 u268 u269 u270 u271 u272 u273 u274 u275 u276 u277 u278 u279 u280 u281 u282 u283 u284 u285 u286 u287 u288 u289 u290 u291 u292 u293 u294 u295 u296 u297 u298 u299 u300 u301 u302 u303 u304 u305 u306 u307 u308 u309 u310 u311 u312 u313 u314 u315 u316 u317 u318 u319 u320 u321 u322 u323 u324 u325 u326 u327 u328 u329 u330 u331 u332 u333 u334 u335 u336 u337 u338 u339 u340 u341 u342 u343 u344 u345 u346 u347 u348 u349 u350 u351 u352 u353 u354 u355 u356 u357 u358 u359 u360 u361 u362 u363 u364 u365 u366 u367 u368 u369 u370 u371 u372 u373 u374 u375 u376 u377 u378 u379 u380 u381 u382 u383 u384 u385 u386 u387 u388 u389 u390 u391 u392 u393 u394 u395 u396 u397 u398 u399 u400 u401 u402 u403 u404 u405 u406 u407 u408 u409 u410 u411 u412 u413 u414 u415 u416 u417 u418 u419 u420 u421 u422 u423 u424 u425 u426 u427 u428 u429 u430 u431 u432 u433 u434 u435 u436 u437 u438 u439 u440 u441 u442 u443 u444 u445 u446 u447 u448 u449 u450 u451 u452 u453 u454 u455 u456 u457 u458 u459 u460 u461 u462 u463 u464 u465 u466 u467 u468 u469 u470 u471 u472 u473 u474 u475 u476 u477 u478 u479 u480 u481 u482 u483 u484 u485 u486 u487 u488 u489 u490 u491 u492 u493 u494 u495 u496 u497 u498 u499 u500 u501 u502 u503 u504 u505 u506 : Value) (W : World) (bC b22 g1 g2 g3 g4 P M d : Nat) (cap1 cap2 cap3 cap4 HV : Nat) (H V C N R S SY SX T L Bq RS : Nat) (Q : Exit → Act → World → Prop)
    (hP : P ≤ 1000) (hM : M ≤ 1000000) (hRS : R * S = RS) (hRSM : RS * d = M) (hHV : H * V = HV) (hd : nw C = d) (hB0 : 0 < Bq) (hS0 : 0 < S) (hd2 : d ≤ 2)
    (bB : Bq ≤ 1000) (bR : RS ≤ 1000) (bS : S ≤ 1000) (bY : SY ≤ 4) (bX : SX ≤ 4) (bT : T ≤ 3) (bL : L ≤ 3) (bH : H ≤ 6) (bV : V ≤ 6)
    (k0 : W.cell? ⟨bC, 0, none⟩ = some (.int .i64 (H : Int))) (k1 : W.cell? ⟨bC, 1, none⟩ = some (.int .i64 (V : Int))) (k2 : W.cell? ⟨bC, 2, none⟩ = some (.int .i64 (C : Int))) (k4 : W.cell? ⟨bC, 4, none⟩ = some (.int .i64 (R : Int))) (k5 : W.cell? ⟨bC, 5, none⟩ = some (.int .i64 (S : Int))) (k6 : W.cell? ⟨bC, 6, none⟩ = some (.int .i64 (SY : Int))) (k7 : W.cell? ⟨bC, 7, none⟩ = some (.int .i64 (SX : Int))) (k8 : W.cell? ⟨bC, 8, none⟩ = some (.int .i64 (T : Int))) (k9 : W.cell? ⟨bC, 9, none⟩ = some (.int .i64 (L : Int))) (t1 : W.cell? ⟨b22, 1, none⟩ = some (.int .i64 (Bq : Int)))
    (HP2 : Hid (Prw W g2 P M (seS H V C N S R SY SX T L Bq (ful C)) (seM H V C S R SY SX T L Bq (ful C)))) (HP3 : Hid (Prw W g3 P M (seS H V C N S R SY SX T L Bq 0) (seM H V C S R SY SX T L Bq (ful C)))) (HP4 : Hid (Prw W g4 P M (seS H V C N S R SY SX T L Bq 0) (seM H V C S R SY SX T L Bq 0))) (HON : Hid (On W g1 HV d N))
    (hQ : Hid (∀ (Y : World) (v6 v25 v26 v27 v28 v29 v30 v31 v207 v208 v209 v210 v211 v212 v213 v214 v215 v216 v217 v218 v219 v220 v221 v222 v223 v224 v225 v226 v227 v228 v229 v230 v231 v232 v233 v234 v235 v236 v237 v238 v239 v240 v241 v242 v243 v244 v245 v246 v247 v248 v249 v250 v251 v252 v253 v254 v255 v256 v257 v258 v259 v260 v261 v262 v263 v264 v265 v266 v267 v268 v269 v270 v271 v272 v273 v274 v275 v276 v277 v278 v279 v280 v281 v282 v283 v284 v285 v286 v287 v288 v289 v290 v291 v292 v293 v294 v295 v296 v297 v298 v299 v300 v301 v302 v303 v304 v305 v306 v307 v308 v309 v310 v311 v312 v313 v314 v315 v316 v317 v318 v319 v320 v321 v322 v323 v324 v325 v326 v327 v328 v329 v330 v331 v332 v333 v334 v335 v336 v337 v338 v339 v340 v341 v342 v343 v344 v345 v346 v347 v348 v349 v350 v351 v352 v353 v354 v355 v356 v357 v358 v359 v360 v361 v362 v363 v364 v365 v366 v367 v368 v369 v370 v371 v372 v373 v374 v375 v376 v377 v378 v379 v380 v381 v382 v383 v384 v385 v386 v387 v388 v389 v390 v391 v392 v393 v394 v395 v396 v397 v398 v399 v400 v401 v402 v403 v404 v405 v406 v407 v408 v409 v410 v411 v412 v413 v414 v415 v416 v417 v418 v419 v420 v421 v422 v423 v424 v425 v426 v427 v428 v429 v430 v431 v432 v433 v434 v435 v436 v437 v438 v439 v440 v441 v442 v443 v444 v445 v446 v447 v448 v449 v450 v451 v452 v453 v454 v455 v456 v457 v458 v459 v460 v461 v462 v463 v464 v465 v466 v467 v468 v469 v470 v471 v472 v473 v474 v475 v476 v477 v478 v479 v480 v481 v482 v483 v484 v485 v486 v487 v488 v489 v490 v491 v492 v493 v494 v495 v496 v497 v498 v499 v500 v501 v502 v503 v504 v505 v506 : Value), Below W.heap.size W Y → Q .normal ⟨#[u0, u1, u2, u3, u4, u5, v6, u7, .pointer (some ⟨bC, 0, none⟩), u9, u10, .slice (some ⟨g1, 0, none⟩) HV cap1, u12, u13, u14, u15, u16, .slice (some ⟨g2, 0, none⟩) P cap2, u18, .slice (some ⟨g3, 0, none⟩) P cap3, u20, .slice (some ⟨g4, 0, none⟩) P cap4, .pointer (some ⟨b22, 0, none⟩), u23, .int .i64 (d : Int), v25, v26, v27, v28, v29, v30, v31, u32, u33, u34, u35, u36, u37, u38, u39, u40, u41, u42, u43, u44, u45, u46, u47, u48, u49, u50, u51, u52, u53, u54, u55, u56, u57, u58, u59, u60, u61, u62, u63, u64, u65, u66, u67, u68, u69, u70, u71, u72, u73, u74, u75, u76, u77, u78, u79, u80, u81, u82, u83, u84, u85, u86, u87, u88, u89, u90, u91, u92, u93, u94, u95, u96, u97, u98, u99, u100, u101, u102, u103, u104, u105, u106, u107, u108, u109, u110, u111, u112, u113, u114, u115, u116, u117, u118, u119, u120, u121, u122, u123, u124, u125, u126, u127, u128, u129, u130, u131, u132, u133, u134, u135, u136, u137, u138, u139, u140, u141, u142, u143, u144, u145, u146, u147, u148, u149, u150, u151, u152, u153, u154, u155, u156, u157, u158, u159, u160, u161, u162, u163, u164, u165, u166, u167, u168, u169, u170, u171, u172, u173, u174, u175, u176, u177, u178, u179, u180, u181, u182, u183, u184, u185, u186, u187, u188, u189, u190, u191, u192, u193, u194, u195, u196, u197, u198, u199, u200, u201, u202, u203, u204, u205, u206, v207, v208, v209, v210, v211, v212, v213, v214, v215, v216, v217, v218, v219, v220, v221, v222, v223, v224, v225, v226, v227, v228, v229, v230, v231, v232, v233, v234, v235, v236, v237, v238, v239, v240, v241, v242, v243, v244, v245, v246, v247, v248, v249, v250, v251, v252, v253, v254, v255, v256, v257, v258, v259, v260, v261, v262, v263, v264, v265, v266, v267, v268, v269, v270, v271, v272, v273, v274, v275, v276, v277, v278, v279, v280, v281, v282, v283, v284, v285, v286, v287, v288, v289, v290, v291, v292, v293, v294, v295, v296, v297, v298, v299, v300, v301, v302, v303, v304, v305, v306, v307, v308, v309, v310, v311, v312, v313, v314, v315, v316, v317, v318, v319, v320, v321, v322, v323, v324, v325, v326, v327, v328, v329, v330, v331, v332, v333, v334, v335, v336, v337, v338, v339, v340, v341, v342, v343, v344, v345, v346, v347, v348, v349, v350, v351, v352, v353, v354, v355, v356, v357, v358, v359, v360, v361, v362, v363, v364, v365, v366, v367, v368, v369, v370, v371, v372, v373, v374, v375, v376, v377, v378, v379, v380, v381, v382, v383, v384, v385, v386, v387, v388, v389, v390, v391, v392, v393, v394, v395, v396, v397, v398, v399, v400, v401, v402, v403, v404, v405, v406, v407, v408, v409, v410, v411, v412, v413, v414, v415, v416, v417, v418, v419, v420, v421, v422, v423, v424, v425, v426, v427, v428, v429, v430, v431, v432, v433, v434, v435, v436, v437, v438, v439, v440, v441, v442, v443, v444, v445, v446, v447, v448, v449, v450, v451, v452, v453, v454, v455, v456, v457, v458, v459, v460, v461, v462, v463, v464, v465, v466, v467, v468, v469, v470, v471, v472, v473, v474, v475, v476, v477, v478, v479, v480, v481, v482, v483, v484, v485, v486, v487, v488, v489, v490, v491, v492, v493, v494, v495, v496, v497, v498, v499, v500, v501, v502, v503, v504, v505, v506], []⟩ Y)) :
    Code.wp Try.prog pmB2 Q ⟨#[u0, u1, u2, u3, u4, u5, u6, u7, .pointer (some ⟨bC, 0, none⟩), u9, u10, .slice (some ⟨g1, 0, none⟩) HV cap1, u12, u13, u14, u15, u16, .slice (some ⟨g2, 0, none⟩) P cap2, u18, .slice (some ⟨g3, 0, none⟩) P cap3, u20, .slice (some ⟨g4, 0, none⟩) P cap4, .pointer (some ⟨b22, 0, none⟩), u23, .int .i64 (d : Int), .int .i64 0, u26, u27, u28, u29, u30, u31, u32, u33, u34, u35, u36, u37, u38, u39, u40, u41, u42, u43, u44, u45, u46, u47, u48, u49, u50, u51, u52, u53, u54, u55, u56, u57, u58, u59, u60, u61, u62, u63, u64, u65, u66, u67, u68, u69, u70, u71, u72, u73, u74, u75, u76, u77, u78, u79, u80, u81, u82, u83, u84, u85, u86, u87, u88, u89, u90, u91, u92, u93, u94, u95, u96, u97, u98, u99, u100, u101, u102, u103, u104, u105, u106, u107, u108, u109, u110, u111, u112, u113, u114, u115, u116, u117, u118, u119, u120, u121, u122, u123, u124, u125, u126, u127, u128, u129, u130, u131, u132, u133, u134, u135, u136, u137, u138, u139, u140, u141, u142, u143, u144, u145, u146, u147, u148, u149, u150, u151, u152, u153, u154, u155, u156, u157, u158, u159, u160, u161, u162, u163, u164, u165, u166, u167, u168, u169, u170, u171, u172, u173, u174, u175, u176, u177, u178, u179, u180, u181, u182, u183, u184, u185, u186, u187, u188, u189, u190, u191, u192, u193, u194, u195, u196, u197, u198, u199, u200, u201, u202, u203, u204, u205, u206, u207, u208, u209, u210, u211, u212, u213, u214, u215, u216, u217, u218, u219, u220, u221, u222, u223, u224, u225, u226, u227, u228, u229, u230, u231, u232, u233, u234, u235, u236, u237, u238, u239, u240, u241, u242, u243, u244, u245, u246, u247, u248, u249, u250, u251, u252, u253, u254, u255, u256, u257, u258, u259, u260, u261, u262, u263, u264, u265, u266, u267, u268, u269, u270, u271, u272, u273, u274, u275, u276, u277, u278, u279, u280, u281, u282, u283, u284, u285, u286, u287, u288, u289, u290, u291, u292, u293, u294, u295, u296, u297, u298, u299, u300, u301, u302, u303, u304, u305, u306, u307, u308, u309, u310, u311, u312, u313, u314, u315, u316, u317, u318, u319, u320, u321, u322, u323, u324, u325, u326, u327, u328, u329, u330, u331, u332, u333, u334, u335, u336, u337, u338, u339, u340, u341, u342, u343, u344, u345, u346, u347, u348, u349, u350, u351, u352, u353, u354, u355, u356, u357, u358, u359, u360, u361, u362, u363, u364, u365, u366, u367, u368, u369, u370, u371, u372, u373, u374, u375, u376, u377, u378, u379, u380, u381, u382, u383, u384, u385, u386, u387, u388, u389, u390, u391, u392, u393, u394, u395, u396, u397, u398, u399, u400, u401, u402, u403, u404, u405, u406, u407, u408, u409, u410, u411, u412, u413, u414, u415, u416, u417, u418, u419, u420, u421, u422, u423, u424, u425, u426, u427, u428, u429, u430, u431, u432, u433, u434, u435, u436, u437, u438, u439, u440, u441, u442, u443, u444, u445, u446, u447, u448, u449, u450, u451, u452, u453, u454, u455, u456, u457, u458, u459, u460, u461, u462, u463, u464, u465, u466, u467, u468, u469, u470, u471, u472, u473, u474, u475, u476, u477, u478, u479, u480, u481, u482, u483, u484, u485, u486, u487, u488, u489, u490, u491, u492, u493, u494, u495, u496, u497, u498, u499, u500, u501, u502, u503, u504, u505, u506], []⟩ W := by
  conv => arg 2; whnf
  have wRS : IntKind.i64.wrap ((R : Int) * (S : Int)) = (RS : Int) := by rw [show (R : Int) * (S : Int) = ((R * S : Nat) : Int) by push_cast; rfl, hRS, IntKind.wrap_i64]; omega
  have wRM : IntKind.i64.wrap ((RS : Int) * (d : Int)) = (M : Int) := by rw [show (RS : Int) * (d : Int) = ((RS * d : Nat) : Int) by push_cast; rfl, hRSM, IntKind.wrap_i64]; omega
  have hM63 : M ≤ 9223372036854775807 := by omega
  have HK : Hid (∀ Y, Below W.heap.size W Y → Y.cell? ⟨bC, 0, none⟩ = some (.int .i64 (H : Int)) ∧ Y.cell? ⟨bC, 1, none⟩ = some (.int .i64 (V : Int)) ∧ Y.cell? ⟨bC, 2, none⟩ = some (.int .i64 (C : Int)) ∧ Y.cell? ⟨bC, 4, none⟩ = some (.int .i64 (R : Int)) ∧ Y.cell? ⟨bC, 5, none⟩ = some (.int .i64 (S : Int)) ∧ Y.cell? ⟨bC, 6, none⟩ = some (.int .i64 (SY : Int)) ∧ Y.cell? ⟨bC, 7, none⟩ = some (.int .i64 (SX : Int)) ∧ Y.cell? ⟨bC, 8, none⟩ = some (.int .i64 (T : Int)) ∧ Y.cell? ⟨bC, 9, none⟩ = some (.int .i64 (L : Int)) ∧ Y.cell? ⟨b22, 1, none⟩ = some (.int .i64 (Bq : Int))) := hid1 (fun Y hb => ⟨keepc hb k0, keepc hb k1, keepc hb k2, keepc hb k4, keepc hb k5, keepc hb k6, keepc hb k7, keepc hb k8, keepc hb k9, keepc hb t1⟩)
  have HHD := hid1 hd
  clear k0 k1 k2 k4 k5 k6 k7 k8 k9 t1 hd
  dsimp only
  go_wp2_with fail
  go_loopw [25, 26, 27, 28, 29, 30, 31] (fun i _ _ _ _ _ _ wr => ∃ k : Nat, k ≤ P ∧ i = .int .i64 (k : Int) ∧ Below W.heap.size W wr) (fun i _ _ _ _ _ _ _ => P - (intOf i).toNat)
  case atStart => exact ⟨0, Nat.zero_le _, rfl, Below.refl _ _⟩
  case round =>
    obtain ⟨i, hiP, rfl, BX⟩ := hrel
    rename World => X
    have hi0 : (0 : Int) ≤ (i : Int) := by omega
    by_cases hlt : i < P
    · have hi : (i : Int) < (P : Int) := by omega
      obtain ⟨A2, K2, B2, L2, ⟨c20, c21, c22, c23⟩, x2, y2⟩ := (HP2.out.below BX) i hlt
      obtain ⟨A3, K3, B3, L3, ⟨c30, c31, c32, c33⟩, x3, y3⟩ := (HP3.out.below BX) i hlt
      obtain ⟨A4, K4, B4, L4, ⟨c40, c41, c42, c43⟩, x4, y4⟩ := (HP4.out.below BX) i hlt
      have MR := hid1 (Mr.of HHD.out (by rw [hRS, HHD.out]; exact hRSM) x2 y2 x4 y4)
      have ON := hid1 (HON.out.below BX)
      have HC4 := hid1 (And.intro c21 (And.intro c23 (And.intro c41 c43)))
      obtain ⟨mz, emz⟩ : ∃ z : Int, ((64 * M : Nat) : Int) = z := ⟨_, rfl⟩
      rw [emz] at c20 c22 c30 c32 c40 c42
      have cA := fun dd os => Calls.regrown_of (w := X) (d := dd) (os := os) (pbits_same mz M _ _ _ L2 L3 _ hM63 (y2.below (below_regrown X dd os)) (y3.below (below_regrown X dd os)))
      have cB := fun dd os => Calls.regrown_of (w := X) (d := dd) (os := os) (pbits_same mz M _ _ _ K3 K4 _ hM63 (x3.below (below_regrown X dd os)) (x4.below (below_regrown X dd os)))
      obtain ⟨k0, k1, k2, k4, k5, k6, k7, k8, k9, t1⟩ := HK.out X BX
      clear x2 y2 x3 y3 x4 y4 emz
      have HCC := hid1 (And.intro c20 (And.intro c21 (And.intro c22 (And.intro c23 (And.intro c30 (And.intro c31 (And.intro c32 (And.intro c33 (And.intro c40 (And.intro c41 (And.intro c42 (And.intro c43 (And.intro k4 k5)))))))))))))
      have HCA := hid1 cA
      have HCB := hid1 cB
      clear cA cB c20 c21 c22 c23 c30 c31 c32 c33 c40 c41 c42 c43 k0 k1 k2 k4 k5 k6 k7 k8 k9 t1
      go_upto_region 24 with fail
      refine pm_r24 _ _ _ _ _ _ _ _ _ _ _ _ _ _ _ _ _ _ _ _ _ _ _ _ _ _ _ _ _ _ _ _ _ _ _ _ _ _ _ _ _ _ _ _ _ _ _ _ _ _ _ _ _ _ _ _ _ _ _ _ _ _ _ _ _ _ _ _ _ _ _ _ _ _ _ _ _ _ _ _ _ _ _ _ _ _ _ _ _ _ _ _ _ _ _ _ _ _ _ _ _ _ _ _ _ _ _ _ _ _ _ _ _ _ _ _ _ _ _ _ _ _ _ _ _ _ _ _ _ _ _ _ _ _ _ _ _ _ _ _ _ _ _ _ _ _ _ _ _ _ _ _ _ _ _ _ _ _ _ _ _ _ _ _ _ _ _ _ _ _ _ _ _ _ _ _ _ _ _ _ _ _ _ _ _ _ _ _ _ _ _ _ _ _ _ _ _ _ _ _ _ _ _ _ _ _ _ _ _ _ _ _ _ _ _ _ _ _ _ _ _ _ _ _ _ _ _ _ _ _ _ _ _ _ _ _ _ _ _ _ _ _ _ _ _ _ _ _ _ _ _ _ _ _ _ _ _ _ _ _ _ _ _ _ _ _ _ _ _ _ _ _ _ _ _ _ _ _ _ _ _ _ _ _ _ _ _ _ _ _ _ _ _ _ _ _ _ _ _ _ _ _ _ _ _ _ _ _ _ _ _ _ _ _ _ _ _ _ _ _ _ _ _ _ _ _ _ _ _ _ _ _ _ _ _ _ _ _ _ _ _ _ _ _ _ _ _ _ _ _ _ _ _ _ _ _ _ _ _ _ _ _ _ _ _ _ _ _ _ _ _ _ _ _ _ _ _ _ _ _ _ _ _ _ _ _ _ _ _ _ _ _ _ _ _ _ _ _ _ _ _ _ _ _ _ _ _ _ _ _ _ _ _ _ _ _ _ _ _ _ _ _ _ _ _ _ _ _ _ _ _ _ _ _ _ _ _ _ _ _ _ _ _ _ _ _ _ _ _ _ _ _ _ _ _ _ _ _ _ _ _ _ _ _ _ _ _ _ _ _ _ _ _ _ _ _ _ _ _ _ _ _ _ _ _ _ _ _ _ _ _ _ _ _ _ _ _ _ _ _ _ X bC g2 g3 g4 P M d i R S RS cap2 cap3 cap4 mz A2 K2 B2 L2 A3 K3 B3 L3 A4 K4 B4 L4 _ hi hi0 wRS wRM HCC.out.1 HCC.out.2.1 HCC.out.2.2.1 HCC.out.2.2.2.1 HCC.out.2.2.2.2.1 HCC.out.2.2.2.2.2.1 HCC.out.2.2.2.2.2.2.1 HCC.out.2.2.2.2.2.2.2.1 HCC.out.2.2.2.2.2.2.2.2.1 HCC.out.2.2.2.2.2.2.2.2.2.1 HCC.out.2.2.2.2.2.2.2.2.2.2.1 HCC.out.2.2.2.2.2.2.2.2.2.2.2.1 HCC.out.2.2.2.2.2.2.2.2.2.2.2.2.1 HCC.out.2.2.2.2.2.2.2.2.2.2.2.2.2 HCA.out HCB.out (hid1 ?_)
      intro X1 v213 v214 v215 v216 v217 v218 v219 v220 v221 v222 v223 v224 v225 v226 v227 v228 v229 v230 v231 v232 v233 v234 v235 v236 v237 v238 v239 v240 v241 v242 v243 v244 v245 v246 v247 v248 v249 v250 v251 v252 v253 v254 v255 v256 v257 v258 v259 v260 v261 v262 v263 v264 v265 v266 v267 v268 v269 v270 v271 v272 v273 v274 v275 v276 v277 v278 v279 v280 v281 v282 v283 v284 v285 v286 v287 v288 v289 v290 v291 v292 v293 v294 v295 v296 v297 v298 v299 v300 v301 v302 v303 v304 v305 v306 v307 v308 v309 v310 v311 v312 v313 bq
      have BX1 := bl_step BX bq
      obtain ⟨k0, k1, k2, k4, k5, k6, k7, k8, k9, t1⟩ := HK.out X1 BX1
      go_upto_block 4 with fail
      refine pm_b4 _ _ _ _ _ _ _ _ _ _ _ _ _ _ _ _ _ _ _ _ _ _ _ _ _ _ _ _ _ _ _ _ _ _ _ _ _ _ _ _ _ _ _ _ _ _ _ _ _ _ _ _ _ _ _ _ _ _ _ _ _ _ _ _ _ _ _ _ _ _ _ _ _ _ _ _ _ _ _ _ _ _ _ _ _ _ _ _ _ _ _ _ _ _ _ _ _ _ _ _ _ _ _ _ _ _ _ _ _ _ _ _ _ _ _ _ _ _ _ _ _ _ _ _ _ _ _ _ _ _ _ _ _ _ _ _ _ _ _ _ _ _ _ _ _ _ _ _ _ _ _ _ _ _ _ _ _ _ _ _ _ _ _ _ _ _ _ _ _ _ _ _ _ _ _ _ _ _ _ _ _ _ _ _ _ _ _ _ _ _ _ _ _ _ _ _ _ _ _ _ _ _ _ _ _ _ _ _ _ _ _ _ _ _ _ _ _ _ _ _ _ _ _ _ _ _ _ _ _ _ _ _ _ _ _ _ _ _ _ _ _ _ _ _ _ _ _ _ _ _ _ _ _ _ _ _ _ _ _ _ _ _ _ _ _ _ _ _ _ _ _ _ _ _ _ _ _ _ _ _ _ _ _ _ _ _ _ _ _ _ _ _ _ _ _ _ _ _ _ _ _ _ _ _ _ _ _ _ _ _ _ _ _ _ _ _ _ _ _ _ _ _ _ _ _ _ _ _ _ _ _ _ _ _ _ _ _ _ _ _ _ _ _ _ _ _ _ _ _ _ _ _ _ _ _ _ _ _ _ _ _ _ _ _ _ _ _ _ _ _ _ _ _ _ _ _ _ _ _ _ _ _ _ _ _ _ _ _ _ _ _ _ _ _ _ _ _ _ _ _ _ _ _ _ _ _ _ _ _ _ _ _ _ _ _ _ _ _ _ _ _ _ _ _ _ _ _ _ _ _ _ _ _ _ _ _ _ _ _ _ _ _ _ _ _ _ _ _ _ _ _ _ _ _ _ _ _ _ _ _ _ _ _ _ _ _ _ _ _ _ _ _ _ _ _ _ _ _ _ _ _ _ _ _ _ _ _ _ _ _ _ _ _ _ _ _ _ _ _ X1 bC b22 g1 g2 g4 P M d i cap1 cap2 cap4 HV A2 K2 B2 L2 A4 K4 B4 L4 H V C N R S SY SX T L Bq RS _ hi hi0 hM hRS hRSM hHV hB0 hS0 hd2 (by omega) bB bR bS bY bX bT bL bH bV k0 k1 k2 k4 k5 k6 k7 k8 k9 t1 (keepc bq HC4.out.1) (keepc bq HC4.out.2.1) (keepc bq HC4.out.2.2.1) (keepc bq HC4.out.2.2.2) (hid1 (MR.out.below bq)) (hid1 (ON.out.below bq)) (hid1 ?_)
      intro X2 v6 v26 v27 v28 v29 v30 v31 v315 v316 v317 v318 v319 v320 v321 v322 v323 v324 v325 v326 v327 v328 v329 v330 v331 v332 v333 v334 v335 v336 v337 v338 v339 v340 v341 v342 v343 v344 v345 v346 v347 v348 v349 v350 v351 v352 v353 v354 v355 v356 v357 v358 v359 v360 v361 v362 v363 v364 v365 v366 v367 v368 v369 v370 v371 v372 v373 v374 v375 v376 v377 v378 v379 v380 v381 v382 v383 v384 v385 v386 v387 v388 v389 v390 v391 v392 v393 v394 v395 v396 v397 v398 v399 v400 v401 v402 v403 v404 v405 v406 v407 v408 v409 v410 v411 v412 v413 v414 v415 v416 v417 v418 v419 v420 v421 v422 v423 v424 v425 v426 v427 v428 v429 v430 v431 v432 v433 v434 v435 v436 v437 v438 v439 v440 v441 v442 v443 v444 v445 v446 v447 v448 v449 v450 v451 v452 v453 v454 v455 v456 v457 v458 v459 v460 v461 v462 v463 v464 v465 v466 v467 v468 v469 v470 v471 v472 v473 v474 v475 v476 v477 v478 v479 v480 v481 v482 v483 v484 v485 v486 v487 v488 v489 v490 v491 v492 v493 v494 v495 v496 v497 v498 v499 v500 v501 v502 v503 v504 v505 v506 BY
      go_wp2_with fail
      exact ⟨⟨i + 1, by omega, by go_num, bl_step BX1 BY⟩, by simp [intOf]; omega⟩
    · have hi : ¬ (i : Int) < (P : Int) := by omega
      go_wp2_with fail
      exact hQ.out _ _ _ _ _ _ _ _ _ _ _ _ _ _ _ _ _ _ _ _ _ _ _ _ _ _ _ _ _ _ _ _ _ _ _ _ _ _ _ _ _ _ _ _ _ _ _ _ _ _ _ _ _ _ _ _ _ _ _ _ _ _ _ _ _ _ _ _ _ _ _ _ _ _ _ _ _ _ _ _ _ _ _ _ _ _ _ _ _ _ _ _ _ _ _ _ _ _ _ _ _ _ _ _ _ _ _ _ _ _ _ _ _ _ _ _ _ _ _ _ _ _ _ _ _ _ _ _ _ _ _ _ _ _ _ _ _ _ _ _ _ _ _ _ _ _ _ _ _ _ _ _ _ _ _ _ _ _ _ _ _ _ _ _ _ _ _ _ _ _ _ _ _ _ _ _ _ _ _ _ _ _ _ _ _ _ _ _ _ _ _ _ _ _ _ _ _ _ _ _ _ _ _ _ _ _ _ _ _ _ _ _ _ _ _ _ _ _ _ _ _ _ _ _ _ _ _ _ _ _ _ _ _ _ _ _ _ _ _ _ _ _ _ _ _ _ _ _ _ _ _ _ _ _ _ _ _ _ _ _ _ _ _ _ _ _ _ _ _ _ _ _ _ _ _ _ _ _ _ _ _ _ _ _ _ _ _ _ _ _ _ _ _ _ _ _ _ _ _ _ _ _ _ _ _ _ _ _ _ BX
end Go.Proofs.Ythjebjhepdclkaa
/- PatchMoved: the first loop. -/
namespace Go.Proofs.Ythjebjhepdclkaa
open Go.RowKit Go.Shelf

noncomputable def pmB0 : Code := (Try.f3.body.bind (blockOf 0)).getD .skip
/-- The places, one by one, as words in memory. -/
def On1 (W : World) (g1 HV d N : Nat) : Prop := ∀ p, p < HV → ∃ A1 K1, W.cell? ⟨g1, p * 4 + 1, none⟩ = some (.slice (some ⟨A1, 0, none⟩) d K1) ∧ Wr W (some ⟨A1, 0, none⟩) d (pl N d p)
theorem On1.below {W X : World} {g1 HV d N : Nat} (h : On1 W g1 HV d N) (hb : Below W.heap.size W X) : On1 X g1 HV d N := fun p hp => by
  obtain ⟨A1, K1, c, w⟩ := h p hp
  exact ⟨A1, K1, keepc hb c, w.below hb⟩
theorem On1.of {W : World} {g1 HV d H V C N : Nat} (hd : nw C = d) (hV : 0 < V) (hHV : H * V = HV) (h : Prw W g1 HV d (seS H V C N 1 1 1 1 0 0 V 0) (seM H V C 1 1 1 1 0 0 V 0)) : On1 W g1 HV d N := fun p hp => by
  subst hd
  obtain ⟨A1, K1, _, _, ⟨_, c1, _, _⟩, w1, _⟩ := h p hp
  refine ⟨A1, K1, c1, pl_lt _ _ _, fun k hk => ?_⟩
  obtain ⟨g, o, e, c⟩ := w1.2 k hk
  refine ⟨g, o, e, ?_⟩
  rw [c]
  unfold wf
  rw [see_one hV (by rw [hHV]; exact hp) k hk]
theorem On1.on {W : World} {g1 HV d N : Nat} (h : On1 W g1 HV d N) : On W g1 HV d N := fun p hp => by
  obtain ⟨A1, K1, c, w⟩ := h p hp
  exact ⟨A1, K1, c, fun jj hj => wr_cellQ w hj⟩
theorem wr_but {W X : World} {G m N b : Nat} (h : Wr W (some ⟨G, 0, none⟩) m N) (hb : But b W X) (ne : G ≠ b) : Wr X (some ⟨G, 0, none⟩) m N := ⟨h.1, fun k hk => by
  obtain ⟨g, o, e, c⟩ := h.2 k hk
  cases e
  exact ⟨_, _, rfl, (World.cell?_of_block (w := W) (w' := X) (a := ⟨G, 0 + k, none⟩) (hb.block G (lt_of_cell c) ne)).trans c⟩⟩
def bf2 (n : Int) (u : Value) : Nat → Value := fun k => if k = 0 then .int .i64 n else u
theorem bf_new (w : World) (n : Int) (ao : Option Addr) (m k : Nat) (t : TypeId) : (w.alloc (.cells #[.int .i64 n, .slice ao m k] t)).rowIs w.heap.size t 2 (bf2 n (.slice ao m k)) :=
  World.rowIs_alloc w _ t _ (fun i hi => by
    rcases i with _ | _ | i
    · rfl
    · rfl
    · simp at hi; omega)
theorem bf_set {w : World} {b t : Nat} {f : Nat → Value} (r : w.rowIs b t 2 f) (n : Int) (u : Value) : ((w.setCell ⟨b, 0, none⟩ (.int .i64 n)).setCell ⟨b, 1, none⟩ u).rowIs b t 2 (bf2 n u) := by
  refine ((r.set 0 _).set 1 _).congr fun k hk => ?_
  rcases k with _ | _ | k
  · rfl
  · rfl
  · omega
theorem kpAt1 {W X : World} {bP bC : Nat} {v0 v1 v2 v3 v4 : Value} (r : (W.cell? ⟨bP, 0, none⟩ = some v0 ∧ W.cell? ⟨bP, 1, none⟩ = some v1 ∧ W.cell? ⟨bP, 2, none⟩ = some v2 ∧ W.cell? ⟨bP, 3, none⟩ = some v3) ∧ W.cell? ⟨bC, 1, none⟩ = some v4) (hb : Below W.heap.size W X) :
    (X.cell? ⟨bP, 0, none⟩ = some v0 ∧ X.cell? ⟨bP, 1, none⟩ = some v1 ∧ X.cell? ⟨bP, 2, none⟩ = some v2 ∧ X.cell? ⟨bP, 3, none⟩ = some v3) ∧ X.cell? ⟨bC, 1, none⟩ = some v4 :=
  ⟨⟨keepc hb r.1.1, keepc hb r.1.2.1, keepc hb r.1.2.2.1, keepc hb r.1.2.2.2⟩, keepc hb r.2⟩
attribute [local go_sem ↓] Go.wp_at_zero Go.wp_at_succ
set_option maxHeartbeats 12800000 in
set_option maxRecDepth 100000 in
theorem pm_b0 (u0 u1 u2 u3 u4 u5 u6 u7 u10 u12 u13 u15 u16 u17 u18 u19 u20 u21 u22 u23 u24 u25 u26 u27 u28 u29 u30 u31 u32 u33 u34 u35 u36 u37 u38 u39 u40 u41 u42 u43 u44 u45 u46 u47 u48 u49 u50 u51 u52 u53 u54 u55 u56 u57 u58 u59 u60 u61 u62 u63 u64 u65 u66 u67 u68 u69 u70 u71 u72 u73 u74 u75 u76 u77 u78 u79 u80 u81 u82 u83 u84 u85 u86 u87 u88 u89 u90 u91 u92 u93 u94 u95 u96 u97 u98 u99 u100 u101 u102 u103 u104 u105 u106 u107 u108 u109 u110 u111 u112 u113 u114 u115 u116 u117 u118 u119 u120 u121 u122 u123 u124 u125 u126 u127 u128 u129 u130 u131 u132 u133 u134 u135 u136 u137 u138 u139 u140 u141 u142 u143 u144 u145 u146 u147 u148 u149 u150 u151 u152 u153 u154 u155 u156 u157 u158 u159 u160 u161 u162 u163 u164 u165 u166 u167 u168 u169 u170 u171 u172 u173 u174 u175 u176 u177 u178 u179 u180 u181 u182 u183 u184 u185 u186 u187 u188 u189 u190 u191 u192 u193 u194 u195 u196 u197 u198 u199 u200 u201 u202 u203 u204 u205 u206 u207 u208 u209 u210 u211 u212 u213 u214 u215 u216 u217 u218 u219 u220 u221 u222 u223 u224 u225 u226 u227 u228 u229 u230 u231 u232 u233 u234 u235 u236 u237 u238 u239 u240 u241 u242 u243 u244 u245 u246 u247 u248 u249 u250 u251 u252 u253 u254 u255 u256 u257 u258 u259 u260 u261 u262 u263 u264 u265 u266 u267 u268 u269 u270 u271 u272 u273 u274 u275 u276 u277 u278 u279 u280 u281 u282 u283 u284 u285 u286 u287 u288 u289 u290 u291 u292 u293 u294 u295 u296 u297 u298 u299 u300 u301 u302 u303 u304 u305 u306 u307 u308 u309 u310 u311 u312 u313 u314 u315 u316 u317 u318 u319 u320 u321 u322 u323 u324 u325 u326 u327 u328 u329 u330 u331 u332 u333 u334 u335 u336 u337 u338 u339 u340 u341 u342 u343 u344 u345 u346 u347 u348 u349 u350 u351 u352 u353 u354 u355 u356 u357 u358 u359 u360 u361 u362 u363 u364 u365 u366 u367 u368 u369 u370 u371 u372 u373 u374 u375 u376 u377 u378 u379 u380 u381 u382 u383 u384 u385 u386 u387 u388 u389 u390 u391 u392 u393 u394 u395 u396 u397 u398 u399 u400 u401 u402 u403 u404 u405 u406 u407 u408 u409 u410 u411 u412 u413 u414 u415 u416 u417 u418 u419 u420 u421 u422 u423 u424 u425 u426 u427 u428 u429 u430 u431 u432 u433 u434 u435 u436 u437 u438 u439 u440 u441 u442 u443 u444 u445 u446 u447 u448 u449 u450 u451 u452 u453 u454 u455 u456 u457 u458 u459 u460 u461 u462 u463 u464 u465 u466 u467 u468 u469 u470 u471 u472 u473 u474 u475 u476 u477 u478 u479 u480 u481 u482 u483 u484 u485 u486 u487 u488 u489 u490 u491 u492 u493 u494 u495 u496 u497 u498 u499 u500 u501 u502 u503 u504 u505 u506 : Value) (W : World) (bC bP g1 cap1 HV d H V C N G mm : Nat) (Q : Exit → Act → World → Prop)
    (h36 : HV ≤ 36) (hH : 1 ≤ H ∧ H ≤ 6) (hV : 1 ≤ V ∧ V ≤ 6) (hC : 1 ≤ C ∧ C ≤ 70) (hHV : H * V = HV) (hd : nw C = d) (hmm : H * V * nw C = mm) (hmm2 : mm ≤ 9223372036854775807) (hchk : Sg.chk H V C = 0) (hcuk : cuk H V C mm N = 0)
    (HW5 : Hid ((W.cell? ⟨bP, 0, none⟩ = some (.int .i64 (H : Int)) ∧ W.cell? ⟨bP, 1, none⟩ = some (.int .i64 (V : Int)) ∧ W.cell? ⟨bP, 2, none⟩ = some (.int .i64 (C : Int)) ∧ W.cell? ⟨bP, 3, none⟩ = some (.slice (some ⟨G, 0, none⟩) mm mm)) ∧ W.cell? ⟨bC, 1, none⟩ = some (.int .i64 (V : Int)))) (k2 : W.cell? ⟨bC, 2, none⟩ = some (.int .i64 (C : Int))) (HWG : Hid (Wr W (some ⟨G, 0, none⟩) mm N)) (HON : Hid (On1 W g1 HV d N))
    (hQ : Hid (∀ (Y : World) (v6 v14 v15 v16 v88 v89 v90 v91 v92 v93 v94 v95 v96 v97 v98 v99 v100 v101 v102 v103 v104 v105 v106 v107 v108 v109 v110 v111 v112 v113 v114 v115 v116 v117 v118 v119 v120 v121 v122 v123 v124 v125 v126 v127 v128 v129 v130 v131 v132 v133 : Value), Below W.heap.size W Y → Q .normal ⟨#[u0, u1, u2, u3, u4, u5, v6, u7, .pointer (some ⟨bC, 0, none⟩), .pointer (some ⟨bP, 0, none⟩), u10, .slice (some ⟨g1, 0, none⟩) HV cap1, u12, u13, v14, v15, v16, u17, u18, u19, u20, u21, u22, u23, u24, u25, u26, u27, u28, u29, u30, u31, u32, u33, u34, u35, u36, u37, u38, u39, u40, u41, u42, u43, u44, u45, u46, u47, u48, u49, u50, u51, u52, u53, u54, u55, u56, u57, u58, u59, u60, u61, u62, u63, u64, u65, u66, u67, u68, u69, u70, u71, u72, u73, u74, u75, u76, u77, u78, u79, u80, u81, u82, u83, u84, u85, u86, u87, v88, v89, v90, v91, v92, v93, v94, v95, v96, v97, v98, v99, v100, v101, v102, v103, v104, v105, v106, v107, v108, v109, v110, v111, v112, v113, v114, v115, v116, v117, v118, v119, v120, v121, v122, v123, v124, v125, v126, v127, v128, v129, v130, v131, v132, v133, u134, u135, u136, u137, u138, u139, u140, u141, u142, u143, u144, u145, u146, u147, u148, u149, u150, u151, u152, u153, u154, u155, u156, u157, u158, u159, u160, u161, u162, u163, u164, u165, u166, u167, u168, u169, u170, u171, u172, u173, u174, u175, u176, u177, u178, u179, u180, u181, u182, u183, u184, u185, u186, u187, u188, u189, u190, u191, u192, u193, u194, u195, u196, u197, u198, u199, u200, u201, u202, u203, u204, u205, u206, u207, u208, u209, u210, u211, u212, u213, u214, u215, u216, u217, u218, u219, u220, u221, u222, u223, u224, u225, u226, u227, u228, u229, u230, u231, u232, u233, u234, u235, u236, u237, u238, u239, u240, u241, u242, u243, u244, u245, u246, u247, u248, u249, u250, u251, u252, u253, u254, u255, u256, u257, u258, u259, u260, u261, u262, u263, u264, u265, u266, u267, u268, u269, u270, u271, u272, u273, u274, u275, u276, u277, u278, u279, u280, u281, u282, u283, u284, u285, u286, u287, u288, u289, u290, u291, u292, u293, u294, u295, u296, u297, u298, u299, u300, u301, u302, u303, u304, u305, u306, u307, u308, u309, u310, u311, u312, u313, u314, u315, u316, u317, u318, u319, u320, u321, u322, u323, u324, u325, u326, u327, u328, u329, u330, u331, u332, u333, u334, u335, u336, u337, u338, u339, u340, u341, u342, u343, u344, u345, u346, u347, u348, u349, u350, u351, u352, u353, u354, u355, u356, u357, u358, u359, u360, u361, u362, u363, u364, u365, u366, u367, u368, u369, u370, u371, u372, u373, u374, u375, u376, u377, u378, u379, u380, u381, u382, u383, u384, u385, u386, u387, u388, u389, u390, u391, u392, u393, u394, u395, u396, u397, u398, u399, u400, u401, u402, u403, u404, u405, u406, u407, u408, u409, u410, u411, u412, u413, u414, u415, u416, u417, u418, u419, u420, u421, u422, u423, u424, u425, u426, u427, u428, u429, u430, u431, u432, u433, u434, u435, u436, u437, u438, u439, u440, u441, u442, u443, u444, u445, u446, u447, u448, u449, u450, u451, u452, u453, u454, u455, u456, u457, u458, u459, u460, u461, u462, u463, u464, u465, u466, u467, u468, u469, u470, u471, u472, u473, u474, u475, u476, u477, u478, u479, u480, u481, u482, u483, u484, u485, u486, u487, u488, u489, u490, u491, u492, u493, u494, u495, u496, u497, u498, u499, u500, u501, u502, u503, u504, u505, u506], []⟩ Y)) :
    Code.wp Try.prog pmB0 Q ⟨#[u0, u1, u2, u3, u4, u5, u6, u7, .pointer (some ⟨bC, 0, none⟩), .pointer (some ⟨bP, 0, none⟩), u10, .slice (some ⟨g1, 0, none⟩) HV cap1, u12, u13, .int .i64 0, u15, u16, u17, u18, u19, u20, u21, u22, u23, u24, u25, u26, u27, u28, u29, u30, u31, u32, u33, u34, u35, u36, u37, u38, u39, u40, u41, u42, u43, u44, u45, u46, u47, u48, u49, u50, u51, u52, u53, u54, u55, u56, u57, u58, u59, u60, u61, u62, u63, u64, u65, u66, u67, u68, u69, u70, u71, u72, u73, u74, u75, u76, u77, u78, u79, u80, u81, u82, u83, u84, u85, u86, u87, u88, u89, u90, u91, u92, u93, u94, u95, u96, u97, u98, u99, u100, u101, u102, u103, u104, u105, u106, u107, u108, u109, u110, u111, u112, u113, u114, u115, u116, u117, u118, u119, u120, u121, u122, u123, u124, u125, u126, u127, u128, u129, u130, u131, u132, u133, u134, u135, u136, u137, u138, u139, u140, u141, u142, u143, u144, u145, u146, u147, u148, u149, u150, u151, u152, u153, u154, u155, u156, u157, u158, u159, u160, u161, u162, u163, u164, u165, u166, u167, u168, u169, u170, u171, u172, u173, u174, u175, u176, u177, u178, u179, u180, u181, u182, u183, u184, u185, u186, u187, u188, u189, u190, u191, u192, u193, u194, u195, u196, u197, u198, u199, u200, u201, u202, u203, u204, u205, u206, u207, u208, u209, u210, u211, u212, u213, u214, u215, u216, u217, u218, u219, u220, u221, u222, u223, u224, u225, u226, u227, u228, u229, u230, u231, u232, u233, u234, u235, u236, u237, u238, u239, u240, u241, u242, u243, u244, u245, u246, u247, u248, u249, u250, u251, u252, u253, u254, u255, u256, u257, u258, u259, u260, u261, u262, u263, u264, u265, u266, u267, u268, u269, u270, u271, u272, u273, u274, u275, u276, u277, u278, u279, u280, u281, u282, u283, u284, u285, u286, u287, u288, u289, u290, u291, u292, u293, u294, u295, u296, u297, u298, u299, u300, u301, u302, u303, u304, u305, u306, u307, u308, u309, u310, u311, u312, u313, u314, u315, u316, u317, u318, u319, u320, u321, u322, u323, u324, u325, u326, u327, u328, u329, u330, u331, u332, u333, u334, u335, u336, u337, u338, u339, u340, u341, u342, u343, u344, u345, u346, u347, u348, u349, u350, u351, u352, u353, u354, u355, u356, u357, u358, u359, u360, u361, u362, u363, u364, u365, u366, u367, u368, u369, u370, u371, u372, u373, u374, u375, u376, u377, u378, u379, u380, u381, u382, u383, u384, u385, u386, u387, u388, u389, u390, u391, u392, u393, u394, u395, u396, u397, u398, u399, u400, u401, u402, u403, u404, u405, u406, u407, u408, u409, u410, u411, u412, u413, u414, u415, u416, u417, u418, u419, u420, u421, u422, u423, u424, u425, u426, u427, u428, u429, u430, u431, u432, u433, u434, u435, u436, u437, u438, u439, u440, u441, u442, u443, u444, u445, u446, u447, u448, u449, u450, u451, u452, u453, u454, u455, u456, u457, u458, u459, u460, u461, u462, u463, u464, u465, u466, u467, u468, u469, u470, u471, u472, u473, u474, u475, u476, u477, u478, u479, u480, u481, u482, u483, u484, u485, u486, u487, u488, u489, u490, u491, u492, u493, u494, u495, u496, u497, u498, u499, u500, u501, u502, u503, u504, u505, u506], []⟩ W := by
  conv => arg 2; whnf
  have dW : IntKind.i64.wrap ((C : Int) + 63) = (C : Int) + 63 := by rw [IntKind.wrap_i64]; omega
  have hdd : (((C : Int) + 63).tdiv 64) = (d : Int) := by rw [Int.tdiv_eq_ediv_of_nonneg (by omega), ← hd]; unfold nw; omega
  have hde : (((C : Int) + 63) / 64) = (d : Int) := by rw [← hd]; unfold nw; omega
  have hd3 : d ≤ 2 := by rw [← hd]; unfold nw; omega
  have wdd : IntKind.i64.wrap (d : Int) = (d : Int) := by rw [IntKind.wrap_i64]; omega
  dsimp only
  go_wp2_with fail
  go_loopw [14, 15, 16] (fun j _ _ wr => ∃ p : Nat, p ≤ HV ∧ j = .int .i64 (p : Int) ∧ Below W.heap.size W wr) (fun j _ _ _ => HV - (intOf j).toNat)
  case atStart => exact ⟨0, Nat.zero_le _, rfl, Below.refl _ _⟩
  case round =>
    rename World => X
    obtain ⟨p, hp, rfl, BX⟩ := hrel
    have p0 : (0 : Int) ≤ (p : Int) := by omega
    by_cases hpl : p < HV
    · have pp : (p : Int) < (HV : Int) := by omega
      obtain ⟨yy, eyy⟩ : ∃ y, p / V = y := ⟨_, rfl⟩
      obtain ⟨xx, exx⟩ : ∃ y, p % V = y := ⟨_, rfl⟩
      have hyy : yy < H := by rw [← eyy]; exact Nat.div_lt_of_lt_mul (by rw [Nat.mul_comm, hHV]; exact hpl)
      have hxx : xx < V := by rw [← exx]; exact Nat.mod_lt _ (by omega)
      have idv : (p : Int) / (V : Int) = (yy : Int) := by rw [← eyy]; simp
      have idt : (p : Int).tdiv (V : Int) = (yy : Int) := by rw [Int.tdiv_eq_ediv_of_nonneg (by omega)]; exact idv
      have imo : (p : Int) % (V : Int) = (xx : Int) := by rw [← exx]; simp
      have imt : (p : Int).tmod (V : Int) = (xx : Int) := by rw [Int.tmod_eq_emod_of_nonneg (by omega)]; exact imo
      have wyy : IntKind.i64.wrap (yy : Int) = (yy : Int) := by rw [IntKind.wrap_i64]; omega
      have wxx : IntKind.i64.wrap (xx : Int) = (xx : Int) := by rw [IntKind.wrap_i64]; omega
      have nV3 : ¬ (V : Int) = 0 := by omega
      have nV4 : ((V : Int) == 0) = false := by simp; omega
      have nV5 : ¬ V = 0 := by omega
      have bV1 : (0 : Int) < (V : Int) := by omega
      have eyx : yy * V + xx = p := by rw [← eyy, ← exx, Nat.mul_comm]; exact Nat.div_add_mod p V
      have HAT := hid1 (fun W r => at_ok H V C G 0 mm mm N yy xx W ⟨hH.1, by omega⟩ ⟨hV.1, by omega⟩ ⟨hC.1, by omega⟩ hchk hcuk hmm.symm (Nat.le_refl _) hmm2 hyy hxx r d hd)
      rw [eyx] at HAT
      have HC5 := hid1 (kpAt1 HW5.out BX)
      have HWX := hid1 (HWG.out.below BX)
      obtain ⟨A1, K1, ca, wa⟩ := HON.out.below BX p hpl
      have HCA := hid1 (And.intro ca wa)
      have HBX := hid1 BX
      clear BX eyy exx eyx ca wa
      go_upto_region 12 with fail
      go_cut [15, 16] from 94 to 108 (fun s15 s16 wx => ∃ bX Gz Kz, s15 = .pointer (some ⟨bX, 0, none⟩) ∧ s16 = .int .i64 0 ∧ wx.rowIs bX 41 2 (bf2 C (.slice (some ⟨Gz, 0, none⟩) d Kz)) ∧ Wr wx (some ⟨Gz, 0, none⟩) d (pl N d p) ∧ Below X.heap.size X wx)
      case first =>
        as_aux_lemma =>
          obtain ⟨⟨a0, a1, a2, a3⟩, a4⟩ := HC5.out
          go_region_held3 (fun Y => (Y.cell? ⟨bP, 0, none⟩ = some (.int .i64 (H : Int)) ∧ Y.cell? ⟨bP, 1, none⟩ = some (.int .i64 (V : Int)) ∧ Y.cell? ⟨bP, 2, none⟩ = some (.int .i64 (C : Int)) ∧ Y.cell? ⟨bP, 3, none⟩ = some (.slice (some ⟨G, 0, none⟩) mm mm)) ∧ Y.cell? ⟨bC, 1, none⟩ = some (.int .i64 (V : Int)))
            (((try dsimp only); (with_reducible refine kpAt1 (W := X) HC5.out ?_); repeat (first | (with_reducible exact Below.refl _ _) | (with_reducible assumption) | (with_reducible refine Below.drew ?_) | (with_reducible refine bl_alloc ?_ _) | (with_reducible refine bl_set ?_ (Nat.le_refl _) _))))
            ((go_at_call 8; refine (HAT.out _ (HWX.out.below (by repeat (first | (with_reducible exact Below.refl _ _) | (with_reducible refine Below.drew ?_) | (with_reducible refine bl_alloc ?_ _))))).mono ?_; rintro e z1 ⟨Gz, Kz, rfl, hGz, -, -, -, wz, hb⟩; have HBY := hid1 hb; have by1 : Below X.heap.size X z1 := (by first | exact bl_step (Below.refl _ _).drew hb | exact bl_step (bl_alloc (Below.refl _ _) _).drew hb); have HWZ := hid1 wz; have hGz' : X.heap.size ≤ Gz := (by first | exact hGz | (simp at hGz; omega)); (try (have hGz2 : Gz ≠ X.heap.size := (by simp at hGz; omega))); (try (have VR := keepr HBY.out (bf_new X 0 none 0 0 41).drew; have v0 : z1.cell? ⟨X.heap.size, 0, none⟩ = some (.int .i64 0) := VR.cell (i := 0) (by decide); have v1 : z1.cell? ⟨X.heap.size, 1, none⟩ = some (.slice none 0 0) := VR.cell (i := 1) (by decide); have f0 := VR.frozen 0; have f1 := VR.frozen 1; have HVR := hid1 VR; clear VR)); clear hb wz))
          all_goals (refine kmeet_of (by assumption) ?_; go_meet)
          · exact ⟨_, Gz, Kz, rfl, rfl, bf_new z1 _ _ _ _ _, HWZ.out.below (bl_alloc (Below.refl _ _) _), bl_alloc by1 _⟩
          · have bt : But X.heap.size z1 ((z1.setCell ⟨X.heap.size, 0, none⟩ (.int .i64 (C : Int))).setCell ⟨X.heap.size, 1, none⟩ (.slice (some ⟨Gz, 0, none⟩) d Kz)) := ((But.refl _ _).set _).set _
            exact ⟨_, Gz, Kz, rfl, rfl, bf_set HVR.out _ _, wr_but HWZ.out bt hGz2, bl_set (bl_set by1 (Nat.le_refl _) _) (Nat.le_refl _) _⟩
      case rest =>
        obtain ⟨bX, Gz, Kz, rfl, rfl, RX, wz, hb1⟩ := hcut
        rename World => X1
        have b0 := RX.cell (i := 0) (by omega)
        have b1 : X1.cell? ⟨bX, 1, none⟩ = some (.slice (some ⟨Gz, 0, none⟩) d Kz) := RX.cell (i := 1) (by omega)
        have BX1 := bl_step HBX.out hb1
        have kc := keepc BX1 k2
        have ca := keepc hb1 HCA.out.1
        have HSW := hid1 (fun (Y : World) (hb : Below X1.heap.size X1 Y) => pwords_same d _ _ _ K1 Kz Y (by omega) ((HCA.out.2.below hb1).below hb) (wz.below hb))
        have HS := hid1 (And.intro ca (And.intro b1 kc))
        clear b0 RX wz
        go_upto_region 13 with fail
        have cS := fun dd os => Calls.regrown_of (w := X1) (d := dd) (os := os) (HSW.out _ (below_regrown X1 dd os))
        obtain ⟨s1, s2, s3⟩ := HS.out
        have e1 := cell_regrown s1; have e2 := cell_regrown s2; have e3 := cell_regrown s3
        refine wp_region_quiet_below (by kernel_rfl) (by kernel_rfl) ?_
        repeat (go_big_quiet_step ((go_at_call 9; exact cS _ _)))
        refine wpQuiet_nil ?_
        intro _ hw'
        obtain ⟨⟨dq, osq⟩, hw''⟩ := hw'
        subst hw''
        have bq := below_regrown X1 dq osq
        go_wp2_with fail
        exact ⟨⟨p + 1, by omega, by go_num, bl_step BX1 bq⟩, by simp [intOf]; omega⟩
    · have pp : ¬ (p : Int) < (HV : Int) := by omega
      go_wp2_with fail
      exact hQ.out _ _ _ _ _ _ _ _ _ _ _ _ _ _ _ _ _ _ _ _ _ _ _ _ _ _ _ _ _ _ _ _ _ _ _ _ _ _ _ _ _ _ _ _ _ _ _ _ _ _ _ BX
end Go.Proofs.Ythjebjhepdclkaa
/- PatchMoved: the walk. -/
namespace Go.Proofs.Ythjebjhepdclkaa
open Go.RowKit Go.Shelf
attribute [local go_sem ↓] Go.wp_at_zero Go.wp_at_succ

theorem kpAt {W X : World} {bP bC : Nat} {v0 v1 v2 v3 v4 : Value} (r : W.cell? ⟨bP, 0, none⟩ = some v0 ∧ W.cell? ⟨bP, 1, none⟩ = some v1 ∧ W.cell? ⟨bP, 2, none⟩ = some v2 ∧ W.cell? ⟨bP, 3, none⟩ = some v3) (a : W.cell? ⟨bC, 1, none⟩ = some v4) (hb : Below W.heap.size W X) :
    (X.cell? ⟨bP, 0, none⟩ = some v0 ∧ X.cell? ⟨bP, 1, none⟩ = some v1 ∧ X.cell? ⟨bP, 2, none⟩ = some v2 ∧ X.cell? ⟨bP, 3, none⟩ = some v3) ∧ X.cell? ⟨bC, 1, none⟩ = some v4 :=
  ⟨⟨keepc hb r.1, keepc hb r.2.1, keepc hb r.2.2.1, keepc hb r.2.2.2⟩, keepc hb a⟩
/-- What the walk keeps: the case, its lists, the cube. -/
structure ScQ (w W : World) (bC bP G gu gx : Nat) (K : Ks) (u x : List Int) (H V C m N : Nat) : Prop where
  k : W.rowIs bC 29 14 K.f
  ru : R8 W (some ⟨gu, 0, none⟩) u
  rx : R8 W (some ⟨gx, 0, none⟩) x
  p : W.rowIs bP 33 4 (cf H V C (some ⟨G, 0, none⟩) m m)
  g : Wr W (some ⟨G, 0, none⟩) m N
  o : Below w.heap.size w W
theorem ScQ.below {w W X : World} {bC bP G gu gx : Nat} {K : Ks} {u x : List Int} {H V C m N : Nat} (h : ScQ w W bC bP G gu gx K u x H V C m N) (hb : Below W.heap.size W X) : ScQ w X bC bP G gu gx K u x H V C m N :=
  ⟨keepr hb h.k, r8_below h.ru hb, r8_below h.rx hb, keepr hb h.p, h.g.below hb, bl_step h.o hb⟩
set_option maxHeartbeats 6400000 in
set_option maxRecDepth 100000 in
theorem patchMoved_any (h v c r s sy sx t l b q : Int) (ao : Option Addr) (lv : List Int) (n ca : Nat) (hn : lv.length = n) (w : World) (hnb : n ≤ 140737488351232) (ra : R8 w ao lv) :
    Calls Try.prog 3 #[Sg.shp h v c, Sg.win r s sy sx t l b q, .slice ao n ca] w fun e w' => e = .returned (.bool true) ∧ Below w.heap.size w w' := by
  obtain ⟨H, V, C, R, S, SY, SX, T, L, B, Q, D, cn, hD, hmade⟩ := madeN h v c r s sy sx t l b q 1 ao lv n ca hn none [] 0 0 rfl hnb (by omega)
  have HMD := hid1 hmade
  have CN := hid1 cn
  have RA := hid1 ra
  clear hmade ra hn cn
  go_enter Try.func3, Try.ntmps3
  go_wp2_with fail
  refine gen_calls (fun X => X.rowIs w.heap.size 23 3 (hf h v c) ∧ X.rowIs (w.heap.size + 1) 25 8 (wiI r s sy sx t l b q) ∧ Below w.heap.size w X) ⟨(hf_new w _ _ _ _).alloc _, alloc_at (wiI_new _ _ _ _ _ _ _ _ _) (by simp), bl_alloc (bl_alloc (Below.refl _ _) _) _⟩ ?_
  rintro X ⟨b0, b1, BX⟩
  refine (pbegun_any X).mono ?_
  rintro e w1 ⟨rfl, hb⟩
  replace b0 := keepr hb b0
  replace b1 := keepr hb b1
  have BW := bl_step BX hb
  have c0 := hf0 b0
  have c1 := hf1 b0
  have c2 := hf2 b0
  have d0 : w1.cell? ⟨w.heap.size + 1, 0, none⟩ = some (.int .i64 r) := b1.cell (i := 0) (by omega)
  have d1 : w1.cell? ⟨w.heap.size + 1, 1, none⟩ = some (.int .i64 s) := b1.cell (i := 1) (by omega)
  have d2 : w1.cell? ⟨w.heap.size + 1, 2, none⟩ = some (.int .i64 sy) := b1.cell (i := 2) (by omega)
  have d3 : w1.cell? ⟨w.heap.size + 1, 3, none⟩ = some (.int .i64 sx) := b1.cell (i := 3) (by omega)
  have d4 : w1.cell? ⟨w.heap.size + 1, 4, none⟩ = some (.int .i64 t) := b1.cell (i := 4) (by omega)
  have d5 : w1.cell? ⟨w.heap.size + 1, 5, none⟩ = some (.int .i64 l) := b1.cell (i := 5) (by omega)
  have d6 : w1.cell? ⟨w.heap.size + 1, 6, none⟩ = some (.int .i64 b) := b1.cell (i := 6) (by omega)
  have d7 : w1.cell? ⟨w.heap.size + 1, 7, none⟩ = some (.int .i64 q) := b1.cell (i := 7) (by omega)
  have HBW := hid1 BW
  clear b0 b1 BX hb BW
  go_wp2_with fail
  refine (HMD.out w1 (r8_below RA.out HBW.out) (fun k hk => absurd hk (by simp))).mono ?_
  rintro e w2 ⟨gu, uc, gx, xc, rfl, huc, ru, rx, hb⟩
  replace HBW := hid1 (bl_step HBW.out hb)
  have RU := hid1 ru
  have RX := hid1 rx
  clear c0 c1 c2 d0 d1 d2 d3 d4 d5 d6 d7 hb ru rx HMD RA
  go_upto_region 5 with fail
  obtain ⟨bC, ebC⟩ : ∃ x, w2.heap.size = x := ⟨_, rfl⟩
  obtain ⟨u, eu⟩ : ∃ u, vlM lv (H * V * C) = u := ⟨_, rfl⟩
  obtain ⟨x, ex⟩ : ∃ x, wtM [] (R * S * C) = x := ⟨_, rfl⟩
  obtain ⟨un, eun⟩ : ∃ x, H * V * C = x := ⟨_, rfl⟩
  obtain ⟨xn, exn⟩ : ∃ x, R * S * C = x := ⟨_, rfl⟩
  have hul : u.length = un := by rw [← eu, vlM_len]; exact eun
  have hxl : x.length = xn := by rw [← ex, wtM_len]; exact exn
  have hpm : ∀ i, i < H * V * C → ia u i = 1 ∨ ia u i = -1 := fun i hi => by rw [← eu]; exact vlM_pm lv hi
  have hwb : ∀ i, i < R * S * C → -1 ≤ ia x i ∧ ia x i ≤ 1 := fun i hi => by rw [← ex]; exact wtM_bd [] hi
  rw [eu] at RU
  rw [ex] at RX
  rw [eun] at huc
  rw [eun, exn]
  have EUN := hid1 eun
  have EXN := hid1 exn
  have HUL := hid1 hul
  have HXL := hid1 hxl
  have HPM := hid1 hpm
  have HWB := hid1 hwb
  refine gen_world (fun Y => Y.rowIs bC 29 14 (kN H V C (some ⟨gu, 0, none⟩) un uc R S SY SX T L B Q D (some ⟨gx, 0, none⟩) xn xc).f ∧ R8 Y (some ⟨gu, 0, none⟩) u ∧ R8 Y (some ⟨gx, 0, none⟩) x ∧ Below w.heap.size w Y) ⟨ebC ▸ ks_new w2 (kN H V C (some ⟨gu, 0, none⟩) un uc R S SY SX T L B Q D (some ⟨gx, 0, none⟩) xn xc), r8_below RU.out (bl_alloc (Below.refl _ _) _), r8_below RX.out (bl_alloc (Below.refl _ _) _), bl_alloc HBW.out _⟩ ?_
  rw [ebC]
  clear RU RX HBW hul hxl hpm hwb eu ex eun exn ebC
  rintro Y ⟨kc, ru, rx, BY⟩
  obtain ⟨mm, emm⟩ : ∃ x, H * V * nw C = x := ⟨_, rfl⟩
  obtain ⟨N, eN⟩ : ∃ x, cNE u C (H * V) = x := ⟨_, rfl⟩
  have HPK := hid1 (packC CN.out.hH CN.out.hV CN.out.hC u HUL.out EUN.out.symm emm eN gu 0 uc Y huc.1 huc.2 ru)
  have k0 : Y.cell? ⟨bC, 0, none⟩ = some (.int .i64 H) := kc.cell (i := 0) (by omega)
  have k1 : Y.cell? ⟨bC, 1, none⟩ = some (.int .i64 V) := kc.cell (i := 1) (by omega)
  have k2 : Y.cell? ⟨bC, 2, none⟩ = some (.int .i64 C) := kc.cell (i := 2) (by omega)
  have k3 : Y.cell? ⟨bC, 3, none⟩ = some (.slice (some ⟨gu, 0, none⟩) un uc) := kc.cell (i := 3) (by omega)
  have KC := hid1 kc
  have RU := hid1 ru
  have RX := hid1 rx
  have HBY := hid1 BY
  have EMM := hid1 emm
  have EN := hid1 eN
  clear kc ru rx BY emm eN
  go_wp2_with fail
  refine HPK.out.mono ?_
  rintro e y1 ⟨G, rfl, wg, hb⟩
  have KC1 := hid1 (keepr hb KC.out)
  have RU1 := hid1 (r8_below RU.out hb)
  have RX1 := hid1 (r8_below RX.out hb)
  have HB1 := hid1 (bl_step HBY.out hb)
  have WG := hid1 wg
  clear hb k0 k1 k2 k3 KC RU RX HBY wg HPK
  go_upto_region 6 with fail
  obtain ⟨bP, ebP⟩ : ∃ x, y1.heap.size = x := ⟨_, rfl⟩
  have bel1 := bl_alloc (Below.refl y1.heap.size y1) (.cells #[.int .i64 H, .int .i64 V, .int .i64 C, .slice (some ⟨G, 0, none⟩) mm mm] 33)
  refine gen_world (fun Z => ScQ w Z bC bP G gu gx (kN H V C (some ⟨gu, 0, none⟩) un uc R S SY SX T L B Q D (some ⟨gx, 0, none⟩) xn xc) u x H V C mm N) ⟨keepr bel1 KC1.out, r8_below RU1.out bel1, r8_below RX1.out bel1, ebP ▸ cu_new _ _ _ _ _ _ _ _, WG.out.below bel1, bl_alloc HB1.out _⟩ ?_
  rw [ebP]
  clear bel1 KC1 RU1 RX1 WG HB1 ebP
  intro Z sc
  have cn1 : Cn H V C 1 1 1 1 0 0 0 0 := by
    obtain ⟨⟨_, _⟩, ⟨_, _⟩, ⟨_, _⟩, _, _, _, _, _, _, _, _⟩ := CN.out
    exact ⟨by omega, by omega, by omega, by omega, by omega, by omega, by omega, by omega, by omega, by omega, by omega⟩
  have eA1 : oA H 0 0 1 1 = H := by unfold oA; have := cn1.hH; rw [Nat.div_one]; omega
  have eB1 : oA V 0 0 1 1 = V := by unfold oA; have := cn1.hV; rw [Nat.div_one]; omega
  obtain ⟨HV, eHV⟩ : ∃ x, H * V = x := ⟨_, rfl⟩
  obtain ⟨d, ed⟩ : ∃ x, nw C = x := ⟨_, rfl⟩
  have HS1 := hid1 (fun W rd => seeC cn1 u G 0 (by omega) mm H V HV d N EMM.out eA1 eB1 eHV (by rw [Nat.one_mul]; exact ed) EN.out 0 0 (by simp) (by simp) W rd)
  have p0 := cf0 sc.p
  have p1 := cf1 sc.p
  have p2 := cf2 sc.p
  have p3 := cf3 sc.p
  have SC := hid1 sc
  have EHV := hid1 eHV
  have ED := hid1 ed
  have CN1 := hid1 cn1
  clear sc eA1 eB1 eHV ed cn1
  go_wp2_with fail
  refine (HS1.out Z SC.out.g).mono ?_
  rintro e z1 ⟨g1, cap1, rfl, pr1, hb⟩
  have SC1 := hid1 (SC.out.below hb)
  have PR1 := hid1 pr1
  clear hb pr1 SC HS1 p0 p1 p2 p3
  go_upto_region 7 with fail
  obtain ⟨b1, eb1⟩ : ∃ x, z1.heap.size = x := ⟨_, rfl⟩
  have bel1 := bl_alloc (Below.refl z1.heap.size z1) (.cells #[.int .i64 H, .int .i64 V, .int .i64 1] 23)
  refine gen_world (fun W => ScQ w W bC bP G gu gx (kN H V C (some ⟨gu, 0, none⟩) un uc R S SY SX T L B Q D (some ⟨gx, 0, none⟩) xn xc) u x H V C mm N ∧ Prw W g1 HV d (seS H V C N 1 1 1 1 0 0 V 0) (seM H V C 1 1 1 1 0 0 V 0) ∧ W.rowIs b1 23 3 (hf H V 1)) ⟨SC1.out.below bel1, PR1.out.below bel1, eb1 ▸ hf_new _ _ _ _ _⟩ ?_
  rw [eb1]
  clear bel1 SC1 PR1 eb1
  rintro Z2 ⟨sc, pr1, s1⟩
  have u0 := hf0 s1
  have u1 := hf1 s1
  have k0 : Z2.cell? ⟨bC, 0, none⟩ = some (.int .i64 H) := sc.k.cell (i := 0) (by omega)
  have k1 : Z2.cell? ⟨bC, 1, none⟩ = some (.int .i64 V) := sc.k.cell (i := 1) (by omega)
  have hHV : HV ≤ 36 := by rw [← EHV.out]; exact Nat.mul_le_mul CN1.out.hH.2 CN1.out.hV.2
  have wHV : IntKind.i64.wrap ((H : Int) * (V : Int)) = (HV : Int) := by rw [show (H : Int) * (V : Int) = ((H * V : Nat) : Int) by push_cast; rfl, EHV.out, IntKind.wrap_i64]; omega
  have SC := hid1 sc
  have PR1 := hid1 pr1
  have S1 := hid1 s1
  clear sc pr1 s1
  go_cut [87] from 54 to 87 (fun s87 wx => s87 = .bool false ∧ wx = Z2)
  case first =>
    as_aux_lemma =>
      go_wp2_with fail
      go_meet
      exact ⟨rfl, rfl⟩
  case rest =>
    obtain ⟨rfl, rfl⟩ := hcut
    rename World => Z3
    have hV1 := CN1.out.hV
    have hH1 := CN1.out.hH
    have hC1 := CN1.out.hC
    have kchk : Sg.chk H V C = 0 := chk_small ⟨hH1.1, by omega⟩ ⟨hV1.1, by omega⟩ hC1
    have kcuk : cuk H V C mm N = 0 := by have := cNE_cuk (l := u) kchk; rw [EMM.out, EN.out] at this; exact this
    have hd3 : d ≤ 2 := by rw [← ED.out]; unfold nw; omega
    have hmm9 : mm ≤ 9223372036854775807 := by
      rw [← EMM.out, EHV.out, ED.out]
      have : HV * d ≤ 36 * 2 := Nat.mul_le_mul hHV hd3
      omega
    have HW5 := hid1 (And.intro (And.intro (cf0 SC.out.p) (And.intro (cf1 SC.out.p) (And.intro (cf2 SC.out.p) (cf3 SC.out.p)))) (show Z3.cell? ⟨bC, 1, none⟩ = some (.int .i64 (V : Int)) from SC.out.k.cell (i := 1) (by omega)))
    have HK2 := hid1 (show Z3.cell? ⟨bC, 2, none⟩ = some (.int .i64 (C : Int)) from SC.out.k.cell (i := 2) (by omega))
    have HO1 := hid1 (On1.of ED.out hV1.1 EHV.out PR1.out)
    have HWG := hid1 SC.out.g
    clear u0 u1 k0 k1 wHV
    go_upto_block 0 with fail
    refine pm_b0 _ _ _ _ _ _ _ _ _ _ _ _ _ _ _ _ _ _ _ _ _ _ _ _ _ _ _ _ _ _ _ _ _ _ _ _ _ _ _ _ _ _ _ _ _ _ _ _ _ _ _ _ _ _ _ _ _ _ _ _ _ _ _ _ _ _ _ _ _ _ _ _ _ _ _ _ _ _ _ _ _ _ _ _ _ _ _ _ _ _ _ _ _ _ _ _ _ _ _ _ _ _ _ _ _ _ _ _ _ _ _ _ _ _ _ _ _ _ _ _ _ _ _ _ _ _ _ _ _ _ _ _ _ _ _ _ _ _ _ _ _ _ _ _ _ _ _ _ _ _ _ _ _ _ _ _ _ _ _ _ _ _ _ _ _ _ _ _ _ _ _ _ _ _ _ _ _ _ _ _ _ _ _ _ _ _ _ _ _ _ _ _ _ _ _ _ _ _ _ _ _ _ _ _ _ _ _ _ _ _ _ _ _ _ _ _ _ _ _ _ _ _ _ _ _ _ _ _ _ _ _ _ _ _ _ _ _ _ _ _ _ _ _ _ _ _ _ _ _ _ _ _ _ _ _ _ _ _ _ _ _ _ _ _ _ _ _ _ _ _ _ _ _ _ _ _ _ _ _ _ _ _ _ _ _ _ _ _ _ _ _ _ _ _ _ _ _ _ _ _ _ _ _ _ _ _ _ _ _ _ _ _ _ _ _ _ _ _ _ _ _ _ _ _ _ _ _ _ _ _ _ _ _ _ _ _ _ _ _ _ _ _ _ _ _ _ _ _ _ _ _ _ _ _ _ _ _ _ _ _ _ _ _ _ _ _ _ _ _ _ _ _ _ _ _ _ _ _ _ _ _ _ _ _ _ _ _ _ _ _ _ _ _ _ _ _ _ _ _ _ _ _ _ _ _ _ _ _ _ _ _ _ _ _ _ _ _ _ _ _ _ _ _ _ _ _ _ _ _ _ _ _ _ _ _ _ _ _ _ _ _ _ _ _ _ _ _ _ _ _ _ _ _ _ _ _ _ _ _ _ _ _ _ _ _ _ _ _ _ _ _ _ _ _ _ _ _ _ _ _ _ _ _ _ _ _ _ _ _ _ _ _ _ _ _ _ _ _ _ _ _ _ _ Z3 bC bP g1 cap1 HV d H V C N G mm _ hHV hH1 hV1 hC1 EHV.out ED.out EMM.out hmm9 kchk kcuk HW5 HK2.out HWG HO1 (hid1 ?_)
    intro Y0 v6 v14 v15 v16 v88 v89 v90 v91 v92 v93 v94 v95 v96 v97 v98 v99 v100 v101 v102 v103 v104 v105 v106 v107 v108 v109 v110 v111 v112 v113 v114 v115 v116 v117 v118 v119 v120 v121 v122 v123 v124 v125 v126 v127 v128 v129 v130 v131 v132 v133 B0
    have HSC := hid1 (SC.out.below B0)
    have HON := hid1 (HO1.out.below B0)
    obtain ⟨A, eA⟩ : ∃ x, oA H T B R SY = x := ⟨_, rfl⟩
    obtain ⟨Bq, eB⟩ : ∃ x, oA V L Q S SX = x := ⟨_, rfl⟩
    obtain ⟨P, eP⟩ : ∃ x, A * Bq = x := ⟨_, rfl⟩
    obtain ⟨RS, eRS⟩ : ∃ x, R * S = x := ⟨_, rfl⟩
    obtain ⟨M, eM⟩ : ∃ x, RS * d = x := ⟨_, rfl⟩
    have bA := oA_bd (sy := SY) CN.out.hH.2 CN.out.hT CN.out.hB CN.out.hR.1
    have bB := oA_bd (sy := SX) CN.out.hV.2 CN.out.hL CN.out.hQ CN.out.hS.1
    rw [eA] at bA
    rw [eB] at bB
    have eM2 : R * S * nw C = M := by rw [eRS, ED.out]; exact eM
    have HS2 := hid1 (fun W rd => seeC CN.out u G 1 (by omega) mm A Bq P M N EMM.out eA eB eP eM2 EN.out (ful C) (ful C) (by simp) (by simp) W rd)
    have HS3 := hid1 (fun W rd => seeC CN.out u G (-1) (by omega) mm A Bq P M N EMM.out eA eB eP eM2 EN.out 0 (ful C) (by simp) (by simp) W rd)
    have HS4 := hid1 (fun W rd => seeC CN.out u G 0 (by omega) mm A Bq P M N EMM.out eA eB eP eM2 EN.out 0 0 (by simp) (by simp) W rd)
    have bRS : RS ≤ 144 := by rw [← eRS]; exact Nat.le_trans (Nat.mul_le_mul (show R ≤ 12 by have := CN.out.hR.2; have := CN.out.hT; have := CN.out.hB; omega) (show S ≤ 12 by have := CN.out.hS.2; have := CN.out.hL; have := CN.out.hQ; omega)) (by omega)
    have bPP : P ≤ 144 := by rw [← eP]; exact Nat.le_trans (Nat.mul_le_mul bA.2 bB.2) (by omega)
    have bM : M ≤ 288 := by rw [← eM]; exact Nat.le_trans (Nat.mul_le_mul bRS hd3) (by omega)
    have wAB : IntKind.i64.wrap ((A : Int) * (Bq : Int)) = (P : Int) := by rw [show (A : Int) * (Bq : Int) = ((A * Bq : Nat) : Int) by push_cast; rfl, eP, IntKind.wrap_i64]; omega
    have HEE := hid1 (And.intro eRS eM)
    have HBW0 := hid1 (bl_step SC.out.o B0)
    clear eA eB eP eM2 eRS eM SC B0 HO1 HWG HW5 HK2 PR1
    have p0 := cf0 HSC.out.p
    have p1 := cf1 HSC.out.p
    have p2 := cf2 HSC.out.p
    have p3 := cf3 HSC.out.p
    have k4 : Y0.cell? ⟨bC, 4, none⟩ = some (.int .i64 (R : Int)) := HSC.out.k.cell (i := 4) (by omega)
    have k5 : Y0.cell? ⟨bC, 5, none⟩ = some (.int .i64 (S : Int)) := HSC.out.k.cell (i := 5) (by omega)
    have k6 : Y0.cell? ⟨bC, 6, none⟩ = some (.int .i64 (SY : Int)) := HSC.out.k.cell (i := 6) (by omega)
    have k7 : Y0.cell? ⟨bC, 7, none⟩ = some (.int .i64 (SX : Int)) := HSC.out.k.cell (i := 7) (by omega)
    have k8 : Y0.cell? ⟨bC, 8, none⟩ = some (.int .i64 (T : Int)) := HSC.out.k.cell (i := 8) (by omega)
    have k9 : Y0.cell? ⟨bC, 9, none⟩ = some (.int .i64 (L : Int)) := HSC.out.k.cell (i := 9) (by omega)
    have k10 : Y0.cell? ⟨bC, 10, none⟩ = some (.int .i64 (B : Int)) := HSC.out.k.cell (i := 10) (by omega)
    have k11 : Y0.cell? ⟨bC, 11, none⟩ = some (.int .i64 (Q : Int)) := HSC.out.k.cell (i := 11) (by omega)
    go_wp2_with fail
    refine (HS2.out Y0 HSC.out.g).mono ?_
    rintro e z2 ⟨g2, cap2, rfl, pr2, hb⟩
    have HSC2 := hid1 (HSC.out.below hb)
    have HPR2 := hid1 pr2
    have HON' := hid1 (HON.out.below hb)
    clear hb pr2 HS2 p0 p1 p2 p3 k4 k5 k6 k7 k8 k9 k10 k11 HON
    go_upto_region 16 with fail
    obtain ⟨b18, eb18⟩ : ∃ x, z2.heap.size = x := ⟨_, rfl⟩
    have bel1 := bl_alloc (Below.refl z2.heap.size z2) (.cells #[.int .i64 (A : Int), .int .i64 (Bq : Int), .int .i64 1] 23)
    refine gen_world (fun Y => ScQ w Y bC bP G gu gx (kN H V C (some ⟨gu, 0, none⟩) un uc R S SY SX T L B Q D (some ⟨gx, 0, none⟩) xn xc) u x H V C mm N ∧ Prw Y g2 P M (seS H V C N S R SY SX T L Bq (ful C)) (seM H V C S R SY SX T L Bq (ful C)) ∧ Y.rowIs b18 23 3 (hf A Bq 1) ∧ On1 Y g1 HV d N) ⟨HSC2.out.below bel1, HPR2.out.below bel1, eb18 ▸ hf_new _ _ _ _ _, HON'.out.below bel1⟩ ?_
    rw [eb18]
    clear bel1 HSC2 HPR2 eb18 HSC HON'
    rintro Y1 ⟨sc, pr, sh, qHON⟩
    have HSC := hid1 sc
    have HP2 := hid1 pr
    have HSH2 := hid1 sh
    have HON := hid1 qHON
    clear sc pr sh qHON
    have p0 := cf0 HSC.out.p
    have p1 := cf1 HSC.out.p
    have p2 := cf2 HSC.out.p
    have p3 := cf3 HSC.out.p
    have k4 : Y1.cell? ⟨bC, 4, none⟩ = some (.int .i64 (R : Int)) := HSC.out.k.cell (i := 4) (by omega)
    have k5 : Y1.cell? ⟨bC, 5, none⟩ = some (.int .i64 (S : Int)) := HSC.out.k.cell (i := 5) (by omega)
    have k6 : Y1.cell? ⟨bC, 6, none⟩ = some (.int .i64 (SY : Int)) := HSC.out.k.cell (i := 6) (by omega)
    have k7 : Y1.cell? ⟨bC, 7, none⟩ = some (.int .i64 (SX : Int)) := HSC.out.k.cell (i := 7) (by omega)
    have k8 : Y1.cell? ⟨bC, 8, none⟩ = some (.int .i64 (T : Int)) := HSC.out.k.cell (i := 8) (by omega)
    have k9 : Y1.cell? ⟨bC, 9, none⟩ = some (.int .i64 (L : Int)) := HSC.out.k.cell (i := 9) (by omega)
    have k10 : Y1.cell? ⟨bC, 10, none⟩ = some (.int .i64 (B : Int)) := HSC.out.k.cell (i := 10) (by omega)
    have k11 : Y1.cell? ⟨bC, 11, none⟩ = some (.int .i64 (Q : Int)) := HSC.out.k.cell (i := 11) (by omega)
    go_wp2_with fail
    refine (HS3.out Y1 HSC.out.g).mono ?_
    rintro e z3 ⟨g3, cap3, rfl, pr3, hb⟩
    have HSC3 := hid1 (HSC.out.below hb)
    have HPR3 := hid1 pr3
    have HON' := hid1 (HON.out.below hb)
    have HP2' := hid1 (HP2.out.below hb)
    clear hb pr3 HS3 p0 p1 p2 p3 k4 k5 k6 k7 k8 k9 k10 k11 HON HP2
    go_upto_region 17 with fail
    obtain ⟨b20, eb20⟩ : ∃ x, z3.heap.size = x := ⟨_, rfl⟩
    have bel1 := bl_alloc (Below.refl z3.heap.size z3) (.cells #[.int .i64 (A : Int), .int .i64 (Bq : Int), .int .i64 1] 23)
    refine gen_world (fun Y => ScQ w Y bC bP G gu gx (kN H V C (some ⟨gu, 0, none⟩) un uc R S SY SX T L B Q D (some ⟨gx, 0, none⟩) xn xc) u x H V C mm N ∧ Prw Y g3 P M (seS H V C N S R SY SX T L Bq 0) (seM H V C S R SY SX T L Bq (ful C)) ∧ Y.rowIs b20 23 3 (hf A Bq 1) ∧ On1 Y g1 HV d N ∧ Prw Y g2 P M (seS H V C N S R SY SX T L Bq (ful C)) (seM H V C S R SY SX T L Bq (ful C))) ⟨HSC3.out.below bel1, HPR3.out.below bel1, eb20 ▸ hf_new _ _ _ _ _, HON'.out.below bel1, HP2'.out.below bel1⟩ ?_
    rw [eb20]
    clear bel1 HSC3 HPR3 eb20 HSC HON' HP2'
    rintro Y2 ⟨sc, pr, sh, qHON, qHP2⟩
    have HSC := hid1 sc
    have HP3 := hid1 pr
    have HSH3 := hid1 sh
    have HON := hid1 qHON
    have HP2 := hid1 qHP2
    clear sc pr sh qHON qHP2
    have p0 := cf0 HSC.out.p
    have p1 := cf1 HSC.out.p
    have p2 := cf2 HSC.out.p
    have p3 := cf3 HSC.out.p
    have k4 : Y2.cell? ⟨bC, 4, none⟩ = some (.int .i64 (R : Int)) := HSC.out.k.cell (i := 4) (by omega)
    have k5 : Y2.cell? ⟨bC, 5, none⟩ = some (.int .i64 (S : Int)) := HSC.out.k.cell (i := 5) (by omega)
    have k6 : Y2.cell? ⟨bC, 6, none⟩ = some (.int .i64 (SY : Int)) := HSC.out.k.cell (i := 6) (by omega)
    have k7 : Y2.cell? ⟨bC, 7, none⟩ = some (.int .i64 (SX : Int)) := HSC.out.k.cell (i := 7) (by omega)
    have k8 : Y2.cell? ⟨bC, 8, none⟩ = some (.int .i64 (T : Int)) := HSC.out.k.cell (i := 8) (by omega)
    have k9 : Y2.cell? ⟨bC, 9, none⟩ = some (.int .i64 (L : Int)) := HSC.out.k.cell (i := 9) (by omega)
    have k10 : Y2.cell? ⟨bC, 10, none⟩ = some (.int .i64 (B : Int)) := HSC.out.k.cell (i := 10) (by omega)
    have k11 : Y2.cell? ⟨bC, 11, none⟩ = some (.int .i64 (Q : Int)) := HSC.out.k.cell (i := 11) (by omega)
    go_wp2_with fail
    refine (HS4.out Y2 HSC.out.g).mono ?_
    rintro e z4 ⟨g4, cap4, rfl, pr4, hb⟩
    have HSC4 := hid1 (HSC.out.below hb)
    have HPR4 := hid1 pr4
    have HON' := hid1 (HON.out.below hb)
    have HP2' := hid1 (HP2.out.below hb)
    have HP3' := hid1 (HP3.out.below hb)
    clear hb pr4 HS4 p0 p1 p2 p3 k4 k5 k6 k7 k8 k9 k10 k11 HON HP2 HP3
    go_upto_region 18 with fail
    obtain ⟨b22, eb22⟩ : ∃ x, z4.heap.size = x := ⟨_, rfl⟩
    have bel1 := bl_alloc (Below.refl z4.heap.size z4) (.cells #[.int .i64 (A : Int), .int .i64 (Bq : Int), .int .i64 1] 23)
    refine gen_world (fun Y => ScQ w Y bC bP G gu gx (kN H V C (some ⟨gu, 0, none⟩) un uc R S SY SX T L B Q D (some ⟨gx, 0, none⟩) xn xc) u x H V C mm N ∧ Prw Y g4 P M (seS H V C N S R SY SX T L Bq 0) (seM H V C S R SY SX T L Bq 0) ∧ Y.rowIs b22 23 3 (hf A Bq 1) ∧ On1 Y g1 HV d N ∧ Prw Y g2 P M (seS H V C N S R SY SX T L Bq (ful C)) (seM H V C S R SY SX T L Bq (ful C)) ∧ Prw Y g3 P M (seS H V C N S R SY SX T L Bq 0) (seM H V C S R SY SX T L Bq (ful C))) ⟨HSC4.out.below bel1, HPR4.out.below bel1, eb22 ▸ hf_new _ _ _ _ _, HON'.out.below bel1, HP2'.out.below bel1, HP3'.out.below bel1⟩ ?_
    rw [eb22]
    clear bel1 HSC4 HPR4 eb22 HSC HON' HP2' HP3'
    rintro Y3 ⟨sc, pr, sh, qHON, qHP2, qHP3⟩
    have HSC := hid1 sc
    have HP4 := hid1 pr
    have HSH4 := hid1 sh
    have HON := hid1 qHON
    have HP2 := hid1 qHP2
    have HP3 := hid1 qHP3
    clear sc pr sh qHON qHP2 qHP3
    have s0 := hf0 HSH4.out
    have s1 := hf1 HSH4.out
    have A1 : (1 : Int) ≤ (A : Int) := by omega
    have B1 : (1 : Int) ≤ (Bq : Int) := by omega
    have A2 : ¬ (A : Int) < 1 := by omega
    have B2 : ¬ (Bq : Int) < 1 := by omega
    go_cut [201] from 158 to 201 (fun s201 wx => s201 = .bool false ∧ wx = Y3)
    case first =>
      as_aux_lemma =>
        go_wp2_with fail
        go_meet
        exact ⟨rfl, rfl⟩
    case rest =>
      obtain ⟨rfl, rfl⟩ := hcut
      rename World => Y4
      have k2 : Y4.cell? ⟨bC, 2, none⟩ = some (.int .i64 (C : Int)) := HSC.out.k.cell (i := 2) (by omega)
      have dW : IntKind.i64.wrap ((C : Int) + 63) = (C : Int) + 63 := by rw [IntKind.wrap_i64]; omega
      have hdd : (((C : Int) + 63).tdiv 64) = (d : Int) := by rw [Int.tdiv_eq_ediv_of_nonneg (by omega), ← ED.out]; unfold nw; omega
      have hde : (((C : Int) + 63) / 64) = (d : Int) := by rw [← ED.out]; unfold nw; omega
      have wdd : IntKind.i64.wrap (d : Int) = (d : Int) := by rw [IntKind.wrap_i64]; omega
      go_upto_block 2 with fail
      refine pm_b2 _ _ _ _ _ _ _ _ _ _ _ _ _ _ _ _ _ _ _ _ _ _ _ _ _ _ _ _ _ _ _ _ _ _ _ _ _ _ _ _ _ _ _ _ _ _ _ _ _ _ _ _ _ _ _ _ _ _ _ _ _ _ _ _ _ _ _ _ _ _ _ _ _ _ _ _ _ _ _ _ _ _ _ _ _ _ _ _ _ _ _ _ _ _ _ _ _ _ _ _ _ _ _ _ _ _ _ _ _ _ _ _ _ _ _ _ _ _ _ _ _ _ _ _ _ _ _ _ _ _ _ _ _ _ _ _ _ _ _ _ _ _ _ _ _ _ _ _ _ _ _ _ _ _ _ _ _ _ _ _ _ _ _ _ _ _ _ _ _ _ _ _ _ _ _ _ _ _ _ _ _ _ _ _ _ _ _ _ _ _ _ _ _ _ _ _ _ _ _ _ _ _ _ _ _ _ _ _ _ _ _ _ _ _ _ _ _ _ _ _ _ _ _ _ _ _ _ _ _ _ _ _ _ _ _ _ _ _ _ _ _ _ _ _ _ _ _ _ _ _ _ _ _ _ _ _ _ _ _ _ _ _ _ _ _ _ _ _ _ _ _ _ _ _ _ _ _ _ _ _ _ _ _ _ _ _ _ _ _ _ _ _ _ _ _ _ _ _ _ _ _ _ _ _ _ _ _ _ _ _ _ _ _ _ _ _ _ _ _ _ _ _ _ _ _ _ _ _ _ _ _ _ _ _ _ _ _ _ _ _ _ _ _ _ _ _ _ _ _ _ _ _ _ _ _ _ _ _ _ _ _ _ _ _ _ _ _ _ _ _ _ _ _ _ _ _ _ _ _ _ _ _ _ _ _ _ _ _ _ _ _ _ _ _ _ _ _ _ _ _ _ _ _ _ _ _ _ _ _ _ _ _ _ _ _ _ _ _ _ _ _ _ _ _ _ _ _ _ _ _ _ _ _ _ _ _ _ _ _ _ _ _ _ _ _ _ _ _ _ _ _ _ _ _ _ _ _ _ _ _ _ _ _ _ _ _ _ _ _ _ _ _ _ _ _ _ _ _ _ _ _ _ _ _ _ _ _ _ _ _ _ _ _ _ _ _ _ _ _ Y4 bC b22 g1 g2 g3 g4 P M d cap1 cap2 cap3 cap4 HV H V C N R S SY SX T L Bq RS _ (by omega) (by omega) HEE.out.1 HEE.out.2 EHV.out ED.out (by omega) (by have := CN.out.hS.1; omega) hd3 (by omega) (by omega) (by have := CN.out.hS.2; have := CN.out.hL; have := CN.out.hQ; omega) CN.out.hsy.2 CN.out.hsx.2 CN.out.hT CN.out.hL hH1.2 hV1.2 (HSC.out.k.cell (i := 0) (by omega)) (HSC.out.k.cell (i := 1) (by omega)) (HSC.out.k.cell (i := 2) (by omega)) (HSC.out.k.cell (i := 4) (by omega)) (HSC.out.k.cell (i := 5) (by omega)) (HSC.out.k.cell (i := 6) (by omega)) (HSC.out.k.cell (i := 7) (by omega)) (HSC.out.k.cell (i := 8) (by omega)) (HSC.out.k.cell (i := 9) (by omega)) s1 HP2 HP3 HP4 (hid1 HON.out.on) (hid1 ?_)
      intro Y5 v6 v25 v26 v27 v28 v29 v30 v31 v207 v208 v209 v210 v211 v212 v213 v214 v215 v216 v217 v218 v219 v220 v221 v222 v223 v224 v225 v226 v227 v228 v229 v230 v231 v232 v233 v234 v235 v236 v237 v238 v239 v240 v241 v242 v243 v244 v245 v246 v247 v248 v249 v250 v251 v252 v253 v254 v255 v256 v257 v258 v259 v260 v261 v262 v263 v264 v265 v266 v267 v268 v269 v270 v271 v272 v273 v274 v275 v276 v277 v278 v279 v280 v281 v282 v283 v284 v285 v286 v287 v288 v289 v290 v291 v292 v293 v294 v295 v296 v297 v298 v299 v300 v301 v302 v303 v304 v305 v306 v307 v308 v309 v310 v311 v312 v313 v314 v315 v316 v317 v318 v319 v320 v321 v322 v323 v324 v325 v326 v327 v328 v329 v330 v331 v332 v333 v334 v335 v336 v337 v338 v339 v340 v341 v342 v343 v344 v345 v346 v347 v348 v349 v350 v351 v352 v353 v354 v355 v356 v357 v358 v359 v360 v361 v362 v363 v364 v365 v366 v367 v368 v369 v370 v371 v372 v373 v374 v375 v376 v377 v378 v379 v380 v381 v382 v383 v384 v385 v386 v387 v388 v389 v390 v391 v392 v393 v394 v395 v396 v397 v398 v399 v400 v401 v402 v403 v404 v405 v406 v407 v408 v409 v410 v411 v412 v413 v414 v415 v416 v417 v418 v419 v420 v421 v422 v423 v424 v425 v426 v427 v428 v429 v430 v431 v432 v433 v434 v435 v436 v437 v438 v439 v440 v441 v442 v443 v444 v445 v446 v447 v448 v449 v450 v451 v452 v453 v454 v455 v456 v457 v458 v459 v460 v461 v462 v463 v464 v465 v466 v467 v468 v469 v470 v471 v472 v473 v474 v475 v476 v477 v478 v479 v480 v481 v482 v483 v484 v485 v486 v487 v488 v489 v490 v491 v492 v493 v494 v495 v496 v497 v498 v499 v500 v501 v502 v503 v504 v505 v506 B5
      have BF := bl_step HSC.out.o B5
      go_wp2_with fail
      refine bodyPost_ret (v := .bool true) (by simp [results, Try.results3, go_sem]) rfl ⟨rfl, BF⟩
end Go.Proofs.Ythjebjhepdclkaa
namespace Go.Proofs.Ythjebjhepdclkaa
open Go.ChangeShapes Go.WideShapes Go.ChangeAt Go.RowKit

set_option maxRecDepth 100000 in
theorem patchMoved_lifted (os : Os) (started : os.Started) (H : Type) (enc : TypeId × Value → H) :
    ReturnsInHanded {} Try.checked os 3 .any (Rows.patchMovedSpec.pre6 enc Try.prog Try.f3 Rows.patchMovedRow.domain false) (Rows.patchMovedSpec.post enc Try.prog Try.f3 false true false false) := by
  refine returnsInHanded_of_change_sized (C := Try.checked) own started (by kernel_rfl) Try.func3
    (ChangeSpec.witness6 (enc := enc) (C := Try.checked) false ⟨#[], #[.agg #[.int .i64 0, .int .i64 0, .int .i64 0], .agg #[.int .i64 0, .int .i64 0, .int .i64 0, .int .i64 0, .int .i64 0, .int .i64 0, .int .i64 0, .int .i64 0], .slice none 0 0], []⟩ 8 (by kernel_rfl) (by kernel_rfl) (by kernel_rfl) (by kernel_rfl)) ?_
  intro W base args ds gs before hval0 hW hcnd hsz _
  have hval : ∀ (j : Nat) t v, Try.f3.params[j]? = some t → args[j]? = some v → Value.okWide Try.prog W .any base t v := hval0
  have hW' := hW
  obtain ⟨p, q, hA0, hV, rfl, hfz, hnd⟩ := hW
  have hA : DataW.TrodAll enc Try.prog W 0 (fun _ => true) true Try.f3.params.toList args.toList ds p := hA0
  rw [Try.params3] at hA hval hsz
  obtain ⟨v0, vs0, d0, ds0, p0, q0, hargs, rfl, rfl, h0, r0⟩ := trodAll_cons hA
  obtain ⟨v1, vs1, d1, ds1, p1, q1, rfl, rfl, rfl, h1, r1⟩ := trodAll_cons r0
  obtain ⟨v2, vs2, d2, ds2, p2, q2, rfl, rfl, rfl, h2, r2⟩ := trodAll_cons r1
  obtain ⟨rfl, rfl, rfl⟩ := trodAll_nil r2
  obtain rfl : args = #[v0, v1, v2] := by cases args; simp_all
  obtain ⟨rfl, rfl⟩ := trodVars_none hV
  have lt0 : ∀ x ∈ p0, x.block < W.heap.size := by obtain ⟨m, hm⟩ := h0; exact DataW.trod_lt m _ _ _ hm
  have k0 := h0
  have lt1 : ∀ x ∈ p1, x.block < W.heap.size := by obtain ⟨m, hm⟩ := h1; exact DataW.trod_lt m _ _ _ hm
  have k1 := h1
  have lt2 : ∀ x ∈ p2, x.block < W.heap.size := by obtain ⟨m, hm⟩ := h2; exact DataW.trod_lt m _ _ _ hm
  have k2 := h2
  obtain ⟨a0, b0, d0', rfl⟩ := open_shape (hval 0 23 v0 rfl rfl) h0
  obtain ⟨wa1, wb1, wc1, wd1, we1, wf1, wg1, wh1, rfl⟩ := open_win (hval 1 25 v1 rfl rfl) h1
  obtain ⟨ao2, l2, c2, rfl, hl2, hn2, rr2, hd2⟩ := open_i8 (hval 2 26 v2 rfl rfl) h2
  have hc2 : c2 ≤ 140737488351232 := by
    rcases hd2 with ⟨_, h0⟩ | ⟨es, sp, h0, h1⟩
    · omega
    · have hs : (es.length + sp.length) * Try.prog.bytesOf 53 ≤ reachBytes := sized_slice hsz (j := 2) (t := 26) (e := 53) (elems := es) (spare := sp) rfl (by rw [h0]; rfl) und_i8s
      rw [bytes_i8, Nat.mul_one, h1] at hs
      have := reach_is
      omega
  clear hA0 hval0
  refine (patchMoved_any a0 b0 d0' wa1 wb1 wc1 wd1 we1 wf1 wg1 wh1 ao2 l2 _ c2 rfl W (by omega) rr2).mono fun e W' ⟨he, bel⟩ => ?_
  subst he
  exact ⟨_, rfl, _, _, _, [], _, [], hW', trodAll_mk1 (shut_bool Try.underlying4 _), (trodAll_cons_mk (Below.trod laidOut (by kernel_rfl) (of_decide_eq_true (by kernel_rfl)) k0 bel lt0) (trodAll_cons_mk (Below.trod laidOut (by kernel_rfl) (of_decide_eq_true (by kernel_rfl)) k1 bel lt1) (trodAll_cons_mk (Below.trod laidOut (by kernel_rfl) (of_decide_eq_true (by kernel_rfl)) k2 bel lt2) trodAll_mk0))), rfl, bel.frame _, fun h => by cases h⟩

theorem patchMoved_holds : Rows.PatchMovedSaid :=
  OpenClaim.holds_of_wide 3 Try.f3 rfl rfl rfl rfl rfl rfl rfl ⟨rfl, rfl, rfl, rfl, rfl⟩ rfl rfl rfl rfl rfl (by kernel_rfl) Try.func3 (by kernel_rfl)
    (of_decide_eq_true (by kernel_rfl)) (by unfold Func.isWrapper; first | (rw [if_pos (by decide +kernel)]; kernel_rfl) | (rw [if_neg (by decide +kernel)]; exact ⟨rfl, rfl⟩))
    (fun os started H enc _ => patchMoved_lifted os started H enc)
#print axioms patchMoved_holds
end Go.Proofs.Ythjebjhepdclkaa
