import Derived.Test.YtjjahenmhkkaaaaQDNetMade
import Derived.Deep.CutBlock
import Derived.Test.YtjjahenmhkkaaaaQCNetMade
import Derived.Test.YtjjahenmhkkaaaaNP6
import Derived.Test.YtjjahenmhkkaaaaNQ3
import Derived.BigQuiet
import Derived.Deep.QuietTactic
import Derived.Test.YtjjahenmhkkaaaaQANetMade
/- NETWORKS THAT ARE MADE: the walk's pieces: the weights of a dense layer; a pool's. -/
namespace Go.Proofs.Ytjjahenmhkkaaaa.Nn
open Go.RowKit

attribute [local go_sem ↓] Go.wp_at_zero Go.wp_at_succ
set_option maxHeartbeats 64000000 in
set_option maxRecDepth 100000 in
theorem md_sw2 (u1 u2 u3 u5 u6 u10 u11 u12 u13 u14 u15 u16 u17 u18 u19 u20 u21 u22 u23 u24 u25 u26 u27 u28 u29 u30 u31 u32 u33 u34 u35 u36 u37 u38 u39 u40 u41 u42 u43 u44 u45 u46 u47 u48 u49 u50 u51 u52 u53 u54 u55 u56 u57 u58 u59 u60 u61 u62 u63 u64 u65 u66 u67 u68 u69 u70 u71 u72 u73 u74 u75 u76 u77 u78 u79 u80 u81 u82 u83 u84 u85 u86 u87 u88 u89 u90 u91 u92 u93 u94 u95 u96 u97 u98 u99 u100 u101 u103 u104 u105 u106 u107 u108 u109 u110 u111 u112 u113 u114 u115 u116 u117 u118 u119 u120 u121 u122 u123 u124 u125 u126 u127 u128 u129 u130 u131 u132 u133 u134 u135 u136 u137 u138 u139 u140 u141 u142 u143 u144 u145 u146 u147 u148 u149 u150 u151 u152 u153 u154 u155 u156 u157 u158 u159 u160 u161 u162 u163 u164 u165 u166 u167 u168 u169 u170 u171 u172 u173 u174 u175 u176 u177 u178 u179 u180 u181 u182 u183 u184 u185 u186 u187 u188 u189 u190 u191 u192 u193 u194 u195 u196 u197 u198 u199 u200 u201 u202 u203 u204 u205 u206 u207 u208 u209 u210 u211 u212 u213 u214 : Value) (ao : Option Addr) (m cap : Nat) (f : Nat → Int) (hm : m ≤ 9223372036854775807) (w : World) (hf : RB w ao m f) (b g8 g9 K cn i uc : Nat) (ua an : Option Addr) (ns : Nat → Nat → Int) (lf : Nat → Ly) (p kd wt r s sy sx h v c c' ah H V C : Int) (fs la : Bool) (wr wc : World) (Q : Exit → Act → World → Prop)
    (_hpb : 0 ≤ p ∧ p ≤ 100) (_wp6 : IntKind.i64.wrap (p + 6) = p + 6) (_wp7 : IntKind.i64.wrap (p + 7) = p + 7) (HXW : Hid (Below w.heap.size w wr)) (bsz : b + 3 ≤ wr.heap.size) (HMS : Hid (MS wr b H V C h v c lf i ua uc)) (HSM : Hid (SmS ⟨h, v, c, ah, fs, la⟩)) (HLA : Hid (la = false ∧ fs = decide (i = 0))) (sm1 : 1 ≤ h ∧ h ≤ 15) (sm2 : 1 ≤ v ∧ v ≤ 15) (sm3 : 1 ≤ c ∧ c ≤ 4) (_br : 1 ≤ r ∧ r ≤ h) (_bs : 1 ≤ s ∧ s ≤ v) (_bsy : 1 ≤ sy ∧ sy ≤ 3) (_bsx : 1 ≤ sx ∧ sx ≤ 3) (HL9 : Hid (wc.rowIs g9 45 15 (lyf (L1 kd wt K r s sy sx an cn ns)))) (HON : Hid (wc.ownsRow (b + 3) 71 8 (.slice an K cn) K (nmL ns K))) (_HW8 : Hid (wc.rowIs g8 40 8 (wnF r s sy sx))) (BR : Below wr.heap.size wr wc) (hg9' : wr.heap.size ≤ g9) (_hg89 : g8 ≠ g9) (HKD : Hid ((wt = 1 ∨ wt = 2) ∧ 1 ≤ K ∧ K ≤ 3 ∧ c' = (K : Int) ∧ ∀ j, j < K → noE (ns j 0) (ns j 1) (ns j 2) (ns j 3) (ns j 4) (ns j 5) (ns j 6) (ns j 7) = 0)) (h2 : kd = 2)
    (hQ : Hid (∀ (X : World) (v103 v104 v105 v106 v107 v108 v109 v110 v111 v112 v113 v114 v115 v116 v117 v118 v119 v120 v121 v122 v123 v124 v125 v126 v127 v128 v129 v130 v131 v132 v133 v134 v135 v136 v137 v138 v139 v140 v141 v142 v143 v144 v145 v146 v147 v148 v149 v150 v151 v152 v153 v154 v155 v156 v157 v158 v159 v160 v161 v162 v163 v164 v165 v166 : Value), (∃ L, Ld L ⟨h, v, c, ah, fs, la⟩ c' ∧ X.rowIs g9 45 15 (lyf L) ∧ Lo X (b + 3) L ∧ Below wr.heap.size wr X) → Q .normal ⟨#[.slice ao m cap, u1, u2, u3, .pointer (some ⟨b + 1 + 1, 0, none⟩), u5, u6, .int .i64 p, .pointer (some ⟨g8, 0, none⟩), .pointer (some ⟨g9, 0, none⟩), u10, u11, u12, u13, u14, u15, u16, u17, u18, u19, u20, u21, u22, u23, u24, u25, u26, u27, u28, u29, u30, u31, u32, u33, u34, u35, u36, u37, u38, u39, u40, u41, u42, u43, u44, u45, u46, u47, u48, u49, u50, u51, u52, u53, u54, u55, u56, u57, u58, u59, u60, u61, u62, u63, u64, u65, u66, u67, u68, u69, u70, u71, u72, u73, u74, u75, u76, u77, u78, u79, u80, u81, u82, u83, u84, u85, u86, u87, u88, u89, u90, u91, u92, u93, u94, u95, u96, u97, u98, u99, u100, u101, .int .i64 kd, v103, v104, v105, v106, v107, v108, v109, v110, v111, v112, v113, v114, v115, v116, v117, v118, v119, v120, v121, v122, v123, v124, v125, v126, v127, v128, v129, v130, v131, v132, v133, v134, v135, v136, v137, v138, v139, v140, v141, v142, v143, v144, v145, v146, v147, v148, v149, v150, v151, v152, v153, v154, v155, v156, v157, v158, v159, v160, v161, v162, v163, v164, v165, v166, u167, u168, u169, u170, u171, u172, u173, u174, u175, u176, u177, u178, u179, u180, u181, u182, u183, u184, u185, u186, u187, u188, u189, u190, u191, u192, u193, u194, u195, u196, u197, u198, u199, u200, u201, u202, u203, u204, u205, u206, u207, u208, u209, u210, u211, u212, u213, u214], []⟩ X)) :
    Code.wp Try.prog cdB2 Q ⟨#[.slice ao m cap, u1, u2, u3, .pointer (some ⟨b + 1 + 1, 0, none⟩), u5, u6, .int .i64 p, .pointer (some ⟨g8, 0, none⟩), .pointer (some ⟨g9, 0, none⟩), u10, u11, u12, u13, u14, u15, u16, u17, u18, u19, u20, u21, u22, u23, u24, u25, u26, u27, u28, u29, u30, u31, u32, u33, u34, u35, u36, u37, u38, u39, u40, u41, u42, u43, u44, u45, u46, u47, u48, u49, u50, u51, u52, u53, u54, u55, u56, u57, u58, u59, u60, u61, u62, u63, u64, u65, u66, u67, u68, u69, u70, u71, u72, u73, u74, u75, u76, u77, u78, u79, u80, u81, u82, u83, u84, u85, u86, u87, u88, u89, u90, u91, u92, u93, u94, u95, u96, u97, u98, u99, u100, u101, .int .i64 kd, u103, u104, u105, u106, u107, u108, u109, u110, u111, u112, u113, u114, u115, u116, u117, u118, u119, u120, u121, u122, u123, u124, u125, u126, u127, u128, u129, u130, u131, u132, u133, u134, u135, u136, u137, u138, u139, u140, u141, u142, u143, u144, u145, u146, u147, u148, u149, u150, u151, u152, u153, u154, u155, u156, u157, u158, u159, u160, u161, u162, u163, u164, u165, u166, u167, u168, u169, u170, u171, u172, u173, u174, u175, u176, u177, u178, u179, u180, u181, u182, u183, u184, u185, u186, u187, u188, u189, u190, u191, u192, u193, u194, u195, u196, u197, u198, u199, u200, u201, u202, u203, u204, u205, u206, u207, u208, u209, u210, u211, u212, u213, u214], []⟩ wc := by
  conv => arg 2; whnf
  have CW := hid1 (fun N kd hN W (hW : Below w.heap.size w W) => weights5_any ao m cap f hm N kd hN W (hf.keep hW))
  clear hf
  obtain ⟨bwt, k1, k2, ec', hns⟩ := HKD.out
  have EC := hid1 ec'
  clear ec'
  have HNS := hid1 hns
  clear hns HKD
  have e1 : (kd == 1) = false := by rw [h2]; rfl
  have e2 : (kd == 2) = true := by rw [h2]; rfl
  have H2 := hid1 h2
  clear h2
  have f3 := HL9.out.frozen 3
  have f4 := HL9.out.frozen 4
  have f5 := HL9.out.frozen 5
  have f6 := HL9.out.frozen 6
  have f7 := HL9.out.frozen 7
  have f8 := HL9.out.frozen 8
  have f9 := HL9.out.frozen 9
  have f10 := HL9.out.frozen 10
  obtain ⟨l0, l1, l2, l3, l4, l5, l6, l7, l8, l9, l10, l11, l12, l13, l14⟩ := lyf_cells HL9.out
  have HNN := hid1 (own_ne_row HON.out HL9.out (by decide))
  go_upto_region 27 with fail
  refine gen_world (fun X => X.rowIs g9 45 15 (lyf (LV kd wt K 0 0 0 0 0 0 0 none 0 0 an cn (fun _ => 0) ns)) ∧ X.ownsRow (b + 3) 71 8 (.slice an K cn) K (nmL ns K) ∧ Below wr.heap.size wr X) ⟨((((((((HL9.out.set 3 (.int .i64 0)).set 4 (.int .i64 0)).set 5 (.int .i64 0)).set 6 (.int .i64 0)).set 7 (.int .i64 0)).set 8 (.int .i64 0)).set 9 (.int .i64 0)).set 10 (.int .i64 0)).congr fun i hi => (by rcases (show i = 0 ∨ i = 1 ∨ i = 2 ∨ i = 3 ∨ i = 4 ∨ i = 5 ∨ i = 6 ∨ i = 7 ∨ i = 8 ∨ i = 9 ∨ i = 10 ∨ i = 11 ∨ i = 12 ∨ i = 13 ∨ i = 14 by omega) with rfl | rfl | rfl | rfl | rfl | rfl | rfl | rfl | rfl | rfl | rfl | rfl | rfl | rfl | rfl <;> rfl), (own_setNe (own_setNe (own_setNe (own_setNe (own_setNe (own_setNe (own_setNe (own_setNe HON.out HNN.out) HNN.out) HNN.out) HNN.out) HNN.out) HNN.out) HNN.out) HNN.out), (bl_set (bl_set (bl_set (bl_set (bl_set (bl_set (bl_set (bl_set BR hg9' _) hg9' _) hg9' _) hg9' _) hg9' _) hg9' _) hg9' _) hg9' _)⟩ ?_
  clear HL9 HON HNN BR f3 f4 f5 f6 f7 f8 f9 f10 l0 l1 l2 l3 l4 l5 l6 l7 l8 l9 l10 l11 l12 l13 l14
  rintro Z ⟨RL, RN, BX⟩
  have HRL := hid1 RL
  have HRN := hid1 RN
  have MZ := HMS.out.keep BX
  have l1 : Z.cell? ⟨g9, 1, none⟩ = some (.int .i64 wt) := RL.cell (i := 1) (by decide)
  have l2 : Z.cell? ⟨g9, 2, none⟩ = some (.int .i64 K) := RL.cell (i := 2) (by decide)
  have s0 : Z.cell? ⟨b + 1 + 1, 0, none⟩ = some (.int .i64 h) := MZ.2.2.1.cell (i := 0) (by decide)
  have s1 : Z.cell? ⟨b + 1 + 1, 1, none⟩ = some (.int .i64 v) := MZ.2.2.1.cell (i := 1) (by decide)
  have s2 : Z.cell? ⟨b + 1 + 1, 2, none⟩ = some (.int .i64 c) := MZ.2.2.1.cell (i := 2) (by decide)
  clear RL RN MZ
  have m1 := mul3_le (a := K) (b := h) (c := 1) (A := 3) (B := 15) (C := 1) (by omega) (by omega) (by omega)
  have m2 := mul3_le (a := K) (b := h) (c := v) (A := 3) (B := 15) (C := 15) (by omega) (by omega) (by omega)
  have m3 := mul3_le (a := (K : Int) * h) (b := v) (c := c) (A := 45) (B := 15) (C := 4) (by omega) (by omega) (by omega)
  obtain ⟨N, hN⟩ := Int.eq_ofNat_of_zero_le m3.1
  have HNE : Hid ((N : Int) = K * (h * v * c)) := hid1 (by rw [← hN, Int.mul_assoc, Int.mul_assoc, Int.mul_assoc])
  have p1 : IntKind.i64.wrap ((K : Int) * h) = K * h := by rw [IntKind.wrap_i64]; omega
  have p2 : IntKind.i64.wrap ((K : Int) * h * v) = K * h * v := by rw [IntKind.wrap_i64]; omega
  have p3 : IntKind.i64.wrap ((K : Int) * h * v * c) = N := by rw [IntKind.wrap_i64, hN]; omega
  have hNb : N ≤ 10000 := by omega
  clear m1 m2 m3 hN
  go_wp2_with fail
  refine (CW.out N wt (by omega) _ (bl_step HXW.out BX)).mono ?_
  rintro e z8 ⟨vw, rfl, own, hb⟩
  obtain ⟨aw, cw, rfl⟩ := own_isP own
  have HOW := hid1 (own.mono (Nat.le_trans bsz BX.size))
  replace HRL := hid1 (World.rowIs.of_block HRL.out (hb.block _ HRL.out.lt))
  replace HRN := hid1 (own_bl HRN.out hb)
  replace BX := bl_step BX hb
  clear own hb l1 l2 s0 s1 s2
  have fz12 := HRL.out.frozen 12
  have l12 : z8.cell? ⟨g9, 12, none⟩ = some (.slice none 0 0) := HRL.out.cell (i := 12) (by decide)
  go_wp2_with fail
  refine hQ.out _ _ _ _ _ _ _ _ _ _ _ _ _ _ _ _ _ _ _ _ _ _ _ _ _ _ _ _ _ _ _ _ _ _ _ _ _ _ _ _ _ _ _ _ _ _ _ _ _ _ _ _ _ _ _ _ _ _ _ _ _ _ _ _ _ ?_
  have h2 := H2.out
  refine ⟨LV kd wt K 0 0 0 0 0 0 0 aw N cw an cn (wgV f m wt) ns, ?_, lyf_set HRL.out _ 12 _ ⟨rfl, rfl, rfl, rfl, rfl, rfl, rfl, rfl, rfl, rfl, rfl, rfl, rfl, rfl, rfl⟩, ⟨own_setHi HOW.out HRL.out.lt HRL.out (by decide), own_setHi HRN.out HRL.out.lt HRL.out (by decide), World.ownsRow_nil _ _ _ _⟩, bl_set BX hg9' _⟩
  refine ⟨made_dense HSM.out h2 bwt (by show 1 ≤ (K : Int) ∧ (K : Int) ≤ 3; omega) ⟨rfl, rfl, rfl, rfl, rfl, rfl, rfl, rfl⟩ rfl ⟨HNE.out, fun j _ => wgV_ok f m wt j⟩ (.inl ⟨HLA.out.1, ⟨rfl, rfl, fun j hj => HNS.out j hj⟩⟩), own_cap HOW.out, (by show 0 ≤ (K : Int) ∧ (K : Int) ≤ 3; omega), .inl h2, ?_, (by show N ≤ 1000000; omega), (by show K ≤ 1000000; omega), (by show 0 ≤ 1000000; omega)⟩
  rw [EC.out, if_neg (by show ¬ kd = 3; omega)]
attribute [local go_sem ↓] Go.wp_at_zero Go.wp_at_succ
set_option maxHeartbeats 64000000 in
set_option maxRecDepth 100000 in
theorem md_sw3 (u1 u2 u3 u5 u6 u10 u11 u12 u13 u14 u15 u16 u17 u18 u19 u20 u21 u22 u23 u24 u25 u26 u27 u28 u29 u30 u31 u32 u33 u34 u35 u36 u37 u38 u39 u40 u41 u42 u43 u44 u45 u46 u47 u48 u49 u50 u51 u52 u53 u54 u55 u56 u57 u58 u59 u60 u61 u62 u63 u64 u65 u66 u67 u68 u69 u70 u71 u72 u73 u74 u75 u76 u77 u78 u79 u80 u81 u82 u83 u84 u85 u86 u87 u88 u89 u90 u91 u92 u93 u94 u95 u96 u97 u98 u99 u100 u101 u103 u104 u105 u106 u107 u108 u109 u110 u111 u112 u113 u114 u115 u116 u117 u118 u119 u120 u121 u122 u123 u124 u125 u126 u127 u128 u129 u130 u131 u132 u133 u134 u135 u136 u137 u138 u139 u140 u141 u142 u143 u144 u145 u146 u147 u148 u149 u150 u151 u152 u153 u154 u155 u156 u157 u158 u159 u160 u161 u162 u163 u164 u165 u166 u167 u168 u169 u170 u171 u172 u173 u174 u175 u176 u177 u178 u179 u180 u181 u182 u183 u184 u185 u186 u187 u188 u189 u190 u191 u192 u193 u194 u195 u196 u197 u198 u199 u200 u201 u202 u203 u204 u205 u206 u207 u208 u209 u210 u211 u212 u213 u214 : Value) (ao : Option Addr) (m cap : Nat) (f : Nat → Int) (_hm : m ≤ 9223372036854775807) (w : World) (_hf : RB w ao m f) (b g8 g9 K cn i uc : Nat) (ua an : Option Addr) (ns : Nat → Nat → Int) (lf : Nat → Ly) (p kd wt r s sy sx h v c c' ah H V C : Int) (fs la : Bool) (wr wc : World) (Q : Exit → Act → World → Prop)
    (_hpb : 0 ≤ p ∧ p ≤ 100) (_wp6 : IntKind.i64.wrap (p + 6) = p + 6) (_wp7 : IntKind.i64.wrap (p + 7) = p + 7) (_HXW : Hid (Below w.heap.size w wr)) (_bsz : b + 3 ≤ wr.heap.size) (_HMS : Hid (MS wr b H V C h v c lf i ua uc)) (HSM : Hid (SmS ⟨h, v, c, ah, fs, la⟩)) (HLA : Hid (la = false ∧ fs = decide (i = 0))) (_sm1 : 1 ≤ h ∧ h ≤ 15) (_sm2 : 1 ≤ v ∧ v ≤ 15) (_sm3 : 1 ≤ c ∧ c ≤ 4) (br : 1 ≤ r ∧ r ≤ h) (bs : 1 ≤ s ∧ s ≤ v) (bsy : 1 ≤ sy ∧ sy ≤ 3) (bsx : 1 ≤ sx ∧ sx ≤ 3) (HL9 : Hid (wc.rowIs g9 45 15 (lyf (L1 kd wt K r s sy sx an cn ns)))) (HON : Hid (wc.ownsRow (b + 3) 71 8 (.slice an K cn) K (nmL ns K))) (_HW8 : Hid (wc.rowIs g8 40 8 (wnF r s sy sx))) (BR : Below wr.heap.size wr wc) (_hg9' : wr.heap.size ≤ g9) (_hg89 : g8 ≠ g9) (HKD : Hid (wt = 0 ∧ K = 0 ∧ c' = c)) (HNZ : Hid (i = 0 → kd ≠ 3)) (h3 : kd = 3)
    (hQ : Hid (∀ (X : World) (v103 v104 v105 v106 v107 v108 v109 v110 v111 v112 v113 v114 v115 v116 v117 v118 v119 v120 v121 v122 v123 v124 v125 v126 v127 v128 v129 v130 v131 v132 v133 v134 v135 v136 v137 v138 v139 v140 v141 v142 v143 v144 v145 v146 v147 v148 v149 v150 v151 v152 v153 v154 v155 v156 v157 v158 v159 v160 v161 v162 v163 v164 v165 v166 : Value), (∃ L, Ld L ⟨h, v, c, ah, fs, la⟩ c' ∧ X.rowIs g9 45 15 (lyf L) ∧ Lo X (b + 3) L ∧ Below wr.heap.size wr X) → Q .normal ⟨#[.slice ao m cap, u1, u2, u3, .pointer (some ⟨b + 1 + 1, 0, none⟩), u5, u6, .int .i64 p, .pointer (some ⟨g8, 0, none⟩), .pointer (some ⟨g9, 0, none⟩), u10, u11, u12, u13, u14, u15, u16, u17, u18, u19, u20, u21, u22, u23, u24, u25, u26, u27, u28, u29, u30, u31, u32, u33, u34, u35, u36, u37, u38, u39, u40, u41, u42, u43, u44, u45, u46, u47, u48, u49, u50, u51, u52, u53, u54, u55, u56, u57, u58, u59, u60, u61, u62, u63, u64, u65, u66, u67, u68, u69, u70, u71, u72, u73, u74, u75, u76, u77, u78, u79, u80, u81, u82, u83, u84, u85, u86, u87, u88, u89, u90, u91, u92, u93, u94, u95, u96, u97, u98, u99, u100, u101, .int .i64 kd, v103, v104, v105, v106, v107, v108, v109, v110, v111, v112, v113, v114, v115, v116, v117, v118, v119, v120, v121, v122, v123, v124, v125, v126, v127, v128, v129, v130, v131, v132, v133, v134, v135, v136, v137, v138, v139, v140, v141, v142, v143, v144, v145, v146, v147, v148, v149, v150, v151, v152, v153, v154, v155, v156, v157, v158, v159, v160, v161, v162, v163, v164, v165, v166, u167, u168, u169, u170, u171, u172, u173, u174, u175, u176, u177, u178, u179, u180, u181, u182, u183, u184, u185, u186, u187, u188, u189, u190, u191, u192, u193, u194, u195, u196, u197, u198, u199, u200, u201, u202, u203, u204, u205, u206, u207, u208, u209, u210, u211, u212, u213, u214], []⟩ X)) :
    Code.wp Try.prog cdB2 Q ⟨#[.slice ao m cap, u1, u2, u3, .pointer (some ⟨b + 1 + 1, 0, none⟩), u5, u6, .int .i64 p, .pointer (some ⟨g8, 0, none⟩), .pointer (some ⟨g9, 0, none⟩), u10, u11, u12, u13, u14, u15, u16, u17, u18, u19, u20, u21, u22, u23, u24, u25, u26, u27, u28, u29, u30, u31, u32, u33, u34, u35, u36, u37, u38, u39, u40, u41, u42, u43, u44, u45, u46, u47, u48, u49, u50, u51, u52, u53, u54, u55, u56, u57, u58, u59, u60, u61, u62, u63, u64, u65, u66, u67, u68, u69, u70, u71, u72, u73, u74, u75, u76, u77, u78, u79, u80, u81, u82, u83, u84, u85, u86, u87, u88, u89, u90, u91, u92, u93, u94, u95, u96, u97, u98, u99, u100, u101, .int .i64 kd, u103, u104, u105, u106, u107, u108, u109, u110, u111, u112, u113, u114, u115, u116, u117, u118, u119, u120, u121, u122, u123, u124, u125, u126, u127, u128, u129, u130, u131, u132, u133, u134, u135, u136, u137, u138, u139, u140, u141, u142, u143, u144, u145, u146, u147, u148, u149, u150, u151, u152, u153, u154, u155, u156, u157, u158, u159, u160, u161, u162, u163, u164, u165, u166, u167, u168, u169, u170, u171, u172, u173, u174, u175, u176, u177, u178, u179, u180, u181, u182, u183, u184, u185, u186, u187, u188, u189, u190, u191, u192, u193, u194, u195, u196, u197, u198, u199, u200, u201, u202, u203, u204, u205, u206, u207, u208, u209, u210, u211, u212, u213, u214], []⟩ wc := by
  conv => arg 2; whnf
  have e1 : (kd == 1) = false := by rw [h3]; rfl
  have e2 : (kd == 2) = false := by rw [h3]; rfl
  have H3 := hid1 h3
  clear h3
  go_wp2_with fail
  refine hQ.out _ _ _ _ _ _ _ _ _ _ _ _ _ _ _ _ _ _ _ _ _ _ _ _ _ _ _ _ _ _ _ _ _ _ _ _ _ _ _ _ _ _ _ _ _ _ _ _ _ _ _ _ _ _ _ _ _ _ _ _ _ _ _ _ _ ?_
  have h3 := H3.out
  obtain ⟨rfl, rfl, ec'⟩ := HKD.out
  have EC := hid1 ec'
  clear ec' HKD
  refine ⟨L1 kd 0 0 r s sy sx an cn ns, ?_, HL9.out, ⟨World.ownsRow_nil _ _ _ _, HON.out, World.ownsRow_nil _ _ _ _⟩, BR⟩
  have hfs : fs = false := by
    have := HLA.out.2
    rw [this]
    have hn := HNZ.out
    simp only [decide_eq_false_iff_not]
    exact fun h0 => hn h0 h3
  refine ⟨made_pool HSM.out HLA.out.1 hfs h3 ⟨⟨rfl, rfl, rfl⟩, rfl, rfl, rfl⟩ br bs bsy bsx ⟨rfl, rfl, rfl, rfl⟩, Nat.zero_le _, (by show (0 : Int) ≤ ((0 : Nat) : Int) ∧ ((0 : Nat) : Int) ≤ 3; omega), .inr ⟨br, bs, bsy, bsx, (by show (0 : Int) ≤ 0 ∧ (0 : Int) ≤ 2; omega), rfl, rfl, (by show (0 : Int) ≤ 0 ∧ (0 : Int) ≤ 1; omega)⟩, ?_, (by show 0 ≤ 1000000; omega), (by show 0 ≤ 1000000; omega), (by show 0 ≤ 1000000; omega)⟩
  rw [EC.out, if_pos h3]
end Go.Proofs.Ytjjahenmhkkaaaa.Nn
/- NETWORKS THAT ARE MADE: the walk's pieces: a layer more. -/
namespace Go.Proofs.Ytjjahenmhkkaaaa.Nn
open Go.RowKit

noncomputable def cd28 : Code := (Try.f7.body.bind (fromP (isReg 28))).getD .skip
attribute [local go_sem ↓] Go.wp_at_zero Go.wp_at_succ
set_option maxHeartbeats 64000000 in
set_option maxRecDepth 100000 in
theorem md_tail (u0 u1 u2 u5 u6 u7 u8 u11 u12 u13 u14 u15 u16 u17 u18 u19 u20 u21 u22 u23 u24 u25 u26 u27 u28 u29 u30 u31 u32 u33 u34 u35 u36 u37 u38 u39 u40 u41 u42 u43 u44 u45 u46 u47 u48 u49 u50 u51 u52 u53 u54 u55 u56 u57 u58 u59 u60 u61 u62 u63 u64 u65 u66 u67 u68 u69 u70 u71 u72 u73 u74 u75 u76 u77 u78 u79 u80 u81 u82 u83 u84 u85 u86 u87 u88 u89 u90 u91 u92 u93 u94 u95 u96 u97 u98 u99 u100 u101 u102 u103 u104 u105 u106 u107 u108 u109 u110 u111 u112 u113 u114 u115 u116 u117 u118 u119 u120 u121 u122 u123 u124 u125 u126 u127 u128 u129 u130 u131 u132 u133 u134 u135 u136 u137 u138 u139 u140 u141 u142 u143 u144 u145 u146 u147 u148 u149 u150 u151 u152 u153 u154 u155 u156 u157 u158 u159 u160 u161 u162 u163 u164 u165 u166 u167 u168 u169 u170 u171 u172 u173 u174 u175 u176 u177 u178 u179 u180 u181 u182 u183 u184 u185 u186 u187 u188 u189 u190 u191 u192 u193 u194 u195 u196 u197 u198 u199 u200 u201 u202 u203 u204 u205 u206 u207 u208 u209 u210 u211 u212 u213 u214 : Value) (b g9 i uc : Nat) (ua : Option Addr) (lf : Nat → Ly) (L : Ly) (h v c c' ah H V C : Int) (fs la : Bool) (w wr X : World) (Q : Exit → Act → World → Prop)
    (HXW : Hid (Below w.heap.size w wr)) (hwb : w.heap.size ≤ b) (bsz : b + 3 ≤ wr.heap.size) (hg9' : wr.heap.size ≤ g9) (HMS : Hid (MS wr b H V C h v c lf i ua uc)) (HSM : Hid (SmS ⟨h, v, c, ah, fs, la⟩)) (sm1 : 1 ≤ h ∧ h ≤ 15) (sm2 : 1 ≤ v ∧ v ≤ 15) (hi4 : i ≤ 4) (LD : Ld L ⟨h, v, c, ah, fs, la⟩ c') (RL : X.rowIs g9 45 15 (lyf L)) (LO : Lo X (b + 3) L) (BX : Below wr.heap.size wr X)
    (hQ : Hid (∀ (Y : World) (a3 : Option Addr) (c3 : Nat) (v167 v168 v169 v170 v171 v172 v173 v174 v175 v176 : Value), MS Y b H V C (afH L h) (afV L v) c' (sn lf i L) (i + 1) a3 c3 → Below w.heap.size w Y → Q .normal ⟨#[u0, u1, u2, .pointer (some ⟨b + 1, 0, none⟩), .pointer (some ⟨b + 1 + 1, 0, none⟩), u5, u6, u7, u8, .pointer (some ⟨g9, 0, none⟩), .int .i64 c', u11, u12, u13, u14, u15, u16, u17, u18, u19, u20, u21, u22, u23, u24, u25, u26, u27, u28, u29, u30, u31, u32, u33, u34, u35, u36, u37, u38, u39, u40, u41, u42, u43, u44, u45, u46, u47, u48, u49, u50, u51, u52, u53, u54, u55, u56, u57, u58, u59, u60, u61, u62, u63, u64, u65, u66, u67, u68, u69, u70, u71, u72, u73, u74, u75, u76, u77, u78, u79, u80, u81, u82, u83, u84, u85, u86, u87, u88, u89, u90, u91, u92, u93, u94, u95, u96, u97, u98, u99, u100, u101, u102, u103, u104, u105, u106, u107, u108, u109, u110, u111, u112, u113, u114, u115, u116, u117, u118, u119, u120, u121, u122, u123, u124, u125, u126, u127, u128, u129, u130, u131, u132, u133, u134, u135, u136, u137, u138, u139, u140, u141, u142, u143, u144, u145, u146, u147, u148, u149, u150, u151, u152, u153, u154, u155, u156, u157, u158, u159, u160, u161, u162, u163, u164, u165, u166, v167, v168, v169, v170, v171, v172, v173, v174, v175, v176, u177, u178, u179, u180, u181, u182, u183, u184, u185, u186, u187, u188, u189, u190, u191, u192, u193, u194, u195, u196, u197, u198, u199, u200, u201, u202, u203, u204, u205, u206, u207, u208, u209, u210, u211, u212, u213, u214], []⟩ Y)) :
    Code.wp Try.prog cd28 Q ⟨#[u0, u1, u2, .pointer (some ⟨b + 1, 0, none⟩), .pointer (some ⟨b + 1 + 1, 0, none⟩), u5, u6, u7, u8, .pointer (some ⟨g9, 0, none⟩), .int .i64 c', u11, u12, u13, u14, u15, u16, u17, u18, u19, u20, u21, u22, u23, u24, u25, u26, u27, u28, u29, u30, u31, u32, u33, u34, u35, u36, u37, u38, u39, u40, u41, u42, u43, u44, u45, u46, u47, u48, u49, u50, u51, u52, u53, u54, u55, u56, u57, u58, u59, u60, u61, u62, u63, u64, u65, u66, u67, u68, u69, u70, u71, u72, u73, u74, u75, u76, u77, u78, u79, u80, u81, u82, u83, u84, u85, u86, u87, u88, u89, u90, u91, u92, u93, u94, u95, u96, u97, u98, u99, u100, u101, u102, u103, u104, u105, u106, u107, u108, u109, u110, u111, u112, u113, u114, u115, u116, u117, u118, u119, u120, u121, u122, u123, u124, u125, u126, u127, u128, u129, u130, u131, u132, u133, u134, u135, u136, u137, u138, u139, u140, u141, u142, u143, u144, u145, u146, u147, u148, u149, u150, u151, u152, u153, u154, u155, u156, u157, u158, u159, u160, u161, u162, u163, u164, u165, u166, u167, u168, u169, u170, u171, u172, u173, u174, u175, u176, u177, u178, u179, u180, u181, u182, u183, u184, u185, u186, u187, u188, u189, u190, u191, u192, u193, u194, u195, u196, u197, u198, u199, u200, u201, u202, u203, u204, u205, u206, u207, u208, u209, u210, u211, u212, u213, u214], []⟩ X := by
  conv => arg 2; whnf
  have HLD := hid1 LD
  have HLO := hid1 LO
  have MX := HMS.out.keep BX
  have HMX := hid1 MX
  have n4 : X.cell? ⟨b + 1, 4, none⟩ = some (.slice ua i uc) := MX.2.1.cell (i := 4) (by decide)
  have HRW := hid1 MX.2.2.2.1
  have HUO := hid1 (fun q (hq : (Value.slice ua i uc).ownBlock = some q) => (HMS.out.2.2.2.1.lt q hq))
  have HRL := hid1 RL
  obtain ⟨l0, l1, l2, l3, l4, l5, l6, l7, l8, l9, l10, l11, l12, l13, l14⟩ := lyf_cells RL
  have hXb : b + 3 ≤ X.heap.size := Nat.le_trans bsz BX.size
  have HBX := hid1 BX
  have hgX := RL.lt
  clear LD RL LO BX MX
  go_upto_region 29 with (at_builtin; refine app_lyD rfl _ _ rfl (b + 3) (.slice ua i uc) (lyLs lf i) i (by go_simp) (own_bl HRW.out (bl_alloc (Below.refl _ _) _)) X.heap.size L 1 (by go_simp) (lp_new' rfl L _) (by omega) (by simp; omega) ?_; intro v3 y3 own3 gr3; obtain ⟨a3, c3, rfl⟩ := own_isP own3; have RN3 := World.rowIs.of_block HMX.out.2.1 ((gr3.block (b + 1) (by simp; omega) (fun e => by have := HUO.out (b + 1) e.symm; omega)).trans ((bl_alloc (Below.refl X.heap.size X) (lyo L)).block (b + 1) (by omega))); have m4 : y3.cell? ⟨b + 1, 4, none⟩ = some (.slice ua i uc) := RN3.cell (i := 4) (by decide); have fz4 := RN3.frozen 4; have HL3 := hid1 (World.rowIs.of_block HRL.out ((gr3.block g9 (by simp; omega) (fun e => by have := HUO.out g9 e.symm; omega)).trans ((bl_alloc (Below.refl X.heap.size X) (lyo L)).block g9 hgX))); have HM3 := hid1 (HMX.out.snoc HLO.out HLD.out.2.2.2.2.2 own3 gr3); have HB3 := hid1 (gr_bel gr3 (show Below w.heap.size w _ from bl_step HXW.out (bl_alloc HBX.out _)) (fun q hq => by have := (HUO.out q hq).1; omega)); clear own3 gr3 RN3)
  refine gen_world (fun Y => MS Y b H V C h v c (sn lf i L) (i + 1) a3 c3 ∧ Y.rowIs g9 45 15 (lyf L) ∧ Below w.heap.size w Y) ⟨HM3.out, HL3.out.setOther (by show g9 ≠ b + 1; omega) _, bl_set HB3.out (by omega) _⟩ ?_
  clear HM3 HL3 HB3 m4 fz4 l0 l1 l2 l3 l4 l5 l6 l7 l8 l9 l10 l11 l12 l13 l14 n4 hgX HRL HRW HMX
  rintro Y ⟨MY, RL, BY⟩
  have HMY := hid1 MY
  obtain ⟨l0, l1, l2, l3, l4, l5, l6, l7, l8, l9, l10, l11, l12, l13, l14⟩ := lyf_cells RL
  have s0 : Y.cell? ⟨b + 1 + 1, 0, none⟩ = some (.int .i64 h) := MY.2.2.1.cell (i := 0) (by decide)
  have s1 : Y.cell? ⟨b + 1 + 1, 1, none⟩ = some (.int .i64 v) := MY.2.2.1.cell (i := 1) (by decide)
  have s2 : Y.cell? ⟨b + 1 + 1, 2, none⟩ = some (.int .i64 c) := MY.2.2.1.cell (i := 2) (by decide)
  have CA := hid1 (fun W => after_any2 L h v c c' (by omega) (by omega) (made_out HSM.out HLD.out.1 HLD.out.2.2.2.1).1 W)
  clear MY RL
  go_wp2_with fail
  refine (CA.out _).mono ?_
  rintro e z ⟨rfl, hb⟩
  replace HMY := hid1 (HMY.out.keep hb)
  replace BY := bl_step BY hb
  clear hb l0 l1 l2 l3 l4 l5 l6 l7 l8 l9 l10 l11 l12 l13 l14 s0 s1 s2 CA
  have s0 : z.cell? ⟨b + 1 + 1, 0, none⟩ = some (.int .i64 h) := HMY.out.2.2.1.cell (i := 0) (by decide)
  have s1 : z.cell? ⟨b + 1 + 1, 1, none⟩ = some (.int .i64 v) := HMY.out.2.2.1.cell (i := 1) (by decide)
  have s2 : z.cell? ⟨b + 1 + 1, 2, none⟩ = some (.int .i64 c) := HMY.out.2.2.1.cell (i := 2) (by decide)
  have f0 := HMY.out.2.2.1.frozen 0
  have f1 := HMY.out.2.2.1.frozen 1
  have f2 := HMY.out.2.2.1.frozen 2
  obtain ⟨hh, ehh⟩ : ∃ x, afH L h = x := ⟨_, rfl⟩
  obtain ⟨vv, evv⟩ : ∃ x, afV L v = x := ⟨_, rfl⟩
  have HQ2 := hQ
  clear hQ
  rw [ehh, evv] at HQ2 ⊢
  clear ehh evv
  go_wp2_with fail
  exact HQ2.out _ a3 c3 _ _ _ _ _ _ _ _ _ _ (HMY.out.shape hh vv c') (by with_reducible refine bl_set (bl_set (bl_set BY ?_ _) ?_ _) ?_ _ <;> omega)
end Go.Proofs.Ytjjahenmhkkaaaa.Nn
/- NETWORKS THAT ARE MADE: the walk's pieces: the last layer's biases, and the end. -/
namespace Go.Proofs.Ytjjahenmhkkaaaa.Nn
open Go.RowKit

noncomputable def cdB3 : Code := (Try.f7.body.bind (blockOf 3)).getD .skip
noncomputable def cd36 : Code := (Try.f7.body.bind (fromP (isReg 36))).getD .skip
attribute [local go_sem ↓] Go.wp_at_zero Go.wp_at_succ
set_option maxHeartbeats 64000000 in
set_option maxRecDepth 100000 in
theorem md_b3 (u1 u2 u3 u4 u5 u6 u7 u8 u9 u10 u14 u15 u16 u17 u18 u19 u20 u21 u22 u23 u24 u25 u26 u27 u28 u29 u30 u31 u32 u33 u34 u35 u36 u37 u38 u39 u40 u41 u42 u43 u44 u45 u46 u47 u48 u49 u50 u51 u52 u53 u54 u55 u56 u57 u58 u59 u60 u61 u62 u63 u64 u65 u66 u67 u68 u69 u70 u71 u72 u73 u74 u75 u76 u77 u78 u79 u80 u81 u82 u83 u84 u85 u86 u87 u88 u89 u90 u91 u92 u93 u94 u95 u96 u97 u98 u99 u100 u101 u102 u103 u104 u105 u106 u107 u108 u109 u110 u111 u112 u113 u114 u115 u116 u117 u118 u119 u120 u121 u122 u123 u124 u125 u126 u127 u128 u129 u130 u131 u132 u133 u134 u135 u136 u137 u138 u139 u140 u141 u142 u143 u144 u145 u146 u147 u148 u149 u150 u151 u152 u153 u154 u155 u156 u157 u158 u159 u160 u161 u162 u163 u164 u165 u166 u167 u168 u169 u170 u171 u172 u173 u174 u175 u176 u177 u178 u179 u180 u181 u182 u183 u184 u185 u186 u187 u188 u189 u190 u191 u192 u193 u194 u195 u196 u197 u198 u199 u200 u201 u202 u203 u204 u205 u206 u207 u208 u209 u210 u211 u212 u213 u214 : Value) (ao : Option Addr) (m cap : Nat) (f : Nat → Int) (hm : m ≤ 9223372036854775807) (w : World) (hf : RB w ao m f) (b K N cw g12 : Nat) (aw : Option Addr) (h v c ah : Int) (fs la : Bool) (z1 X : World) (Q : Exit → Act → World → Prop)
    (bK : 1 ≤ K ∧ K ≤ 3) (hNb : N ≤ 10000) (HNE : Hid ((N : Int) = K * (h * v * c))) (HSM : Hid (SmS ⟨h, v, c, ah, fs, la⟩)) (HLA : Hid (la = true)) (HXW : Hid (Below w.heap.size w z1)) (bsz : b + 3 ≤ z1.heap.size) (HRL : Hid (X.rowIs g12 45 15 (lyf (LE f m K aw N cw none 0 0)))) (HOW : Hid (X.ownsRow (b + 3) 49 1 (.slice aw N cw) N (i8L (wgL f m 2 N)))) (BR : Below z1.heap.size z1 X) (hg12 : z1.heap.size ≤ g12)
    (hQ : Hid (∀ (X : World) (v13 v194 v195 v196 v197 v198 v199 v200 v201 v202 v203 v204 v205 v206 v207 : Value), (∃ L, (faE L ⟨h, v, c, ah, fs, la⟩ = 0 ∧ L.kd = 2 ∧ L.mw ≤ L.cw ∧ (0 ≤ L.k ∧ L.k ≤ 3) ∧ L.mw ≤ 1000000 ∧ L.mn ≤ 1000000 ∧ L.mb ≤ 1000000) ∧ X.rowIs g12 45 15 (lyf L) ∧ Lo X (b + 3) L ∧ Below z1.heap.size z1 X) → Q .normal ⟨#[.slice ao m cap, u1, u2, u3, u4, u5, u6, u7, u8, u9, u10, .int .i64 (K : Int), .pointer (some ⟨g12, 0, none⟩), v13, u14, u15, u16, u17, u18, u19, u20, u21, u22, u23, u24, u25, u26, u27, u28, u29, u30, u31, u32, u33, u34, u35, u36, u37, u38, u39, u40, u41, u42, u43, u44, u45, u46, u47, u48, u49, u50, u51, u52, u53, u54, u55, u56, u57, u58, u59, u60, u61, u62, u63, u64, u65, u66, u67, u68, u69, u70, u71, u72, u73, u74, u75, u76, u77, u78, u79, u80, u81, u82, u83, u84, u85, u86, u87, u88, u89, u90, u91, u92, u93, u94, u95, u96, u97, u98, u99, u100, u101, u102, u103, u104, u105, u106, u107, u108, u109, u110, u111, u112, u113, u114, u115, u116, u117, u118, u119, u120, u121, u122, u123, u124, u125, u126, u127, u128, u129, u130, u131, u132, u133, u134, u135, u136, u137, u138, u139, u140, u141, u142, u143, u144, u145, u146, u147, u148, u149, u150, u151, u152, u153, u154, u155, u156, u157, u158, u159, u160, u161, u162, u163, u164, u165, u166, u167, u168, u169, u170, u171, u172, u173, u174, u175, u176, u177, u178, u179, u180, u181, u182, u183, u184, u185, u186, u187, u188, u189, u190, u191, u192, u193, v194, v195, v196, v197, v198, v199, v200, v201, v202, v203, v204, v205, v206, v207, u208, u209, u210, u211, u212, u213, u214], []⟩ X)) :
    Code.wp Try.prog cdB3 Q ⟨#[.slice ao m cap, u1, u2, u3, u4, u5, u6, u7, u8, u9, u10, .int .i64 (K : Int), .pointer (some ⟨g12, 0, none⟩), .int .i64 0, u14, u15, u16, u17, u18, u19, u20, u21, u22, u23, u24, u25, u26, u27, u28, u29, u30, u31, u32, u33, u34, u35, u36, u37, u38, u39, u40, u41, u42, u43, u44, u45, u46, u47, u48, u49, u50, u51, u52, u53, u54, u55, u56, u57, u58, u59, u60, u61, u62, u63, u64, u65, u66, u67, u68, u69, u70, u71, u72, u73, u74, u75, u76, u77, u78, u79, u80, u81, u82, u83, u84, u85, u86, u87, u88, u89, u90, u91, u92, u93, u94, u95, u96, u97, u98, u99, u100, u101, u102, u103, u104, u105, u106, u107, u108, u109, u110, u111, u112, u113, u114, u115, u116, u117, u118, u119, u120, u121, u122, u123, u124, u125, u126, u127, u128, u129, u130, u131, u132, u133, u134, u135, u136, u137, u138, u139, u140, u141, u142, u143, u144, u145, u146, u147, u148, u149, u150, u151, u152, u153, u154, u155, u156, u157, u158, u159, u160, u161, u162, u163, u164, u165, u166, u167, u168, u169, u170, u171, u172, u173, u174, u175, u176, u177, u178, u179, u180, u181, u182, u183, u184, u185, u186, u187, u188, u189, u190, u191, u192, u193, u194, u195, u196, u197, u198, u199, u200, u201, u202, u203, u204, u205, u206, u207, u208, u209, u210, u211, u212, u213, u214], []⟩ X := by
  conv => arg 2; whnf
  have CP := hid1 (fun i n hi hn W (hW : Below w.heap.size w W) => pick5_any ao m cap f hm i n hi hn W (hf.keep hW))
  have PB := hid1 (fun i {n : Int} (hn : 1 ≤ n) => pk5_in f m i hn)
  clear hf
  go_wp2_with fail
  go_loopw [13] (fun jv wy => ∃ (j : Nat) (za : Option Addr) (zc : Nat), j ≤ K ∧ jv = .int .i64 j ∧ Below z1.heap.size z1 wy ∧ Hid (wy.rowIs g12 45 15 (lyf (LE f m K aw N cw za j zc))) ∧ Hid (wy.ownsRow (b + 3) 49 1 (.slice aw N cw) N (i8L (wgL f m 2 N))) ∧ Hid (wy.ownsRow z1.heap.size 2 1 (.slice za j zc) j (i64L (bsLL f m j)))) (fun jv _ => K - (intOf jv).toNat)
  case atStart => exact ⟨0, none, 0, Nat.zero_le _, rfl, BR, HRL, HOW, hid1 (World.ownsRow_nil _ _ _ _)⟩
  case round =>
    clear BR HRL HOW X
    obtain ⟨j, za, zc, hj, rfl, BR, HRL, HOW, HO⟩ := hrel
    have ij0 : (0 : Int) ≤ (j : Int) := by omega
    by_cases hlt : j < K
    · skip
      have ij : (j : Int) < (K : Int) := by omega
      have CP2 := hid1 (fun W hW => CP.out j 200 (by omega) (by decide) W hW)
      have hpk := PB.out j (n := 200) (by decide)
      have HSU := hid1 (bsLL_succ f m j)
      have HBM : Hid (bsV f m j = pk5 f m j 200 - 100) := hid1 rfl
      obtain ⟨y, hy⟩ : ∃ y, pk5 f m j 200 = y := ⟨_, rfl⟩
      rw [hy] at CP2 hpk HBM
      rw [HBM.out] at HSU
      clear hy HBM
      have wI : IntKind.i64.wrap (y - 100) = y - 100 := by rw [IntKind.wrap_i64]; omega
      have l14 : wr.cell? ⟨g12, 14, none⟩ = some (.slice za j zc) := HRL.out.cell (i := 14) (by decide)
      have lb1 := HRL.out.lt
      have HUO := hid1 (own_ne_row HO.out HRL.out (by decide))
      have HUG := hid1 (fun q (hq : (Value.slice za j zc).ownBlock = some q) => (HO.out.lt q hq).1)
      have HBX := hid1 BR
      clear BR
      go_upto_region 35 with fail
      refine wp_region_noPanic ?_
      go_region_law (first
        | (refine step_appP rfl (.tmp 200) (.tmp 205) rfl z1.heap.size (.slice za j zc) (bsLL f m j) j (by go_simp) (own_bl HO.out (by repeat (first | (with_reducible exact Below.refl _ _) | (with_reducible refine Below.drew ?_) | (with_reducible refine bl_alloc ?_ _)))) wr.heap.size (y - 100) 1 (by go_simp) (by simp [go_sem]) (by omega) (by have := HBX.out.size; simp; omega) ?_; intro v3 y3 own3 gr3 _; obtain ⟨a3, c3, rfl⟩ := own_isP own3; have RL3 := World.rowIs.of_block HRL.out ((gr3.block g12 (by simp; omega) (fun e => HUO.out g12 e.symm rfl)).trans ((show Below wr.heap.size wr _ from (by repeat (first | (with_reducible exact Below.refl _ _) | (with_reducible refine Below.drew ?_) | (with_reducible refine bl_alloc ?_ _)))).block g12 lb1)); have m14 : y3.cell? ⟨g12, 14, none⟩ = some (.slice za j zc) := RL3.cell (i := 14) (by decide); have fz := RL3.frozen 14; have HRL3 := hid1 RL3; have HW3 := hid1 ((own_bl HOW.out (show Below wr.heap.size wr _ from (by repeat (first | (with_reducible exact Below.refl _ _) | (with_reducible refine Below.drew ?_) | (with_reducible refine bl_alloc ?_ _))))).kept gr3 (own_neD (own_bl HOW.out (show Below wr.heap.size wr _ from (by repeat (first | (with_reducible exact Below.refl _ _) | (with_reducible refine Below.drew ?_) | (with_reducible refine bl_alloc ?_ _))))) (own_bl HO.out (show Below wr.heap.size wr _ from (by repeat (first | (with_reducible exact Below.refl _ _) | (with_reducible refine Below.drew ?_) | (with_reducible refine bl_alloc ?_ _))))) (by decide))); have BW3 := hid1 (gr_bel gr3 (show Below z1.heap.size z1 _ from bl_step HBX.out (by repeat (first | (with_reducible exact Below.refl _ _) | (with_reducible refine Below.drew ?_) | (with_reducible refine bl_alloc ?_ _)))) (fun q hq => HUG.out q hq)); have z3 := gr3.size; have O3 := hid1 own3; clear own3 gr3 RL3)
        | (go_simp; go_at_call 20; refine (CP2.out _ (bl_step HXW.out (bl_step HBX.out (by repeat (first | (with_reducible exact Below.refl _ _) | (with_reducible refine Below.drew ?_) | (with_reducible refine bl_alloc ?_ _)))))).mono ?_; rintro e y0 ⟨rfl, rfl⟩))
      all_goals
        have E1 : Hid ((y3.setCell ⟨g12, 14, none⟩ (.slice a3 (j + 1) c3)).ownsRow z1.heap.size 2 1 (.slice a3 (j + 1) c3) (j + 1) (i64L (bsLL f m (j + 1)))) := hid1 (own_setHi (by rw [HSU.out]; exact O3.out) HRL3.out.lt HRL3.out (by decide))
        have E2 : Hid ((y3.setCell ⟨g12, 14, none⟩ (.slice a3 (j + 1) c3)).rowIs g12 45 15 (lyf (LE f m K aw N cw a3 (j + 1) c3))) := hid1 (lyf_set HRL3.out _ 14 _ ⟨rfl, rfl, rfl, rfl, rfl, rfl, rfl, rfl, rfl, rfl, rfl, rfl, rfl, rfl, rfl⟩)
        have E3 : Hid ((y3.setCell ⟨g12, 14, none⟩ (.slice a3 (j + 1) c3)).ownsRow (b + 3) 49 1 (.slice aw N cw) N (i8L (wgL f m 2 N))) := hid1 (own_setHi HW3.out HRL3.out.lt HRL3.out (by decide))
        have E4 : Below z1.heap.size z1 (y3.setCell ⟨g12, 14, none⟩ (.slice a3 (j + 1) c3)) := bl_set BW3.out hg12 _
        refine NoPanic.normal ?_
        go_wp2
        exact ⟨⟨j + 1, a3, c3, by omega, by go_num, E4, E2, E3, E1⟩, by simp [intOf]; omega⟩
    · have hjK : j = K := by omega
      subst hjK
      have L2 : Hid (LE f m j aw N cw za j zc = LE f m j aw N cw za j zc) := hid1 rfl
      obtain ⟨L, hL⟩ : ∃ L, LE f m j aw N cw za j zc = L := ⟨_, rfl⟩
      have HLD : Hid (faE L ⟨h, v, c, ah, fs, la⟩ = 0 ∧ L.kd = 2 ∧ L.mw ≤ L.cw ∧ (0 ≤ L.k ∧ L.k ≤ 3) ∧ L.mw ≤ 1000000 ∧ L.mn ≤ 1000000 ∧ L.mb ≤ 1000000) := hid1 (by
        rw [← hL]
        refine ⟨made_dense HSM.out rfl (.inr rfl) (by show 1 ≤ (j : Int) ∧ (j : Int) ≤ 3; omega) ⟨rfl, rfl, rfl, rfl, rfl, rfl, rfl, rfl⟩ rfl ⟨HNE.out, fun q _ => wgV_ok f m 2 q⟩ (.inr ⟨HLA.out, rfl, rfl, fun q _ => ?_⟩), rfl, own_cap HOW.out, (by show 0 ≤ (j : Int) ∧ (j : Int) ≤ 3; omega), (by show N ≤ 1000000; omega), (by show 0 ≤ 1000000; omega), (by show j ≤ 1000000; omega)⟩
        have := PB.out q (n := 200) (by decide)
        show -100 ≤ pk5 f m q 200 - 100 ∧ pk5 f m q 200 - 100 ≤ 100
        omega)
      have HLO : Hid (Lo wr (b + 3) L) := hid1 (by
        rw [← hL]
        exact ⟨HOW.out, World.ownsRow_nil _ _ _ _, HO.out.mono bsz⟩)
      rw [hL] at HRL
      clear hL L2
      go_wp2_with fail
      refine hQ.out _ _ _ _ _ _ _ _ _ _ _ _ _ _ _ _ ?_
      exact ⟨L, HLD.out, HRL.out, HLO.out, BR⟩
attribute [local go_sem ↓] Go.wp_at_zero Go.wp_at_succ
set_option maxHeartbeats 64000000 in
set_option maxRecDepth 100000 in
theorem md_ret (u0 u1 u4 u5 u6 u7 u8 u9 u10 u11 u13 u14 u15 u16 u17 u18 u19 u20 u21 u22 u23 u24 u25 u26 u27 u28 u29 u30 u31 u32 u33 u34 u35 u36 u37 u38 u39 u40 u41 u42 u43 u44 u45 u46 u47 u48 u49 u50 u51 u52 u53 u54 u55 u56 u57 u58 u59 u60 u61 u62 u63 u64 u65 u66 u67 u68 u69 u70 u71 u72 u73 u74 u75 u76 u77 u78 u79 u80 u81 u82 u83 u84 u85 u86 u87 u88 u89 u90 u91 u92 u93 u94 u95 u96 u97 u98 u99 u100 u101 u102 u103 u104 u105 u106 u107 u108 u109 u110 u111 u112 u113 u114 u115 u116 u117 u118 u119 u120 u121 u122 u123 u124 u125 u126 u127 u128 u129 u130 u131 u132 u133 u134 u135 u136 u137 u138 u139 u140 u141 u142 u143 u144 u145 u146 u147 u148 u149 u150 u151 u152 u153 u154 u155 u156 u157 u158 u159 u160 u161 u162 u163 u164 u165 u166 u167 u168 u169 u170 u171 u172 u173 u174 u175 u176 u177 u178 u179 u180 u181 u182 u183 u184 u185 u186 u187 u188 u189 u190 u191 u192 u193 u194 u195 u196 u197 u198 u199 u200 u201 u202 u203 u204 u205 u206 u207 u208 u209 u210 u211 u212 u213 u214 : Value) (b i uc g12 : Nat) (ua : Option Addr) (lf : Nat → Ly) (L : Ly) (h v c ah H V C : Int) (fs la : Bool) (w z1 wr : World) (Q : Exit → Act → World → Prop)
    (hb0 : w.heap.size = b) (hi3 : i ≤ 3) (HXW : Hid (Below w.heap.size w z1)) (HMS : Hid (MS z1 b H V C h v c lf i ua uc)) (bsz : b + 3 ≤ z1.heap.size) (HLD : Hid (faE L ⟨h, v, c, ah, fs, la⟩ = 0 ∧ L.kd = 2 ∧ L.mw ≤ L.cw ∧ (0 ≤ L.k ∧ L.k ≤ 3) ∧ L.mw ≤ 1000000 ∧ L.mn ≤ 1000000 ∧ L.mb ≤ 1000000)) (HRL : Hid (wr.rowIs g12 45 15 (lyf L))) (HLO : Hid (Lo wr (b + 3) L)) (BR : Below z1.heap.size z1 wr)
    (hQ : Hid (∀ (X : World) (v208 v209 v210 v211 v212 v213 v214 : Value), (∃ a3 c3, X.rowIs b 28 5 (netF nmX H V C (.slice a3 (i + 1) c3)) ∧ X.ownsRow w.heap.size 45 15 (.slice a3 (i + 1) c3) (i + 1) (lyLs (sn lf i L) (i + 1)) ∧ (∀ q, q < i + 1 → Lo X w.heap.size (sn lf i L q) ∧ (sn lf i L q).mw ≤ 1000000 ∧ (sn lf i L q).mn ≤ 1000000 ∧ (sn lf i L q).mb ≤ 1000000) ∧ Below w.heap.size w X) → Q .ret ⟨#[u0, u1, .pointer (some ⟨b, 0, none⟩), .pointer (some ⟨b + 1, 0, none⟩), u4, u5, u6, u7, u8, u9, u10, u11, .pointer (some ⟨g12, 0, none⟩), u13, u14, u15, u16, u17, u18, u19, u20, u21, u22, u23, u24, u25, u26, u27, u28, u29, u30, u31, u32, u33, u34, u35, u36, u37, u38, u39, u40, u41, u42, u43, u44, u45, u46, u47, u48, u49, u50, u51, u52, u53, u54, u55, u56, u57, u58, u59, u60, u61, u62, u63, u64, u65, u66, u67, u68, u69, u70, u71, u72, u73, u74, u75, u76, u77, u78, u79, u80, u81, u82, u83, u84, u85, u86, u87, u88, u89, u90, u91, u92, u93, u94, u95, u96, u97, u98, u99, u100, u101, u102, u103, u104, u105, u106, u107, u108, u109, u110, u111, u112, u113, u114, u115, u116, u117, u118, u119, u120, u121, u122, u123, u124, u125, u126, u127, u128, u129, u130, u131, u132, u133, u134, u135, u136, u137, u138, u139, u140, u141, u142, u143, u144, u145, u146, u147, u148, u149, u150, u151, u152, u153, u154, u155, u156, u157, u158, u159, u160, u161, u162, u163, u164, u165, u166, u167, u168, u169, u170, u171, u172, u173, u174, u175, u176, u177, u178, u179, u180, u181, u182, u183, u184, u185, u186, u187, u188, u189, u190, u191, u192, u193, u194, u195, u196, u197, u198, u199, u200, u201, u202, u203, u204, u205, u206, u207, v208, v209, v210, v211, v212, v213, v214], []⟩ X)) :
    Code.wp Try.prog cd36 Q ⟨#[u0, u1, .pointer (some ⟨b, 0, none⟩), .pointer (some ⟨b + 1, 0, none⟩), u4, u5, u6, u7, u8, u9, u10, u11, .pointer (some ⟨g12, 0, none⟩), u13, u14, u15, u16, u17, u18, u19, u20, u21, u22, u23, u24, u25, u26, u27, u28, u29, u30, u31, u32, u33, u34, u35, u36, u37, u38, u39, u40, u41, u42, u43, u44, u45, u46, u47, u48, u49, u50, u51, u52, u53, u54, u55, u56, u57, u58, u59, u60, u61, u62, u63, u64, u65, u66, u67, u68, u69, u70, u71, u72, u73, u74, u75, u76, u77, u78, u79, u80, u81, u82, u83, u84, u85, u86, u87, u88, u89, u90, u91, u92, u93, u94, u95, u96, u97, u98, u99, u100, u101, u102, u103, u104, u105, u106, u107, u108, u109, u110, u111, u112, u113, u114, u115, u116, u117, u118, u119, u120, u121, u122, u123, u124, u125, u126, u127, u128, u129, u130, u131, u132, u133, u134, u135, u136, u137, u138, u139, u140, u141, u142, u143, u144, u145, u146, u147, u148, u149, u150, u151, u152, u153, u154, u155, u156, u157, u158, u159, u160, u161, u162, u163, u164, u165, u166, u167, u168, u169, u170, u171, u172, u173, u174, u175, u176, u177, u178, u179, u180, u181, u182, u183, u184, u185, u186, u187, u188, u189, u190, u191, u192, u193, u194, u195, u196, u197, u198, u199, u200, u201, u202, u203, u204, u205, u206, u207, u208, u209, u210, u211, u212, u213, u214], []⟩ wr := by
  conv => arg 2; whnf
  have MX := HMS.out.keep BR
  have HMX := hid1 MX
  have n4 : wr.cell? ⟨b + 1, 4, none⟩ = some (.slice ua i uc) := MX.2.1.cell (i := 4) (by decide)
  have HRW := hid1 MX.2.2.2.1
  have HUO := hid1 (fun q (hq : (Value.slice ua i uc).ownBlock = some q) => (HMS.out.2.2.2.1.lt q hq))
  have hXb : b + 3 ≤ wr.heap.size := Nat.le_trans bsz BR.size
  have HBX := hid1 BR
  obtain ⟨l0, l1, l2, l3, l4, l5, l6, l7, l8, l9, l10, l11, l12, l13, l14⟩ := lyf_cells HRL.out
  clear MX BR
  go_upto_region 37 with (at_builtin; refine app_lyD rfl _ _ rfl (b + 3) (.slice ua i uc) (lyLs lf i) i (by go_simp) (own_bl HRW.out (bl_alloc (Below.refl _ _) _)) wr.heap.size L 1 (by go_simp) (lp_new' rfl L _) (by omega) (by simp; omega) ?_; intro v3 y3 own3 gr3; obtain ⟨a3, c3, rfl⟩ := own_isP own3; have RN3 := World.rowIs.of_block HMX.out.2.1 ((gr3.block (b + 1) (by simp; omega) (fun e => by have := HUO.out (b + 1) e.symm; omega)).trans ((bl_alloc (Below.refl wr.heap.size wr) (lyo L)).block (b + 1) (by omega))); have m4 : y3.cell? ⟨b + 1, 4, none⟩ = some (.slice ua i uc) := RN3.cell (i := 4) (by decide); have fz4 := RN3.frozen 4; have HM3 := hid1 (HMX.out.snoc HLO.out HLD.out.2.2.2.2 own3 gr3); have HB3 := hid1 (gr_bel gr3 (show Below w.heap.size w _ from bl_step HXW.out (bl_alloc HBX.out _)) (fun q hq => by have := (HUO.out q hq).1; omega)); clear own3 gr3 RN3)
  refine gen_world (fun Y => MS Y b H V C h v c (sn lf i L) (i + 1) a3 c3 ∧ Below w.heap.size w Y) ⟨HM3.out, bl_set HB3.out (by omega) _⟩ ?_
  clear HM3 HB3 m4 fz4 l0 l1 l2 l3 l4 l5 l6 l7 l8 l9 l10 l11 l12 l13 l14 n4 HRL HRW HMX
  rintro Y ⟨MY, BY⟩
  have HMY := hid1 MY
  have n0 : Y.cell? ⟨b + 1, 0, none⟩ = some (.string nmX) := MY.2.1.cell (i := 0) (by decide)
  have n1 : Y.cell? ⟨b + 1, 1, none⟩ = some (.int .i64 H) := MY.2.1.cell (i := 1) (by decide)
  have n2 : Y.cell? ⟨b + 1, 2, none⟩ = some (.int .i64 V) := MY.2.1.cell (i := 2) (by decide)
  have n3 : Y.cell? ⟨b + 1, 3, none⟩ = some (.int .i64 C) := MY.2.1.cell (i := 3) (by decide)
  have n4 : Y.cell? ⟨b + 1, 4, none⟩ = some (.slice a3 (i + 1) c3) := MY.2.1.cell (i := 4) (by decide)
  have r0 : Y.cell? ⟨b, 0, none⟩ = some (.string ⟨#[]⟩) := MY.1.cell (i := 0) (by decide)
  have r1 : Y.cell? ⟨b, 1, none⟩ = some (.int .i64 0) := MY.1.cell (i := 1) (by decide)
  have r2 : Y.cell? ⟨b, 2, none⟩ = some (.int .i64 0) := MY.1.cell (i := 2) (by decide)
  have r3 : Y.cell? ⟨b, 3, none⟩ = some (.int .i64 0) := MY.1.cell (i := 3) (by decide)
  have r4 : Y.cell? ⟨b, 4, none⟩ = some (.slice none 0 0) := MY.1.cell (i := 4) (by decide)
  have f0 := MY.1.frozen 0
  have f1 := MY.1.frozen 1
  have f2 := MY.1.frozen 2
  have f3 := MY.1.frozen 3
  have f4 := MY.1.frozen 4
  have hb1 : w.heap.size ≤ b := by omega
  clear MY
  go_wp2_with fail
  refine hQ.out _ _ _ _ _ _ _ _ ?_
  refine ⟨a3, c3, netF_all HMY.out.1, ?_, fun q hq => ?_, ?_⟩
  · have := own_setD (c := b) (u := .slice a3 (i + 1) c3) (j := 4) (own_setD (c := b) (u := .int .i64 C) (j := 3) (own_setD (c := b) (u := .int .i64 V) (j := 2) (own_setD (c := b) (u := .int .i64 H) (j := 1) (own_setD (c := b) (u := .string nmX) (j := 0) HMY.out.2.2.2.1 (by omega)) (by omega)) (by omega)) (by omega)) (by omega)
    exact this.mono (by omega)
  · obtain ⟨q1, q2⟩ := HMY.out.2.2.2.2.1 q hq
    refine ⟨?_, q2⟩
    have := ((((q1.set (c := b) (u := .string nmX) (j := 0) (by omega)).set (c := b) (u := .int .i64 H) (j := 1) (by omega)).set (c := b) (u := .int .i64 V) (j := 2) (by omega)).set (c := b) (u := .int .i64 C) (j := 3) (by omega)).set (c := b) (u := .slice a3 (i + 1) c3) (j := 4) (by omega)
    exact this.mono (by omega)
  · exact bl_set (bl_set (bl_set (bl_set (bl_set BY hb1 _) hb1 _) hb1 _) hb1 _) hb1 _
end Go.Proofs.Ytjjahenmhkkaaaa.Nn
/- NETWORKS THAT ARE MADE: the walk. -/
namespace Go.Proofs.Ytjjahenmhkkaaaa.Nn
open Go.RowKit

set_option maxHeartbeats 64000000 in
set_option maxRecDepth 100000 in
theorem made5_any (ao : Option Addr) (m cap : Nat) (f : Nat → Int) (hm : m ≤ 9223372036854775807) (w : World) (hf : RB w ao m f) :
    Calls Try.prog 7 #[.slice ao m cap] w fun e w' => ∃ (H V C : Int) (M : Nat) (ua : Option Addr) (uc : Nat) (lf : Nat → Ly), e = .returned (ntv (mkN H V C M ua uc lf)) ∧ (1 ≤ H ∧ H ≤ 5) ∧ (1 ≤ V ∧ V ≤ 5) ∧ (1 ≤ C ∧ C ≤ 4) ∧ (1 ≤ M ∧ M ≤ 4) ∧ Mk H V C M M lf ∧ w'.ownsRow w.heap.size 45 15 (.slice ua M uc) M (lyLs lf M) ∧ (∀ j, j < M → Lo w' w.heap.size (lf j) ∧ (lf j).mw ≤ 1000000 ∧ (lf j).mn ≤ 1000000 ∧ (lf j).mb ≤ 1000000) ∧ Below w.heap.size w w' := by
  have CP := hid1 (fun i n hi hn W (hW : Below w.heap.size w W) => pick5_any ao m cap f hm i n hi hn W (hf.keep hW))
  have CW := hid1 (fun N kd hN W (hW : Below w.heap.size w W) => weights5_any ao m cap f hm N kd hN W (hf.keep hW))
  have CN := hid1 (fun N at' hN ha W (hW : Below w.heap.size w W) => norms5_any ao m cap f hm N at' hN ha W (hf.keep hW))
  have PB := hid1 (fun i {n : Int} (hn : 1 ≤ n) => pk5_in f m i hn)
  have HF := hid1 hf
  clear hf
  obtain ⟨b, hb0⟩ : ∃ b, w.heap.size = b := ⟨_, rfl⟩
  have C1 := hid1 (fun W hW => CP.out 0 5 (by decide) (by decide) W hW)
  have C2 := hid1 (fun W hW => CP.out 1 5 (by decide) (by decide) W hW)
  have C3 := hid1 (fun W hW => CP.out 2 4 (by decide) (by decide) W hW)
  have C4 := hid1 (fun W hW => CP.out 3 4 (by decide) (by decide) W hW)
  have h1 := PB.out 0 (n := 5) (by decide)
  have h2 := PB.out 1 (n := 5) (by decide)
  have h3 := PB.out 2 (n := 4) (by decide)
  have h4 := PB.out 3 (n := 4) (by decide)
  generalize pk5 f m 0 5 = y1 at *
  generalize pk5 f m 1 5 = y2 at *
  generalize pk5 f m 2 4 = y3 at *
  generalize pk5 f m 3 4 = y4 at *
  have a1 : IntKind.i64.wrap (1 + y1) = 1 + y1 := by rw [IntKind.wrap_i64]; omega
  have a2 : IntKind.i64.wrap (1 + y2) = 1 + y2 := by rw [IntKind.wrap_i64]; omega
  have a3 : IntKind.i64.wrap (1 + y3) = 1 + y3 := by rw [IntKind.wrap_i64]; omega
  go_enter Try.func7, Try.ntmps7
  go_wp2_with fail
  refine (C1.out _ (by repeat (first | (with_reducible exact Below.refl _ _) | (with_reducible refine bl_alloc ?_ _) | (with_reducible refine Below.drew ?_) | (with_reducible refine bl_drewN ?_ _) | (with_reducible refine bl_set ?_ (by omega) _) | (with_reducible refine bl_step ?_ (by assumption))))).mono ?_
  rintro e z1 ⟨rfl, rfl⟩
  go_wp2_with fail
  refine (C2.out _ (by repeat (first | (with_reducible exact Below.refl _ _) | (with_reducible refine bl_alloc ?_ _) | (with_reducible refine Below.drew ?_) | (with_reducible refine bl_drewN ?_ _) | (with_reducible refine bl_set ?_ (by omega) _) | (with_reducible refine bl_step ?_ (by assumption))))).mono ?_
  rintro e z1 ⟨rfl, rfl⟩
  go_wp2_with fail
  refine (C3.out _ (by repeat (first | (with_reducible exact Below.refl _ _) | (with_reducible refine bl_alloc ?_ _) | (with_reducible refine Below.drew ?_) | (with_reducible refine bl_drewN ?_ _) | (with_reducible refine bl_set ?_ (by omega) _) | (with_reducible refine bl_step ?_ (by assumption))))).mono ?_
  rintro e z1 ⟨rfl, rfl⟩
  go_wp2_with fail
  refine (C4.out _ (by repeat (first | (with_reducible exact Below.refl _ _) | (with_reducible refine bl_alloc ?_ _) | (with_reducible refine Below.drew ?_) | (with_reducible refine bl_drewN ?_ _) | (with_reducible refine bl_set ?_ (by omega) _) | (with_reducible refine bl_step ?_ (by assumption))))).mono ?_
  rintro e z1 ⟨rfl, rfl⟩
  clear C1 C2 C3 C4
  go_upto_region 4 with fail
  obtain ⟨H, hH⟩ : ∃ H, 1 + y1 = H := ⟨_, rfl⟩
  obtain ⟨V, hV⟩ : ∃ V, 1 + y2 = V := ⟨_, rfl⟩
  obtain ⟨C, hC⟩ : ∃ C, 1 + y3 = C := ⟨_, rfl⟩
  have bH : 1 ≤ H ∧ H ≤ 5 := by omega
  have bV : 1 ≤ V ∧ V ≤ 5 := by omega
  have bC : 1 ≤ C ∧ C ≤ 4 := by omega
  obtain ⟨cnt, hcnt⟩ := Int.eq_ofNat_of_zero_le h4.1
  have hc3 : cnt ≤ 3 := by omega
  subst hcnt
  rw [hH, hV, hC]
  clear a1 a2 a3 hH hV hC h1 h2 h3 h4
  refine gen_world (fun X => Below w.heap.size w X ∧ MS X b H V C H V C (fun _ => L0 0 0 0 0 0) 0 none 0) ⟨by repeat (first | (with_reducible exact Below.refl _ _) | (with_reducible refine bl_alloc ?_ _) | (with_reducible refine Below.drew ?_) | (with_reducible refine bl_drewN ?_ _) | (with_reducible refine bl_set ?_ (by omega) _) | (with_reducible refine bl_step ?_ (by assumption))), ms_new hb0 H V C _⟩ ?_
  rintro X ⟨BX, SX⟩
  have HM0 : Hid (Mk H V C (cnt + 1) 0 (fun _ => L0 0 0 0 0 0)) := hid1 ⟨fun j hj => absurd hj (Nat.not_lt_zero j), ⟨bH.1, by show H ≤ _; omega⟩, ⟨bV.1, by show V ≤ _; omega⟩, bC, by show (0 : Int) ≤ 0 ∧ (0 : Int) ≤ _; omega⟩
  have HS0 := hid1 SX
  clear SX
  go_wp2_with fail
  go_loopw [6] (fun iv wr => ∃ (i : Nat) (lf : Nat → Ly) (ua : Option Addr) (uc : Nat), i ≤ cnt ∧ iv = .int .i64 i ∧ Below w.heap.size w wr ∧ Hid (Mk H V C (cnt + 1) i lf) ∧ Hid (MS wr b H V C (sp (mkN H V C (cnt + 1) none 0 lf) i).h (sp (mkN H V C (cnt + 1) none 0 lf) i).v (sp (mkN H V C (cnt + 1) none 0 lf) i).c lf i ua uc)) (fun iv _ => cnt - (intOf iv).toNat)
  case atStart => exact ⟨0, _, none, 0, Nat.zero_le _, rfl, BX, HM0, HS0⟩
  case round =>
    clear BX HM0 HS0 X
    obtain ⟨i, lf, ua, uc, hi, rfl, BX, HMK, HMS⟩ := hrel
    have ii0 : (0 : Int) ≤ (i : Int) := by omega
    by_cases hlt : i < cnt
    · have ii : (i : Int) < (cnt : Int) := by omega
      have HSM := hid1 (HMK.out.sms (by omega))
      have HLA : Hid ((sp (mkN H V C (cnt + 1) none 0 lf) i).la = false ∧ (sp (mkN H V C (cnt + 1) none 0 lf) i).fs = decide (i = 0)) := hid1 ⟨by rw [(la_sp _ i).1]; simp; omega, (la_sp _ i).2⟩
      have HEND : Hid (∀ (L : Ly) (c' : Int), Ld L (sp (mkN H V C (cnt + 1) none 0 lf) i) c' → Mk H V C (cnt + 1) (i + 1) (sn lf i L) ∧ (sp (mkN H V C (cnt + 1) none 0 (sn lf i L)) (i + 1)).h = afH L (sp (mkN H V C (cnt + 1) none 0 lf) i).h ∧ (sp (mkN H V C (cnt + 1) none 0 (sn lf i L)) (i + 1)).v = afV L (sp (mkN H V C (cnt + 1) none 0 lf) i).v ∧ (sp (mkN H V C (cnt + 1) none 0 (sn lf i L)) (i + 1)).c = c') := hid1 (fun L c' h => by
        obtain ⟨d1, d2, d3, d4, d5, -⟩ := h
        have := HMK.out.snoc (by omega) d1 d2 d3 d4
        rw [d5]; exact this)
      generalize sp (mkN H V C (cnt + 1) none 0 lf) i = S at *
      obtain ⟨h, v, c, ah, fs, la⟩ := S
      dsimp only at HSM HLA HEND HMS
      obtain ⟨sm1, sm2, sm3, sm4⟩ := HSM.out
      dsimp only at sm1 sm2 sm3
      clear HMK sm4
      obtain ⟨p, hp⟩ : ∃ p, 4 + 8 * (i : Int) = p := ⟨_, rfl⟩
      have w1 : IntKind.i64.wrap (8 * (i : Int)) = 8 * (i : Int) := by rw [IntKind.wrap_i64]; omega
      have w2 : IntKind.i64.wrap (4 + 8 * (i : Int)) = p := by rw [IntKind.wrap_i64]; omega
      have hpb : 0 ≤ p ∧ p ≤ 100 := by omega
      have wp1 : IntKind.i64.wrap (p + 1) = p + 1 := by rw [IntKind.wrap_i64]; omega
      have wp2 : IntKind.i64.wrap (p + 2) = p + 2 := by rw [IntKind.wrap_i64]; omega
      have wp3 : IntKind.i64.wrap (p + 3) = p + 3 := by rw [IntKind.wrap_i64]; omega
      have wp4 : IntKind.i64.wrap (p + 4) = p + 4 := by rw [IntKind.wrap_i64]; omega
      have wp5 : IntKind.i64.wrap (p + 5) = p + 5 := by rw [IntKind.wrap_i64]; omega
      have wp6 : IntKind.i64.wrap (p + 6) = p + 6 := by rw [IntKind.wrap_i64]; omega
      have wp7 : IntKind.i64.wrap (p + 7) = p + 7 := by rw [IntKind.wrap_i64]; omega
      clear hp
      have s0 : wr.cell? ⟨b + 1 + 1, 0, none⟩ = some (.int .i64 h) := HMS.out.2.2.1.cell (i := 0) (by decide)
      have s1 : wr.cell? ⟨b + 1 + 1, 1, none⟩ = some (.int .i64 v) := HMS.out.2.2.1.cell (i := 1) (by decide)
      have s2 : wr.cell? ⟨b + 1 + 1, 2, none⟩ = some (.int .i64 c) := HMS.out.2.2.1.cell (i := 2) (by decide)
      have C1 := hid1 (fun W hW => CP.out p h (by omega) (by omega) W hW)
      have C2 := hid1 (fun W hW => CP.out (p + 1) v (by omega) (by omega) W hW)
      have C3 := hid1 (fun W hW => CP.out (p + 2) 3 (by omega) (by decide) W hW)
      have C4 := hid1 (fun W hW => CP.out (p + 3) 3 (by omega) (by decide) W hW)
      have h1 := PB.out p (n := h) (by omega)
      have h2 := PB.out (p + 1) (n := v) (by omega)
      have h3 := PB.out (p + 2) (n := 3) (by decide)
      have h4 := PB.out (p + 3) (n := 3) (by decide)
      generalize pk5 f m p h = y1 at *
      generalize pk5 f m (p + 1) v = y2 at *
      generalize pk5 f m (p + 2) 3 = y3 at *
      generalize pk5 f m (p + 3) 3 = y4 at *
      have a1 : IntKind.i64.wrap (1 + y1) = 1 + y1 := by rw [IntKind.wrap_i64]; omega
      have a2 : IntKind.i64.wrap (1 + y2) = 1 + y2 := by rw [IntKind.wrap_i64]; omega
      have a3 : IntKind.i64.wrap (1 + y3) = 1 + y3 := by rw [IntKind.wrap_i64]; omega
      have a4 : IntKind.i64.wrap (1 + y4) = 1 + y4 := by rw [IntKind.wrap_i64]; omega
      go_upto_region 8 with fail
      have HBX := hid1 BX
      refine md_r8 _ _ _ _ _ _ _ _ _ _ _ _ _ _ _ _ _ _ _ _ _ _ _ _ _ _ _ _ _ _ _ _ _ _ _ _ _ _ _ _ _ _ _ _ _ _ _ _ _ _ _ _ _ _ _ _ _ _ _ _ _ _ _ _ _ _ _ _ _ _ _ _ _ _ _ _ _ _ _ _ _ _ _ _ _ _ _ _ _ _ _ _ _ _ _ _ _ _ _ _ _ _ _ _ _ _ _ _ _ _ _ _ _ _ _ _ _ _ _ _ _ _ _ _ _ _ _ _ _ _ _ _ _ _ _ _ _ _ _ _ _ _ _ _ _ _ _ _ _ _ _ _ _ _ _ _ _ _ _ _ _ _ _ _ _ _ _ _ _ _ _ _ _ _ _ _ _ _ _ _ _ _ _ _ _ _ _ _ _ _ _ _ _ _ _ _ _ _ _ _ _ _ _ _ _ _ _ _ _ _ _ _ ao m cap b p h v y1 y2 y3 y4 w wr _ C1 C2 C3 C4 HBX s0 s1 wp1 wp2 wp3 a1 a2 a3 a4 (hid1 ?_)
      intro wc g8 v37 v38 v39 v40 v41 v42 v43 v44 v45 v46 v47 v48 v49 v50 v51 v52 v53 v54 v55 v56 v57 v58 v59 v60 hg8 RW8 B8
      have HW8 := hid1 RW8
      clear RW8
      have BX8 := bl_step BX B8
      have lg8 := HW8.out.lt
      have bsz : b + 3 ≤ wr.heap.size := HMS.out.2.2.2.2.2
      have HXW := HBX
      clear BX HBX s0 s1 s2 C1 C2 C3 C4 a1 a2 a3 a4 w1 w2 wp1 wp2 wp3
      obtain ⟨r, hr⟩ : ∃ r, 1 + y1 = r := ⟨_, rfl⟩
      obtain ⟨s, hs⟩ : ∃ r, 1 + y2 = r := ⟨_, rfl⟩
      obtain ⟨sy, hsy⟩ : ∃ r, 1 + y3 = r := ⟨_, rfl⟩
      obtain ⟨sx, hsx⟩ : ∃ r, 1 + y4 = r := ⟨_, rfl⟩
      rw [hr, hs, hsy, hsx] at HW8
      have br : 1 ≤ r ∧ r ≤ h := by omega
      have bs : 1 ≤ s ∧ s ≤ v := by omega
      have bsy : 1 ≤ sy ∧ sy ≤ 3 := by omega
      have bsx : 1 ≤ sx ∧ sx ≤ 3 := by omega
      clear hr hs hsy hsx h1 h2 h3 h4
      have C5 := hid1 (fun W hW => CP.out (p + 4) 3 (by omega) (by decide) W hW)
      have h5 := PB.out (p + 4) (n := 3) (by decide)
      generalize pk5 f m (p + 4) 3 = y5 at *
      have a5 : IntKind.i64.wrap (1 + y5) = 1 + y5 := by rw [IntKind.wrap_i64]; omega
      have HBX := hid1 BX8
      go_upto_region 9 with fail
      refine md_r9 _ _ _ _ _ _ _ _ _ _ _ _ _ _ _ _ _ _ _ _ _ _ _ _ _ _ _ _ _ _ _ _ _ _ _ _ _ _ _ _ _ _ _ _ _ _ _ _ _ _ _ _ _ _ _ _ _ _ _ _ _ _ _ _ _ _ _ _ _ _ _ _ _ _ _ _ _ _ _ _ _ _ _ _ _ _ _ _ _ _ _ _ _ _ _ _ _ _ _ _ _ _ _ _ _ _ _ _ _ _ _ _ _ _ _ _ _ _ _ _ _ _ _ _ _ _ _ _ _ _ _ _ _ _ _ _ _ _ _ _ _ _ _ _ _ _ _ _ _ _ _ _ _ _ _ _ _ _ _ _ _ _ _ _ _ _ _ _ _ _ _ _ _ _ _ _ _ _ _ _ _ _ _ _ _ _ _ _ _ _ _ _ _ _ _ _ _ _ _ _ _ _ _ _ _ _ _ _ _ _ _ _ ao m cap g8 p r s sy sx y5 w wc _ C5 HBX HW8 wp4 a5 (hid1 ?_)
      intro wc g9 v61 v62 v63 v64 v65 v66 v67 hg9 RL9 B9
      have HL9 := hid1 RL9
      clear RL9
      obtain ⟨kd0, hk0⟩ : ∃ r, 1 + y5 = r := ⟨_, rfl⟩
      rw [hk0] at HL9
      have bk0 : 1 ≤ kd0 ∧ kd0 ≤ 3 := by omega
      have BR := bl_step B8 B9
      have hg9' : wr.heap.size ≤ g9 := Nat.le_trans B8.size hg9
      replace HW8 := hid1 (World.rowIs.of_block HW8.out (B9.block _ HW8.out.lt))
      have lg9 := HL9.out.lt
      have hg89 : g8 ≠ g9 := by omega
      clear B8 B9 BX8 hk0 h5 C5 a5 HBX hg9
      have l0 : wc.cell? ⟨g9, 0, none⟩ = some (.int .i64 kd0) := HL9.out.cell (i := 0) (by decide)
      obtain ⟨tb, htb⟩ : ∃ tb, decide (i = 0 ∧ kd0 = 3) = tb := ⟨_, rfl⟩
      have HTB := hid1 htb
      clear htb
      go_upto_region 10 with fail
      go_cut [74] from 68 to 74 (fun s74 wx => s74 = .bool tb ∧ wx = wc)
      case first =>
        by_cases hi0 : i = 0
        · have e1 : ((i : Int) == 0) = true := by simp [hi0]
          by_cases hk3 : kd0 = 3
          · have e2 : (kd0 == 3) = true := by simp [hk3]
            have e3 : tb = true := by rw [← HTB.out]; simp [hi0, hk3]
            clear hi0 hk3 HTB
            subst e3
            go_wp2_with fail
            go_meet
            exact ⟨rfl, rfl⟩
          · have e2 : (kd0 == 3) = false := by simp [hk3]
            have e3 : tb = false := by rw [← HTB.out]; simp [hk3]
            clear hi0 hk3 HTB
            subst e3
            go_wp2_with fail
            go_meet
            exact ⟨rfl, rfl⟩
        · have e1 : ((i : Int) == 0) = false := by simp [hi0]
          have e3 : tb = false := by rw [← HTB.out]; simp [hi0]
          clear hi0 HTB
          subst e3
          go_wp2_with fail
          go_meet
          exact ⟨rfl, rfl⟩
      case rest =>
        obtain ⟨rfl, rfl⟩ := hcut
        have fz0 := HL9.out.frozen 0
        go_upto_if 74 with fail
        go_cut [] from 75 to 75 (fun wx => ∃ kd, (1 ≤ kd ∧ kd ≤ 3) ∧ Hid (i = 0 → kd ≠ 3) ∧ Hid (wx.rowIs g9 45 15 (lyf (L0 kd r s sy sx))) ∧ Hid (wx.rowIs g8 40 8 (wnF r s sy sx)) ∧ Below wr.heap.size wr wx)
        case first =>
          cases tb
          · have hne : i = 0 → kd0 ≠ 3 := fun h1 h2 => by have := HTB.out; simp [h1, h2] at this
            go_wp2_with fail
            go_meet
            exact ⟨kd0, bk0, hid1 hne, HL9, HW8, BR⟩
          · go_wp2_with fail
            go_meet
            exact ⟨1, by decide, hid1 (fun _ => by decide), hid1 (lyf_set HL9.out _ 0 _ ⟨rfl, rfl, rfl, rfl, rfl, rfl, rfl, rfl, rfl, rfl, rfl, rfl, rfl, rfl, rfl⟩), hid1 (HW8.out.setOther hg89 _), bl_set BR hg9' _⟩
        case rest =>
          clear HL9 HW8 BR HTB fz0 l0 bk0 kd0
          obtain ⟨kd, bk, HNZ, HL9, HW8, BR⟩ := hcut
          have l0 : wc.cell? ⟨g9, 0, none⟩ = some (.int .i64 kd) := HL9.out.cell (i := 0) (by decide)
          have s2 : wc.cell? ⟨b + 1 + 1, 2, none⟩ = some (.int .i64 c) := (HMS.out.keep BR).2.2.1.cell (i := 2) (by decide)
          obtain ⟨tb, htb⟩ : ∃ tb, (kd != 3) = tb := ⟨_, rfl⟩
          have HTB := hid1 htb
          go_upto_if 80 with fail
          go_cut [10] from 81 to 100 (fun s10 wx => ∃ (wt : Int) (K : Nat) (an : Option Addr) (cn : Nat) (ns : Nat → Nat → Int) (c' : Int), s10 = .int .i64 c' ∧ Hid ((kd = 3 ∧ wt = 0 ∧ K = 0 ∧ c' = c) ∨ (kd ≠ 3 ∧ (wt = 1 ∨ wt = 2) ∧ 1 ≤ K ∧ K ≤ 3 ∧ c' = K ∧ ∀ j, j < K → noE (ns j 0) (ns j 1) (ns j 2) (ns j 3) (ns j 4) (ns j 5) (ns j 6) (ns j 7) = 0)) ∧ Hid (wx.rowIs g9 45 15 (lyf (L1 kd wt K r s sy sx an cn ns))) ∧ Hid (wx.ownsRow (b + 3) 71 8 (.slice an K cn) K (nmL ns K)) ∧ Hid (wx.rowIs g8 40 8 (wnF r s sy sx)) ∧ Below wr.heap.size wr wx)
          case first =>
            cases tb
            · have hk3 : kd = 3 := by simpa using htb
              clear htb
              go_wp2_with fail
              go_meet
              exact ⟨0, 0, none, 0, fun _ _ => 0, c, rfl, hid1 (.inl ⟨hk3, rfl, rfl, rfl⟩), HL9, hid1 (World.ownsRow_nil _ _ _ _), HW8, BR⟩
            · have hk3 : kd ≠ 3 := by simpa using htb
              have HK3 := hid1 hk3
              clear htb hk3
              refine wp_cond_true rfl ?_
              refine md_kinds _ _ _ _ _ _ _ _ _ _ _ _ _ _ _ _ _ _ _ _ _ _ _ _ _ _ _ _ _ _ _ _ _ _ _ _ _ _ _ _ _ _ _ _ _ _ _ _ _ _ _ _ _ _ _ _ _ _ _ _ _ _ _ _ _ _ _ _ _ _ _ _ _ _ _ _ _ _ _ _ _ _ _ _ _ _ _ _ _ _ _ _ _ _ _ _ _ _ _ _ _ _ _ _ _ _ _ _ _ _ _ _ _ _ _ _ _ _ _ _ _ _ _ _ _ _ _ _ _ _ _ _ _ _ _ _ _ _ _ _ _ _ _ _ _ _ _ _ _ _ _ _ _ _ _ _ _ _ _ _ _ _ _ _ _ _ _ _ _ _ _ _ _ _ _ _ _ _ _ _ _ _ _ _ _ _ _ _ _ _ _ _ _ _ _ _ _ _ _ _ _ _ _ _ _ _ _ _ _ _ _ _ ao m cap f hm w HF.out b g8 g9 p kd r s sy sx wr wc _ hpb wp5 wp6 HXW bsz HL9 HW8 BR hg9' hg89 (hid1 ?_)
              rintro X s10 v81 v82 v83 v84 v85 v86 v87 v88 v89 v90 v91 v92 v93 v94 v95 v96 v97 v98 v99 v100 ⟨wt, K, an, cn, ns, rfl, HKD, HRL, HON, HRW, BX⟩
              refine kmeet_p (by assumption) ?_
              go_meet
              exact ⟨wt, K, an, cn, ns, K, rfl, hid1 (.inr ⟨HK3.out, HKD.out.1, HKD.out.2.1, HKD.out.2.2.1, rfl, HKD.out.2.2.2⟩), HRL, HON, HRW, BX⟩
          case rest =>
            clear HL9 HW8 BR HTB htb l0 s2 wp4 wp5
            obtain ⟨wt, K, an, cn, ns, c', rfl, HKD, HL9, HON, HW8, BR⟩ := hcut
            have l0 : wc.cell? ⟨g9, 0, none⟩ = some (.int .i64 kd) := HL9.out.cell (i := 0) (by decide)
            go_upto_block 2 with fail
            go_cut [] from 103 to 166 (fun wx => ∃ L, Ld L ⟨h, v, c, ah, fs, la⟩ c' ∧ wx.rowIs g9 45 15 (lyf L) ∧ Lo wx (b + 3) L ∧ Below wr.heap.size wr wx)
            case first =>
              by_cases h1 : kd = 1
              · have hq := HKD.out.resolve_left (fun h => by omega)
                refine md_sw1 _ _ _ _ _ _ _ _ _ _ _ _ _ _ _ _ _ _ _ _ _ _ _ _ _ _ _ _ _ _ _ _ _ _ _ _ _ _ _ _ _ _ _ _ _ _ _ _ _ _ _ _ _ _ _ _ _ _ _ _ _ _ _ _ _ _ _ _ _ _ _ _ _ _ _ _ _ _ _ _ _ _ _ _ _ _ _ _ _ _ _ _ _ _ _ _ _ _ _ _ _ _ _ _ _ _ _ _ _ _ _ _ _ _ _ _ _ _ _ _ _ _ _ _ _ _ _ _ _ _ _ _ _ _ _ _ _ _ _ _ _ _ _ _ _ _ _ _ _ _ _ _ _ _ _ _ _ _ _ _ _ _ _ _ _ _ _ _ _ _ _ _ _ _ _ _ _ _ _ _ _ _ _ _ _ _ _ _ _ _ _ _ _ _ _ _ _ _ _ _ _ _ _ _ _ _ _ _ _ ao m cap f hm w HF.out b g8 g9 K cn i uc ua an ns lf p kd wt r s sy sx h v c c' ah H V C fs la wr wc _ hpb wp6 wp7 HXW bsz HMS HSM HLA sm1 sm2 sm3 br bs bsy bsx HL9 HON HW8 BR hg9' hg89 (hid1 hq.2) h1 (hid1 ?_)
                intro X v103 v104 v105 v106 v107 v108 v109 v110 v111 v112 v113 v114 v115 v116 v117 v118 v119 v120 v121 v122 v123 v124 v125 v126 v127 v128 v129 v130 v131 v132 v133 v134 v135 v136 v137 v138 v139 v140 v141 v142 v143 v144 v145 v146 v147 v148 v149 v150 v151 v152 v153 v154 v155 v156 v157 v158 v159 v160 v161 v162 v163 v164 v165 v166 hX
                refine kmeet_p (by assumption) ?_
                go_meet
                exact hX
              · by_cases h2 : kd = 2
                · have hq := HKD.out.resolve_left (fun h => by omega)
                  refine md_sw2 _ _ _ _ _ _ _ _ _ _ _ _ _ _ _ _ _ _ _ _ _ _ _ _ _ _ _ _ _ _ _ _ _ _ _ _ _ _ _ _ _ _ _ _ _ _ _ _ _ _ _ _ _ _ _ _ _ _ _ _ _ _ _ _ _ _ _ _ _ _ _ _ _ _ _ _ _ _ _ _ _ _ _ _ _ _ _ _ _ _ _ _ _ _ _ _ _ _ _ _ _ _ _ _ _ _ _ _ _ _ _ _ _ _ _ _ _ _ _ _ _ _ _ _ _ _ _ _ _ _ _ _ _ _ _ _ _ _ _ _ _ _ _ _ _ _ _ _ _ _ _ _ _ _ _ _ _ _ _ _ _ _ _ _ _ _ _ _ _ _ _ _ _ _ _ _ _ _ _ _ _ _ _ _ _ _ _ _ _ _ _ _ _ _ _ _ _ _ _ _ _ _ _ _ _ _ _ _ _ ao m cap f hm w HF.out b g8 g9 K cn i uc ua an ns lf p kd wt r s sy sx h v c c' ah H V C fs la wr wc _ hpb wp6 wp7 HXW bsz HMS HSM HLA sm1 sm2 sm3 br bs bsy bsx HL9 HON HW8 BR hg9' hg89 (hid1 hq.2) h2 (hid1 ?_)
                  intro X v103 v104 v105 v106 v107 v108 v109 v110 v111 v112 v113 v114 v115 v116 v117 v118 v119 v120 v121 v122 v123 v124 v125 v126 v127 v128 v129 v130 v131 v132 v133 v134 v135 v136 v137 v138 v139 v140 v141 v142 v143 v144 v145 v146 v147 v148 v149 v150 v151 v152 v153 v154 v155 v156 v157 v158 v159 v160 v161 v162 v163 v164 v165 v166 hX
                  refine kmeet_p (by assumption) ?_
                  go_meet
                  exact hX
                · have h3 : kd = 3 := by omega
                  have hq := HKD.out.resolve_right (fun h => h.1 h3)
                  refine md_sw3 _ _ _ _ _ _ _ _ _ _ _ _ _ _ _ _ _ _ _ _ _ _ _ _ _ _ _ _ _ _ _ _ _ _ _ _ _ _ _ _ _ _ _ _ _ _ _ _ _ _ _ _ _ _ _ _ _ _ _ _ _ _ _ _ _ _ _ _ _ _ _ _ _ _ _ _ _ _ _ _ _ _ _ _ _ _ _ _ _ _ _ _ _ _ _ _ _ _ _ _ _ _ _ _ _ _ _ _ _ _ _ _ _ _ _ _ _ _ _ _ _ _ _ _ _ _ _ _ _ _ _ _ _ _ _ _ _ _ _ _ _ _ _ _ _ _ _ _ _ _ _ _ _ _ _ _ _ _ _ _ _ _ _ _ _ _ _ _ _ _ _ _ _ _ _ _ _ _ _ _ _ _ _ _ _ _ _ _ _ _ _ _ _ _ _ _ _ _ _ _ _ _ _ _ _ _ _ _ _ ao m cap f hm w HF.out b g8 g9 K cn i uc ua an ns lf p kd wt r s sy sx h v c c' ah H V C fs la wr wc _ hpb wp6 wp7 HXW bsz HMS HSM HLA sm1 sm2 sm3 br bs bsy bsx HL9 HON HW8 BR hg9' hg89 (hid1 hq.2) HNZ h3 (hid1 ?_)
                  intro X v103 v104 v105 v106 v107 v108 v109 v110 v111 v112 v113 v114 v115 v116 v117 v118 v119 v120 v121 v122 v123 v124 v125 v126 v127 v128 v129 v130 v131 v132 v133 v134 v135 v136 v137 v138 v139 v140 v141 v142 v143 v144 v145 v146 v147 v148 v149 v150 v151 v152 v153 v154 v155 v156 v157 v158 v159 v160 v161 v162 v163 v164 v165 v166 hX
                  refine kmeet_p (by assumption) ?_
                  go_meet
                  exact hX
            case rest =>
              obtain ⟨L, LD, RL, LO, BX⟩ := hcut
              refine kgo (by assumption) ?_
              refine md_tail _ _ _ _ _ _ _ _ _ _ _ _ _ _ _ _ _ _ _ _ _ _ _ _ _ _ _ _ _ _ _ _ _ _ _ _ _ _ _ _ _ _ _ _ _ _ _ _ _ _ _ _ _ _ _ _ _ _ _ _ _ _ _ _ _ _ _ _ _ _ _ _ _ _ _ _ _ _ _ _ _ _ _ _ _ _ _ _ _ _ _ _ _ _ _ _ _ _ _ _ _ _ _ _ _ _ _ _ _ _ _ _ _ _ _ _ _ _ _ _ _ _ _ _ _ _ _ _ _ _ _ _ _ _ _ _ _ _ _ _ _ _ _ _ _ _ _ _ _ _ _ _ _ _ _ _ _ _ _ _ _ _ _ _ _ _ _ _ _ _ _ _ _ _ _ _ _ _ _ _ _ _ _ _ _ _ _ _ _ _ _ _ _ _ _ _ _ _ _ _ _ _ _ _ _ _ _ _ _ _ _ b g9 i uc ua lf L h v c c' ah H V C fs la w wr wc _ HXW (by omega) bsz hg9' HMS HSM sm1 sm2 (by omega) LD RL LO BX (hid1 ?_)
              intro Y a3 c3 v167 v168 v169 v170 v171 v172 v173 v174 v175 v176 MY BY
              have HE := hid1 (HEND.out L c' LD)
              have HMY := hid1 MY
              clear LD RL LO BX MY
              go_wp2_with fail
              exact ⟨⟨i + 1, sn lf i L, a3, c3, by omega, by go_num, BY, hid1 HE.out.1, hid1 (by rw [HE.out.2.1, HE.out.2.2.1, HE.out.2.2.2]; exact HMY.out)⟩, by simp [intOf]; omega⟩
    · skip
      have hic : i = cnt := by omega
      subst hic
      have HSM := hid1 (HMK.out.sms (by omega))
      have HLA : Hid ((sp (mkN H V C (i + 1) none 0 lf) i).la = true) := hid1 (by rw [(la_sp _ i).1]; simp)
      have HEND : Hid (∀ (L : Ly), faE L (sp (mkN H V C (i + 1) none 0 lf) i) = 0 → L.kd = 2 → L.mw ≤ L.cw → (0 ≤ L.k ∧ L.k ≤ 3) → Mk H V C (i + 1) (i + 1) (sn lf i L)) := hid1 (fun L d1 d2 d3 d4 => (HMK.out.snoc (by omega) d1 d3 d4 (.inl d2)).1)
      generalize sp (mkN H V C (i + 1) none 0 lf) i = S at *
      obtain ⟨h, v, c, ah, fs, la⟩ := S
      dsimp only at HSM HLA HEND HMS
      obtain ⟨sm1, sm2, sm3, sm4⟩ := HSM.out
      dsimp only at sm1 sm2 sm3
      clear HMK sm4
      have C1 := hid1 (fun W hW => CP.out 1 3 (by decide) (by decide) W hW)
      have h1 := PB.out 1 (n := 3) (by decide)
      generalize pk5 f m 1 3 = y1 at *
      obtain ⟨K, hK⟩ := Int.eq_ofNat_of_zero_le (show 0 ≤ 1 + y1 by omega)
      have a1 : IntKind.i64.wrap (1 + y1) = (K : Int) := by rw [IntKind.wrap_i64]; omega
      have bK : 1 ≤ K ∧ K ≤ 3 := by omega
      clear hK h1 hlt
      go_upto_region 30 with fail
      refine gen_world (fun X => MS X b H V C h v c lf i ua uc ∧ Below w.heap.size w X) ⟨HMS.out, BX⟩ ?_
      clear HMS BX
      rintro W0 ⟨MW, BX⟩
      have HMS := hid1 MW
      have HXW := hid1 BX
      have bsz : b + 3 ≤ W0.heap.size := MW.2.2.2.2.2
      have s0 : W0.cell? ⟨b + 1 + 1, 0, none⟩ = some (.int .i64 h) := MW.2.2.1.cell (i := 0) (by decide)
      have s1 : W0.cell? ⟨b + 1 + 1, 1, none⟩ = some (.int .i64 v) := MW.2.2.1.cell (i := 1) (by decide)
      have s2 : W0.cell? ⟨b + 1 + 1, 2, none⟩ = some (.int .i64 c) := MW.2.2.1.cell (i := 2) (by decide)
      clear MW
      have m1 := mul3_le (a := K) (b := h) (c := 1) (A := 3) (B := 15) (C := 1) (by omega) (by omega) (by omega)
      have m2 := mul3_le (a := K) (b := h) (c := v) (A := 3) (B := 15) (C := 15) (by omega) (by omega) (by omega)
      have m3 := mul3_le (a := (K : Int) * h) (b := v) (c := c) (A := 45) (B := 15) (C := 4) (by omega) (by omega) (by omega)
      obtain ⟨N, hN⟩ := Int.eq_ofNat_of_zero_le m3.1
      have HNE : Hid ((N : Int) = K * (h * v * c)) := hid1 (by rw [← hN, Int.mul_assoc, Int.mul_assoc, Int.mul_assoc])
      have p1 : IntKind.i64.wrap ((K : Int) * h) = K * h := by rw [IntKind.wrap_i64]; omega
      have p2 : IntKind.i64.wrap ((K : Int) * h * v) = K * h * v := by rw [IntKind.wrap_i64]; omega
      have p3 : IntKind.i64.wrap ((K : Int) * h * v * c) = N := by rw [IntKind.wrap_i64, hN]; omega
      have hNb : N ≤ 10000 := by omega
      clear m1 m2 m3 hN
      go_wp2_with fail
      refine (C1.out _ HXW.out).mono ?_
      rintro e z1 ⟨rfl, rfl⟩
      go_wp2_with fail
      refine (CW.out N 2 (by omega) _ HXW.out).mono ?_
      rintro e z8 ⟨vw, rfl, own, hb⟩
      obtain ⟨aw, cw, rfl⟩ := own_isP own
      obtain ⟨g12, hg12⟩ : ∃ g, z8.heap.size = g := ⟨_, rfl⟩
      go_upto_region 32 with fail
      refine gen_world (fun X => X.rowIs g12 45 15 (lyf (LE f m K aw N cw none 0 0)) ∧ X.ownsRow (b + 3) 49 1 (.slice aw N cw) N (i8L (wgL f m 2 N)) ∧ Below z1.heap.size z1 X ∧ z1.heap.size ≤ g12) ⟨by rw [← hg12]; exact lyf_new z8 (LE f m K aw N cw none 0 0) _, (own.mono bsz).alloc _, bl_alloc hb _, by rw [← hg12]; exact hb.size⟩ ?_
      clear own hb hg12 s0 s1 s2 p1 p2 p3 a1
      rintro X ⟨RL, OW, BR, hg12⟩
      have HRL := hid1 RL
      have HOW := hid1 OW
      clear RL OW
      go_cut [13] from 214 to 214 (fun s13 wx => s13 = .int .i64 0 ∧ wx = X)
      case first =>
        go_wp2_with fail
        go_meet
        exact ⟨rfl, rfl⟩
      case rest =>
        obtain ⟨rfl, rfl⟩ := hcut
        refine kgo (by assumption) ?_
        refine md_b3 _ _ _ _ _ _ _ _ _ _ _ _ _ _ _ _ _ _ _ _ _ _ _ _ _ _ _ _ _ _ _ _ _ _ _ _ _ _ _ _ _ _ _ _ _ _ _ _ _ _ _ _ _ _ _ _ _ _ _ _ _ _ _ _ _ _ _ _ _ _ _ _ _ _ _ _ _ _ _ _ _ _ _ _ _ _ _ _ _ _ _ _ _ _ _ _ _ _ _ _ _ _ _ _ _ _ _ _ _ _ _ _ _ _ _ _ _ _ _ _ _ _ _ _ _ _ _ _ _ _ _ _ _ _ _ _ _ _ _ _ _ _ _ _ _ _ _ _ _ _ _ _ _ _ _ _ _ _ _ _ _ _ _ _ _ _ _ _ _ _ _ _ _ _ _ _ _ _ _ _ _ _ _ _ _ _ _ _ _ _ _ _ _ _ _ _ _ _ _ _ _ _ _ _ _ _ _ _ _ _ _ ao m cap f hm w HF.out b K N cw g12 aw h v c ah fs la z1 _ _ bK hNb HNE HSM HLA HXW bsz HRL HOW BR hg12 (hid1 ?_)
        rintro X2 v13 v194 v195 v196 v197 v198 v199 v200 v201 v202 v203 v204 v205 v206 v207 ⟨L, LD, RL2, LO2, BR2⟩
        refine kgo (by assumption) ?_
        refine md_ret _ _ _ _ _ _ _ _ _ _ _ _ _ _ _ _ _ _ _ _ _ _ _ _ _ _ _ _ _ _ _ _ _ _ _ _ _ _ _ _ _ _ _ _ _ _ _ _ _ _ _ _ _ _ _ _ _ _ _ _ _ _ _ _ _ _ _ _ _ _ _ _ _ _ _ _ _ _ _ _ _ _ _ _ _ _ _ _ _ _ _ _ _ _ _ _ _ _ _ _ _ _ _ _ _ _ _ _ _ _ _ _ _ _ _ _ _ _ _ _ _ _ _ _ _ _ _ _ _ _ _ _ _ _ _ _ _ _ _ _ _ _ _ _ _ _ _ _ _ _ _ _ _ _ _ _ _ _ _ _ _ _ _ _ _ _ _ _ _ _ _ _ _ _ _ _ _ _ _ _ _ _ _ _ _ _ _ _ _ _ _ _ _ _ _ _ _ _ _ _ _ _ _ _ _ _ _ _ _ _ _ _ b i uc g12 ua lf L h v c ah H V C fs la w z1 _ _ hb0 (by omega) HXW HMS bsz (hid1 LD) (hid1 RL2) (hid1 LO2) BR2 (hid1 ?_)
        rintro Y v208 v209 v210 v211 v212 v213 v214 ⟨a3, c3, RN, RO, RL, BY⟩
        have HK := HEND.out L LD.1 LD.2.1 LD.2.2.1 LD.2.2.2.1
        refine bodyPost_ret (results_cell_row Try.results7 _ _ b 28 _ (0, 0) _ (by go_simp) (row5 RN) Try.underlying28 rfl (by kernel_rfl)) rfl ?_
        exact ⟨H, V, C, i + 1, a3, c3, sn lf i L, rfl, bH, bV, bC, by omega, HK, RO, RL, BY⟩
end Go.Proofs.Ytjjahenmhkkaaaa.Nn
/- NETWORKS: THE CHAPTER'S EXAMPLE, MADE. -/
namespace Go.Proofs.Ytjjahenmhkkaaaa.Nn
open Go.RowKit

set_option maxHeartbeats 1600000 in
set_option maxRecDepth 100000 in
theorem example_any (w : World) : Calls Try.prog 18 #[] w fun e w' => e = .returned (ntv (exN w.heap.size 3)) ∧ ExB w' w.heap.size 3 ∧ Below w.heap.size w w' := by
  obtain ⟨B, hB⟩ : ∃ B, w.heap.size = B := ⟨_, rfl⟩
  rw [hB]
  go_enter Try.func18, Try.ntmps18
  go_upto_region 4 with fail
  refine gen_world (fun X => Below w.heap.size w X ∧ X.heap.size = B + 4 ∧ X.heap[B]? = some netZ ∧ X.heap[B + 1]? = some (.cells #[.int .i64 1, .int .i64 1] 69) ∧ X.heap[B + 2]? = some (.cells #[.int .i64 0, .int .i64 1] 69) ∧ X.heap[B + 3]? = some (.cells #[.int .i64 2, .int .i64 2, .int .i64 1, .int .i64 1, .int .i64 1, .int .i64 1, .int .i64 1, .int .i64 1] 40)) ⟨by repeat (first | (with_reducible exact Below.refl _ _) | (with_reducible refine bl_alloc ?_ _) | (with_reducible refine Below.drew ?_) | (with_reducible refine bl_drewN ?_ _) | (with_reducible refine bl_set ?_ (by omega) _) | (with_reducible refine bl_step ?_ (by assumption))), by simp [hB], by repeat (first | exact new_at (by simp [*]) _ | refine old_at ?_ _), by repeat (first | exact new_at (by simp [*]) _ | refine old_at ?_ _), by repeat (first | exact new_at (by simp [*]) _ | refine old_at ?_ _), by repeat (first | exact new_at (by simp [*]) _ | refine old_at ?_ _)⟩ ?_
  rintro X ⟨BX, zX, r0, r1, r2, r3⟩
  have p0 := bcl r1 (j := 0) rfl; have p1 := bcl r1 (j := 1) rfl
  have q0 := bcl r2 (j := 0) rfl; have q1 := bcl r2 (j := 1) rfl
  have w0 := bcl r3 (j := 0) rfl; have w1 := bcl r3 (j := 1) rfl; have w2 := bcl r3 (j := 2) rfl; have w3 := bcl r3 (j := 3) rfl; have w4 := bcl r3 (j := 4) rfl; have w5 := bcl r3 (j := 5) rfl; have w6 := bcl r3 (j := 6) rfl; have w7 := bcl r3 (j := 7) rfl
  have l1 : B + 1 < X.heap.size := by omega
  have l2 : B + 2 < X.heap.size := by omega
  go_upto_region 5 with fail
  clear p0 p1 q0 q1 w0 w1 w2 w3 w4 w5 w6 w7 l1 l2
  refine gen_world (fun Y => Below w.heap.size w Y ∧ Y.heap.size = B + 7 ∧ Y.heap[B]? = some netZ ∧ Y.heap[B + 4]? = some (.cells (i8c [1, -1, -1, 1]) 49) ∧ Y.heap[B + 5]? = some (.cells (i64c [1, 1, 0, 1, 0, 1, 1, 1]) 71) ∧ Y.heap[B + 6]? = some (layO (exA B))) ⟨by repeat (first | (with_reducible exact Below.refl _ _) | (with_reducible refine bl_alloc ?_ _) | (with_reducible refine Below.drew ?_) | (with_reducible refine bl_drewN ?_ _) | (with_reducible refine bl_set ?_ (by omega) _) | (with_reducible refine bl_step ?_ (by assumption))), by simp [zX], old_at (old_at (old_at r0 _) _) _, old_at (old_at (new_at zX _) _) _, old_at (new_at (by simp [zX]) _) _, new_at (by simp [zX]) _⟩ ?_
  clear r0 r1 r2 r3 zX BX X
  rintro Y ⟨BY, zY, r0, r4, r5, r6⟩
  go_upto_region 7 with fail
  refine gen_world (fun Z => Below w.heap.size w Z ∧ Z.heap.size = B + 11 ∧ Z.heap[B]? = some netZ ∧ Z.heap[B + 4]? = some (.cells (i8c [1, -1, -1, 1]) 49) ∧ Z.heap[B + 5]? = some (.cells (i64c [1, 1, 0, 1, 0, 1, 1, 1]) 71) ∧ Z.heap[B + 6]? = some (layO (exA B)) ∧ Z.heap[B + 7]? = some (layO exP) ∧ Z.heap[B + 8]? = some (.cells (i8c [1, 0, -1, 1, 0, 0, 0, 1]) 49) ∧ Z.heap[B + 9]? = some (.cells (i64c [3, -4]) 2) ∧ Z.heap[B + 10]? = some (layO (exD B 3))) ⟨by repeat (first | (with_reducible exact Below.refl _ _) | (with_reducible refine bl_alloc ?_ _) | (with_reducible refine Below.drew ?_) | (with_reducible refine bl_drewN ?_ _) | (with_reducible refine bl_set ?_ (by omega) _) | (with_reducible refine bl_step ?_ (by assumption))), by simp [zY], old_at (old_at (old_at (old_at r0 _) _) _) _, old_at (old_at (old_at (old_at r4 _) _) _) _, old_at (old_at (old_at (old_at r5 _) _) _) _, old_at (old_at (old_at (old_at r6 _) _) _) _, old_at (old_at (old_at (new_at zY _) _) _) _, old_at (old_at (new_at (by simp [zY]) _) _) _, old_at (new_at (by simp [zY]) _) _, new_at (by simp [zY]) _⟩ ?_
  clear r0 r4 r5 r6 zY BY Y
  rintro Z ⟨BZ, zZ, r0, r4, r5, r6, r7, r8, r9, r10⟩
  have lpA : Lp Z (B + 6) (exA B) := ⟨bcl r6 rfl, bcl r6 rfl, bcl r6 rfl, bcl r6 rfl, bcl r6 rfl, bcl r6 rfl, bcl r6 rfl, bcl r6 rfl, bcl r6 rfl, bcl r6 rfl, bcl r6 rfl, bcl r6 rfl, bcl r6 rfl, bcl r6 rfl, bcl r6 rfl⟩
  have lpB : Lp Z (B + 7) exP := ⟨bcl r7 rfl, bcl r7 rfl, bcl r7 rfl, bcl r7 rfl, bcl r7 rfl, bcl r7 rfl, bcl r7 rfl, bcl r7 rfl, bcl r7 rfl, bcl r7 rfl, bcl r7 rfl, bcl r7 rfl, bcl r7 rfl, bcl r7 rfl, bcl r7 rfl⟩
  have lpC : Lp Z (B + 10) (exD B 3) := ⟨bcl r10 rfl, bcl r10 rfl, bcl r10 rfl, bcl r10 rfl, bcl r10 rfl, bcl r10 rfl, bcl r10 rfl, bcl r10 rfl, bcl r10 rfl, bcl r10 rfl, bcl r10 rfl, bcl r10 rfl, bcl r10 rfl, bcl r10 rfl, bcl r10 rfl⟩
  refine ex_seven _ _ _ _ _ _ _ _ _ _ _ _ _ _ _ _ _ _ _ _ _ _ _ _ _ _ B (B + 6) (B + 7) (B + 10) (exA B) exP (exD B 3) Z _ lpA lpB lpC r0 (hid1 ?_)
  intro X EX RX ht
  have zX : X.heap.size = B + 11 := EX.1.trans zZ
  have BX := EX.below BZ (by omega) ht
  have HE := hid1 (show ExB (X.alloc (.cells (row3 (exA B) exP (exD B 3)) 45)) B 3 from ⟨old_at ((EX.2 _ (by omega)).trans r4) _, old_at ((EX.2 _ (by omega)).trans r5) _, old_at ((EX.2 _ (by omega)).trans r8) _, old_at ((EX.2 _ (by omega)).trans r9) _, new_at zX _⟩)
  have HX := hid1 (bl_alloc BX (.cells (row3 (exA B) exP (exD B 3)) 45))
  have HR := hid1 (RX.alloc (.cells (row3 (exA B) exP (exD B 3)) 45))
  rw [zZ]
  rw [zZ] at HR
  clear r0 r4 r5 r6 r7 r8 r9 r10 lpA lpB lpC EX RX ht BX BZ zX zZ Z
  refine gen_then (fun Y => Y = X.alloc (.cells (row3 (exA B) exP (exD B 3)) 45)) rfl ?_
  rintro Y hY
  rw [← hY] at HE HX HR
  clear hY
  have n0 := HR.out.cell (i := 0) (by decide)
  have n1 := HR.out.cell (i := 1) (by decide)
  have n2 := HR.out.cell (i := 2) (by decide)
  have n3 := HR.out.cell (i := 3) (by decide)
  have n4 := HR.out.cell (i := 4) (by decide)
  go_wp2_with fail
  simp [bodyPost, results, Try.results18, go_sem, n0, n1, n2, n3, n4]
  exact ⟨⟨rfl, rfl, rfl, rfl, rfl, rfl, rfl⟩, HE.out, hB ▸ HX.out⟩
end Go.Proofs.Ytjjahenmhkkaaaa.Nn
/- NETWORKS: LISTS OF SHAPES HELD AGAINST EACH OTHER. -/
namespace Go.Proofs.Ytjjahenmhkkaaaa.Nn
open Go.RowKit

def Lsq (W : World) (ao : Option Addr) (m : Nat) (H V C : Nat → Int) : Prop := ∀ k, k < m → ∃ g o, ao = some ⟨g, o, none⟩ ∧ W.cell? ⟨g, o + k * 3, none⟩ = some (.int .i64 (H k)) ∧ W.cell? ⟨g, o + k * 3 + 1, none⟩ = some (.int .i64 (V k)) ∧ W.cell? ⟨g, o + k * 3 + 2, none⟩ = some (.int .i64 (C k))
theorem Lsq.keep {W w' : World} {ao : Option Addr} {m : Nat} {H V C : Nat → Int} (h : Lsq W ao m H V C) (hb : Below W.heap.size W w') : Lsq w' ao m H V C := fun k hk => by
  obtain ⟨g, o, e, a, b, c⟩ := h k hk
  exact ⟨g, o, e, keepc hb a, keepc hb b, keepc hb c⟩
def sq3 (H V C H' V' C' : Nat → Int) (k : Nat) : Prop := H k = H' k ∧ V k = V' k ∧ C k = C' k
instance (H V C H' V' C' : Nat → Int) (k : Nat) : Decidable (sq3 H V C H' V' C' k) := by unfold sq3; infer_instance
def sqB (m n : Nat) (H V C H' V' C' : Nat → Int) : Bool := decide (m = n ∧ ∀ k, k < m → sq3 H V C H' V' C' k)
theorem sqB_len {m n : Nat} {H V C H' V' C' : Nat → Int} (h : ¬ m = n) : sqB m n H V C H' V' C' = false := decide_eq_false fun k => h k.1
theorem sqB_no {m n k : Nat} {H V C H' V' C' : Nat → Int} (hk : k < m) (h : ¬ sq3 H V C H' V' C' k) : sqB m n H V C H' V' C' = false := decide_eq_false fun x => h (x.2 k hk)
theorem sqB_ok {m n : Nat} {H V C H' V' C' : Nat → Int} (h : m = n) (h2 : ∀ k, k < m → sq3 H V C H' V' C' k) : sqB m n H V C H' V' C' = true := decide_eq_true ⟨h, h2⟩
set_option maxRecDepth 100000 in
theorem eqs_any (ao bo : Option Addr) (m n cm cn : Nat) (hm : m ≤ 9223372036854775807) (H V C H' V' C' : Nat → Int) (w : World) (L1 : Lsq w ao m H V C) (L2 : Lsq w bo n H' V' C') :
    Calls Try.prog 19 #[.slice ao m cm, .slice bo n cn] w fun e w' => e = .returned (.bool (sqB m n H V C H' V' C')) ∧ Below w.heap.size w w' := by
  have K1 := hid1 L1
  have K2 := hid1 L2
  clear L1 L2
  by_cases hmn : m = n
  · have hne : ((m : Int) != (n : Int)) = false := by simp [hmn]
    have HO := hid1 (fun h => sqB_ok (H := H) (V := V) (C := C) (H' := H') (V' := V') (C' := C') hmn h)
    have HN := hid1 (fun k (hk : k < m) h => sqB_no (n := n) (H := H) (V := V) (C := C) (H' := H') (V' := V') (C' := C') hk h)
    have HM := hid1 hmn
    clear hmn
    generalize sqB m n H V C H' V' C' = fin at *
    go_enter Try.func19, Try.ntmps19
    go_wp2_with fail
    go_loopw [5] (fun i wr => ∃ k : Nat, k ≤ m ∧ i = .int .i64 k ∧ Hid (∀ j, j < k → sq3 H V C H' V' C' j) ∧ Below w.heap.size w wr) (fun i _ => m - (intOf i).toNat)
    case atStart => exact ⟨0, Nat.zero_le _, rfl, hid1 fun j hj => absurd hj (by omega), Below.refl _ _⟩
    case round =>
      obtain ⟨k, hk, rfl, HA, BX⟩ := hrel
      have ik0 : (0 : Int) ≤ (k : Int) := by omega
      by_cases hlt : k < m
      · have ik : (k : Int) < (m : Int) := by omega
        have ik2 : (k : Int) < (n : Int) := by have := HM.out; omega
        obtain ⟨g1, o1, ea, a0, a1, a2⟩ := (K1.out.keep BX) k hlt
        obtain ⟨g2, o2, eb, b0, b1, b2⟩ := (K2.out.keep BX) k (by have := HM.out; omega)
        have we := fun w => shp_eql (H k) (V k) (C k) (H' k) (V' k) (C' k) w
        by_cases hq : sq3 H V C H' V' C' k
        · have HQ := hid1 hq
          rw [decide_eq_true (show H k = H' k ∧ V k = V' k ∧ C k = C' k from hq)] at we
          clear hq
          go_wp2_with fail
          go_quiet (fail)
          go_wp2_with fail
          exact ⟨⟨k + 1, by omega, by go_num, hid1 (fun j hj => by
            by_cases e : j = k
            · rw [e]; exact HQ.out
            · exact HA.out j (by omega)), by repeat (first | (with_reducible exact Below.refl _ _) | (with_reducible refine bl_alloc ?_ _) | (with_reducible refine Below.drew ?_) | (with_reducible refine bl_drewN ?_ _) | (with_reducible refine bl_set ?_ (by omega) _) | (with_reducible refine bl_step ?_ (by assumption)))⟩, by simp [intOf]; omega⟩
        · rw [decide_eq_false (show ¬ (H k = H' k ∧ V k = V' k ∧ C k = C' k) from hq)] at we
          have HF := hid1 (HN.out k hlt hq)
          clear hq
          go_wp2_with fail
          go_quiet (fail)
          go_wp2_with fail
          go_ret
          exact ⟨by rw [HF.out]; rfl, by repeat (first | (with_reducible exact Below.refl _ _) | (with_reducible refine bl_alloc ?_ _) | (with_reducible refine Below.drew ?_) | (with_reducible refine bl_drewN ?_ _) | (with_reducible refine bl_set ?_ (by omega) _) | (with_reducible refine bl_step ?_ (by assumption)))⟩
      · have : k = m := by omega
        subst this
        go_wp2_with fail
        go_ret
        exact ⟨by rw [HO.out HA.out]; rfl, BX⟩
  · have hne : ((m : Int) != (n : Int)) = true := by simp; omega
    rw [sqB_len hmn]
    go_enter Try.func19, Try.ntmps19
    go_wp2_with fail
    go_ret
    exact ⟨rfl, Below.refl _ _⟩
end Go.Proofs.Ytjjahenmhkkaaaa.Nn
/- NETWORKS: WHAT EVERY STATEMENT ASKS AHEAD. -/
namespace Go.Proofs.Ytjjahenmhkkaaaa.Nn
open Go.RowKit

def emB5 : Nt := ⟨⟨#[]⟩, 0, 0, 0, none, 0, 0, fun _ => exP⟩
theorem emB5W (W : World) : NtW W emB5 := ⟨fun i hi => absurd hi (Nat.not_lt_zero i), (show (0 : Nat) ≤ 9223372036854775807 by decide), (show (0 : Nat) ≤ 9223372036854775807 by decide)⟩
theorem emB5_no : chE emB5 = 50 ∧ chA emB5 = -1 := ch_whole (by decide)
def exH (k : Nat) : Int := [3, 2, 1].getD k 0
def exC (k : Nat) : Int := [1, 1, 2].getD k 0
theorem ex_shf (B : Nat) : ∀ k, k < 3 → ((sp (exN B 3) (k + 1)).h = exH k ∧ (sp (exN B 3) (k + 1)).v = exH k ∧ (sp (exN B 3) (k + 1)).c = exC k) := fun k hk => by
  rcases (show k = 0 ∨ k = 1 ∨ k = 2 by omega) with rfl | rfl | rfl <;> exact ⟨by kernel_rfl, by kernel_rfl, by kernel_rfl⟩
theorem shf_at (N : Nt) (m k : Nat) (hk : k < m) : shf N m (k * 3) = .int .i64 (sp N (k + 1)).h ∧ shf N m (k * 3 + 1) = .int .i64 (sp N (k + 1)).v ∧ shf N m (k * 3 + 2) = .int .i64 (sp N (k + 1)).c := by
  unfold shf
  rw [if_pos (by omega), if_pos (by omega), if_pos (by omega), show k * 3 / 3 = k by omega, show (k * 3 + 1) / 3 = k by omega, show (k * 3 + 2) / 3 = k by omega, show k * 3 % 3 = 0 by omega, show (k * 3 + 1) % 3 = 1 by omega, show (k * 3 + 2) % 3 = 2 by omega]
  exact ⟨rfl, rfl, rfl⟩
/-- A list of shapes that walk has made. -/
theorem row_lsq {W : World} {N : Nt} {g m : Nat} {t : TypeId} (h : W.rowIs g t (m * 3) (shf N m)) : Lsq W (some ⟨g, 0, none⟩) m (fun k => (sp N (k + 1)).h) (fun k => (sp N (k + 1)).v) (fun k => (sp N (k + 1)).c) := fun k hk => by
  have e := shf_at N m k hk
  refine ⟨g, 0, rfl, ?_, ?_, ?_⟩
  · rw [Nat.zero_add, h.cell (by omega), e.1]
  · rw [Nat.zero_add, h.cell (by omega), e.2.1]
  · rw [Nat.zero_add, h.cell (by omega), e.2.2]
theorem ExB.bias {W : World} {B : Nat} {x y : Int} (h : ExB W B x) : ExB (W.setCell ⟨B + 9, 0, none⟩ (.int .i64 y)) B y := by
  have o := fun i (hi : i ≠ B + 9) => Below.heap_setCell W ⟨B + 9, 0, none⟩ (.int .i64 y) i hi
  refine ⟨(o _ (by omega)).trans h.1, (o _ (by omega)).trans h.2.1, (o _ (by omega)).trans h.2.2.1, ?_, (o _ (by omega)).trans h.2.2.2.2⟩
  simp [World.setCell, Array.getElem?_modify, h.2.2.2.1]
set_option maxHeartbeats 1600000 in
set_option maxRecDepth 100000 in
theorem nbegun_any (w : World) : Calls Try.prog 6 #[] w fun e w' => e = .returned (.bool true) ∧ Below w.heap.size w w' := by
  go_enter Try.func6, Try.ntmps6
  go_wp2_with fail
  refine (example_any w).mono ?_
  rintro e w1 ⟨rfl, EX, B1⟩
  obtain ⟨B, hB⟩ : ∃ B, w.heap.size = B := ⟨_, rfl⟩
  rw [hB] at EX
  rw [hB]
  have hlB : B + 11 < w1.heap.size := lt_block EX.2.2.2.2
  have HE := hid1 EX
  clear EX
  obtain ⟨bn, hbn⟩ : ∃ b, w1.heap.size = b := ⟨_, rfl⟩
  go_upto_region 2 with fail
  refine gen_world (fun X => Below w.heap.size w X ∧ ExB X B 3 ∧ Nb X bn (exN B 3)) ⟨by repeat (first | (with_reducible exact Below.refl _ _) | (with_reducible refine bl_alloc ?_ _) | (with_reducible refine Below.drew ?_) | (with_reducible refine bl_drewN ?_ _) | (with_reducible refine bl_set ?_ (by omega) _) | (with_reducible refine bl_step ?_ (by assumption))), HE.out.keep (bl_alloc (Below.refl _ _) _), by rw [← hbn]; exact nb_new w1 (exN B 3) _⟩ ?_
  clear HE B1
  rintro X ⟨BX, EX, NX⟩
  have KE := hid1 EX
  have KN := hid1 NX
  clear EX
  obtain ⟨n0, n1, n2, n3, n4⟩ := NX
  go_wp2_with fail
  have C1 := ncheck_any (exN B 3) X (exW KE.out)
  rw [(ex_ok B).1, (ex_ok B).2] at C1
  refine C1.mono ?_
  rintro e x1 ⟨rfl, hb⟩
  replace KE := hid1 (KE.out.keep hb)
  replace KN := hid1 (KN.out.keep hb)
  replace BX := bl_step BX hb
  clear hb C1 n0 n1 n2 n3 n4 X
  obtain ⟨n0, n1, n2, n3, n4⟩ := KN.out
  go_wp2_with fail
  refine (nshapes_any (exN B 3) x1 (exW KE.out)).mono ?_
  rintro e x2 ⟨v, rfl, hb, hv⟩
  rw [(ex_ok B).1]
  obtain ⟨g, hg, rfl, RG⟩ := hv.2 (ex_ok B).1
  have hg1 : B + 11 < g := Nat.lt_of_lt_of_le (lt_block KE.out.2.2.2.2) hg
  have hg2 : bn < g := Nat.lt_of_lt_of_le (lt_of_cell n0) hg
  replace KE := hid1 (KE.out.keep hb)
  replace KN := hid1 (KN.out.keep hb)
  replace BX := bl_step BX hb
  have KR := hid1 RG
  clear hb hv RG hg n0 n1 n2 n3 n4 x1
  have n4 : x2.cell? ⟨bn, 4, none⟩ = some (.slice (some ⟨B + 11, 0, none⟩) 3 3) := KN.out.2.2.2.2
  have l44 : x2.cell? ⟨B + 11, 44, none⟩ = some (.slice (some ⟨B + 9, 0, none⟩) 2 2) := bcl KE.out.2.2.2.2 rfl
  have b0 : x2.cell? ⟨B + 9, 0, none⟩ = some (.int .i64 3) := bcl KE.out.2.2.2.1 rfl
  have z0 := bfz KE.out.2.2.2.1 0
  go_upto_region 5 with fail
  have hbB : B + 11 < bn := by omega
  refine gen_world (fun X => Below w.heap.size w X ∧ ExB X B 2147483644 ∧ Nb X bn (exN B 2147483644) ∧ X.rowIs g 25 (3 * 3) (shf (exN B 3) 3)) ⟨by repeat (first | (with_reducible exact Below.refl _ _) | (with_reducible refine bl_alloc ?_ _) | (with_reducible refine Below.drew ?_) | (with_reducible refine bl_drewN ?_ _) | (with_reducible refine bl_set ?_ (by omega) _) | (with_reducible refine bl_step ?_ (by assumption))), KE.out.bias, Nb.of_block KN.out (Below.heap_setCell _ _ _ _ (by show bn ≠ B + 9; omega)), KR.out.setOther (by show g ≠ B + 9; omega) _⟩ ?_
  clear KE KN KR BX n4 l44 b0 z0 x2
  rintro X ⟨BX, EX, NX, RX⟩
  have KE := hid1 EX
  have KR := hid1 RX
  clear EX RX
  obtain ⟨n0, n1, n2, n3, n4⟩ := NX
  go_wp2_with fail
  have C1 := ncheck_any (exN B 2147483644) X (exW KE.out)
  rw [(ex_no B).1, (ex_no B).2] at C1
  refine C1.mono ?_
  rintro e x1 ⟨rfl, hb⟩
  replace KR := hid1 (rowIs_keep KR.out hb)
  replace BX := bl_step BX hb
  clear hb C1 n0 n1 n2 n3 n4 KE X
  go_wp2_with fail
  have C1 := ncheck_any emB5 x1 (emB5W _)
  rw [emB5_no.1, emB5_no.2] at C1
  refine C1.mono ?_
  rintro e x2 ⟨rfl, hb⟩
  replace KR := hid1 (rowIs_keep KR.out hb)
  replace BX := bl_step BX hb
  clear hb C1 x1
  go_upto_region 8 with fail
  obtain ⟨gw, hgw⟩ : ∃ b, x2.heap.size = b := ⟨_, rfl⟩
  refine gen_world (fun X => Below w.heap.size w X ∧ X.rowIs g 25 (3 * 3) (shf (exN B 3) 3) ∧ Lsq X (some ⟨gw, 0, none⟩) 3 exH exH exC) ⟨by repeat (first | (with_reducible exact Below.refl _ _) | (with_reducible refine bl_alloc ?_ _) | (with_reducible refine Below.drew ?_) | (with_reducible refine bl_drewN ?_ _) | (with_reducible refine bl_set ?_ (by omega) _) | (with_reducible refine bl_step ?_ (by assumption))), KR.out.alloc _, fun k hk => ⟨gw, 0, rfl, by
    have hw := new_at hgw (.cells (i64c [3, 3, 1, 2, 2, 1, 1, 1, 2]) 25)
    rcases (show k = 0 ∨ k = 1 ∨ k = 2 by omega) with rfl | rfl | rfl <;> exact ⟨bcl hw rfl, bcl hw rfl, bcl hw rfl⟩⟩⟩ ?_
  clear KR BX
  rintro X ⟨BX, RX, LX⟩
  have CE := eqs_any (some ⟨g, 0, none⟩) (some ⟨gw, 0, none⟩) 3 3 3 3 (by decide) _ _ _ _ _ _ X (row_lsq RX) LX
  rw [sqB_ok rfl (fun k hk => ex_shf B k hk)] at CE
  clear RX LX
  try rw [hgw]
  go_wp2_with fail
  refine CE.mono ?_
  rintro e x3 ⟨rfl, hb⟩
  replace BX := bl_step BX hb
  clear hb CE
  go_wp2_with fail
  go_ret
  exact ⟨rfl, BX⟩
end Go.Proofs.Ytjjahenmhkkaaaa.Nn
/- NETMADE: the walk. -/
namespace Go.Proofs.Ytjjahenmhkkaaaa.Nn
open Go.RowKit

attribute [local go_sem ↓] Go.wp_at_zero Go.wp_at_succ
set_option maxHeartbeats 64000000 in
set_option maxRecDepth 100000 in
theorem netMade_any (ao : Option Addr) (m cap : Nat) (f : Nat → Int) (hm : m ≤ 9223372036854775807) (which : Int) (w : World) (hf : RB w ao m f) :
    Calls Try.prog 4 #[.slice ao m cap, .int .i64 which] w fun e w' => e = .returned (.bool true) ∧ Below w.heap.size w w' := by
  have CM := hid1 (fun W (hW : Below w.heap.size w W) => made5_any ao m cap f hm W (hf.keep hW))
  clear hf
  go_enter Try.func4, Try.ntmps4
  go_wp2_with fail
  refine (nbegun_any _).mono ?_
  rintro e z0 ⟨rfl, hb0⟩
  go_wp2_with fail
  refine (CM.out _ hb0).mono ?_
  rintro e z1 ⟨H, V, C, M, ua, uc, lf, rfl, bH, bV, bC, bM, HMk', own, lo, hb1⟩
  clear CM
  obtain ⟨GL, rfl, -⟩ := own_cellsS own bM.1
  have HMk := hid1 HMk'
  have HZ := hid1 (mk_ok (ua := some ⟨GL, 0, none⟩) (uc := uc) bH bV bC bM HMk')
  clear HMk'
  obtain ⟨g5, hg5⟩ : ∃ g, z1.heap.size = g := ⟨_, rfl⟩
  go_upto_region 4 with fail
  refine gen_world (fun X => X.rowIs g5 28 5 (netF nmX H V C (.slice (some ⟨GL, 0, none⟩) M uc)) ∧ X.ownsRow z0.heap.size 45 15 (.slice (some ⟨GL, 0, none⟩) M uc) M (lyLs lf M) ∧ (∀ j, j < M → Lo X z0.heap.size (lf j) ∧ (lf j).mw ≤ 1000000 ∧ (lf j).mn ≤ 1000000 ∧ (lf j).mb ≤ 1000000) ∧ Below w.heap.size w X) ⟨by rw [← hg5]; exact net_newF z1 nmX H V C (.slice (some ⟨GL, 0, none⟩) M uc) _, own.alloc _, fun j hj => ⟨(lo j hj).1.bl (bl_alloc (Below.refl _ _) _), (lo j hj).2⟩, bl_alloc (bl_step hb0 hb1) _⟩ ?_
  clear own lo hb0 hb1 hg5
  rintro X ⟨RN, RO, LO, BX⟩
  have HNW := hid1 (mk_net (H := H) (V := V) (C := C) ⟨bM.1, by omega⟩ RO LO)
  have HRN := hid1 RN
  have HRO := hid1 RO
  have HLO := hid1 LO
  have CK : Hid (∀ W, Below X.heap.size X W → Calls Try.prog 9 #[ntv (mkN H V C M (some ⟨GL, 0, none⟩) uc lf)] W fun e w' => e = .returned (.tuple #[.int .i64 0, .int .i64 0]) ∧ Below W.heap.size W w') := hid1 (fun W hW => by
    have := ncheck_any (mkN H V C M (some ⟨GL, 0, none⟩) uc lf) W (HNW.out.keep hW)
    rw [HZ.out.1, HZ.out.2] at this
    exact this)
  have CS5 : Hid (∀ W, Below X.heap.size X W → Calls Try.prog 10 #[ntv (mkN H V C M (some ⟨GL, 0, none⟩) uc lf)] W fun e w' => ∃ gS, e = .returned (.tuple #[.slice (some ⟨gS, 0, none⟩) M M, .int .i64 0]) ∧ w'.rowIs gS 25 (M * 3) (shf (mkN H V C M (some ⟨GL, 0, none⟩) uc lf) M) ∧ Below W.heap.size W w') := hid1 (fun W hW => by
    refine (nshapes_any (mkN H V C M (some ⟨GL, 0, none⟩) uc lf) W (HNW.out.keep hW)).mono ?_
    rintro e w' ⟨v, rfl, hb, wk⟩
    obtain ⟨gS, -, rfl, RS⟩ := wk.2 HZ.out.1
    rw [HZ.out.1]
    exact ⟨gS, rfl, RS, hb⟩)
  have a0 : X.cell? ⟨g5, 0, none⟩ = some (.string nmX) := RN.cell (i := 0) (by decide)
  have a1 : X.cell? ⟨g5, 1, none⟩ = some (.int .i64 H) := RN.cell (i := 1) (by decide)
  have a2 : X.cell? ⟨g5, 2, none⟩ = some (.int .i64 V) := RN.cell (i := 2) (by decide)
  have a3 : X.cell? ⟨g5, 3, none⟩ = some (.int .i64 C) := RN.cell (i := 3) (by decide)
  have a4 : X.cell? ⟨g5, 4, none⟩ = some (.slice (some ⟨GL, 0, none⟩) M uc) := RN.cell (i := 4) (by decide)
  clear RN RO LO
  go_wp2_with fail
  refine (CK.out _ (Below.refl _ _)).mono ?_
  rintro e y1 ⟨rfl, h1⟩
  clear a0 a1 a2 a3 a4
  have R1 := World.rowIs.of_block HRN.out (h1.block _ HRN.out.lt)
  have a0 : y1.cell? ⟨g5, 0, none⟩ = some (.string nmX) := R1.cell (i := 0) (by decide)
  have a1 : y1.cell? ⟨g5, 1, none⟩ = some (.int .i64 H) := R1.cell (i := 1) (by decide)
  have a2 : y1.cell? ⟨g5, 2, none⟩ = some (.int .i64 V) := R1.cell (i := 2) (by decide)
  have a3 : y1.cell? ⟨g5, 3, none⟩ = some (.int .i64 C) := R1.cell (i := 3) (by decide)
  have a4 : y1.cell? ⟨g5, 4, none⟩ = some (.slice (some ⟨GL, 0, none⟩) M uc) := R1.cell (i := 4) (by decide)
  clear R1
  go_wp2_with fail
  refine (CS5.out _ h1).mono ?_
  rintro e y2 ⟨gS, rfl, RS, h2⟩
  clear a0 a1 a2 a3 a4
  have B2 := bl_step h1 h2
  have R2 := World.rowIs.of_block HRN.out (B2.block _ HRN.out.lt)
  have a0 : y2.cell? ⟨g5, 0, none⟩ = some (.string nmX) := R2.cell (i := 0) (by decide)
  have a1 : y2.cell? ⟨g5, 1, none⟩ = some (.int .i64 H) := R2.cell (i := 1) (by decide)
  have a2 : y2.cell? ⟨g5, 2, none⟩ = some (.int .i64 V) := R2.cell (i := 2) (by decide)
  have a3 : y2.cell? ⟨g5, 3, none⟩ = some (.int .i64 C) := R2.cell (i := 3) (by decide)
  have a4 : y2.cell? ⟨g5, 4, none⟩ = some (.slice (some ⟨GL, 0, none⟩) M uc) := R2.cell (i := 4) (by decide)
  have HR2 := hid1 R2
  have HRS := hid1 RS
  have BY2 := bl_step BX B2
  have HY2 := hid1 BY2
  have HB2 := hid1 B2
  clear R2 RS h1 h2 CK CS5 BX
  go_upto_region 8 with fail
  obtain ⟨g10, hg10⟩ : ∃ g, y2.heap.size = g := ⟨_, rfl⟩
  go_upto_block 0 with fail
  refine gen_world (fun Y => Y.rowIs g10 25 3 (shF H V C) ∧ Below y2.heap.size y2 Y) ⟨by rw [← hg10]; exact sh_newF y2 H V C _, bl_alloc (Below.refl _ _) _⟩ ?_
  clear a0 a1 a2 a3 a4
  rintro Y ⟨RS10, BY⟩
  refine nm_loop _ _ _ _ _ _ _ _ _ _ _ _ _ _ _ _ _ _ _ _ _ _ _ _ _ _ _ _ _ _ _ _ _ _ _ _ _ _ _ _ _ _ _ _ _ _ _ _ _ _ _ _ _ _ _ _ _ _ _ _ _ _ _ _ _ _ _ _ _ _ _ _ _ _ _ _ _ _ _ _ _ _ _ _ _ _ _ _ _ _ _ _ _ _ _ _ _ _ _ _ _ _ _ _ _ _ _ _ _ _ _ _ _ _ _ _ _ _ _ _ _ _ _ _ _ _ _ _ _ _ _ _ _ _ _ _ _ _ _ _ _ _ _ _ _ _ _ _ _ _ _ _ _ _ _ _ _ _ _ _ _ _ _ _ _ _ _ _ _ _ _ _ _ _ _ _ _ _ _ _ _ _ _ _ _ _ _ _ _ _ _ _ _ _ _ _ _ _ _ _ _ _ _ _ _ _ _ _ _ H V C M GL uc gS g5 g10 z0.heap.size lf y2 Y _ HMk (hid1 HZ.out.1) bM HR2 (hid1 (own_bl HRO.out HB2.out)) HRS (by omega) BY (hid1 RS10) (hid1 ?_)
  intro X2 v4 v11 v12 v50 v51 v52 v53 v54 v55 v56 v57 v58 v59 v60 v61 v62 v63 v64 v65 v66 v67 v68 v69 v70 v71 v72 v73 v74 v75 v76 v77 v78 v79 v80 v81 v82 v83 v84 BX2
  clear RS10 BY hg10
  have BW2 := bl_step HY2.out BX2
  have HW2 := hid1 BW2
  have HN2 : Hid (NtW X2 (mkN H V C M (some ⟨GL, 0, none⟩) uc lf)) := hid1 (HNW.out.keep (bl_step HB2.out BX2))
  have R3 := World.rowIs.of_block HR2.out (BX2.block _ HR2.out.lt)
  have HR3 := hid1 R3
  have a0 : X2.cell? ⟨g5, 0, none⟩ = some (.string nmX) := R3.cell (i := 0) (by decide)
  have a1 : X2.cell? ⟨g5, 1, none⟩ = some (.int .i64 H) := R3.cell (i := 1) (by decide)
  have a2 : X2.cell? ⟨g5, 2, none⟩ = some (.int .i64 V) := R3.cell (i := 2) (by decide)
  have a3 : X2.cell? ⟨g5, 3, none⟩ = some (.int .i64 C) := R3.cell (i := 3) (by decide)
  have a4 : X2.cell? ⟨g5, 4, none⟩ = some (.slice (some ⟨GL, 0, none⟩) M uc) := R3.cell (i := 4) (by decide)
  clear R3 BX2 BW2 BY2 B2
  have HLB : Hid (∀ j, j < M → (lf j).mw ≤ 140737488355328 ∧ (lf j).mn * 64 ≤ 140737488355328 ∧ (lf j).mb * 8 ≤ 140737488355328) := hid1 (fun j hj => by have := (HLO.out j hj).2; omega)
  have HLK : Hid (∀ j, j < M → (lf j).mw ≤ 1000000 ∧ (lf j).mn ≤ 1000000 ∧ (lf j).mb ≤ 1000000) := hid1 (fun j hj => (HLO.out j hj).2)
  have CC := hid1 (nclone_pos (mkN H V C M (some ⟨GL, 0, none⟩) uc lf) X2 HN2.out bM.1 (by show M * 168 ≤ _; omega) HLB.out)
  clear HLO HLB HRO HRN HNW HRS HMk HR2 HB2 HY2
  go_wp2_with fail
  refine CC.out.mono ?_
  rintro e y3 ⟨ua2, uc2, cf, rfl, CN, h3⟩
  clear CC
  obtain ⟨GC, rfl, -⟩ := own_cellsS CN.1 bM.1
  obtain ⟨g13, hg13⟩ : ∃ g, y3.heap.size = g := ⟨_, rfl⟩
  have HDI := hid1 CN.2.2
  have HCP : Hid (∀ j, j < M → lyE (cf j) (lf j) ∧ lyE (lf j) (cf j)) := hid1 (fun j hj => by
    obtain ⟨-, a1, c1, a2, c2, a3, c3, e⟩ := CN.2.1 j hj
    rw [e]
    exact cpy_lyE _ _ _ _ _ _ _)
  have HFC : Hid (∀ j, j < M → (cf j).mw = (lf j).mw ∧ (cf j).mn = (lf j).mn ∧ (cf j).mb = (lf j).mb ∧ (cf j).ws = (lf j).ws ∧ (cf j).bs = (lf j).bs ∧ (cf j).k = (lf j).k) := hid1 (fun j hj => by
    obtain ⟨-, a1, c1, a2, c2, a3, c3, e⟩ := CN.2.1 j hj
    rw [e]
    exact ⟨rfl, rfl, rfl, rfl, rfl, rfl⟩)
  go_upto_region 19 with fail
  refine gen_world (fun Y => Cm Y X2.heap.size g13 nmX H V C M (some ⟨GC, 0, none⟩) uc2 cf ∧ Below X2.heap.size X2 Y) ⟨⟨by rw [← hg13]; exact net_newF y3 nmX H V C (.slice (some ⟨GC, 0, none⟩) M uc2) _, CN.1.alloc _, fun j hj => ⟨(CN.2.1 j hj).1.bl (bl_alloc (Below.refl _ _) _), by obtain ⟨q1, q2, q3, -⟩ := HFC.out j hj; rw [q1, q2, q3]; exact HLK.out j hj⟩, by rw [← hg13]; exact h3.size⟩, bl_alloc h3 _⟩ ?_
  clear CN h3 hg13 a0 a1 a2 a3 a4 HLK
  rintro Y ⟨CMY, BY⟩
  have HCM := hid1 CMY
  have HBY := hid1 BY
  have CE : Hid (∀ W, Below Y.heap.size Y W → Calls Try.prog 13 #[ntv ⟨nmX, H, V, C, some ⟨GC, 0, none⟩, M, uc2, cf⟩, ntv (mkN H V C M (some ⟨GL, 0, none⟩) uc lf)] W fun e w' => e = .returned (.bool true) ∧ Below W.heap.size W w') := hid1 (fun W hW => by
    have := nEq_any ⟨nmX, H, V, C, some ⟨GC, 0, none⟩, M, uc2, cf⟩ (mkN H V C M (some ⟨GL, 0, none⟩) uc lf) W ((HCM.out.net (by decide) (by omega)).keep hW) (HN2.out.keep (bl_step HBY.out hW))
    rw [decide_eq_true (show ntE ⟨nmX, H, V, C, some ⟨GC, 0, none⟩, M, uc2, cf⟩ (mkN H V C M (some ⟨GL, 0, none⟩) uc lf) from ⟨rfl, ⟨rfl, rfl, rfl⟩, rfl, fun j hj => (HCP.out j hj).1⟩)] at this
    exact this)
  have CF : Hid (∀ W, Below Y.heap.size Y W → Calls Try.prog 13 #[ntv (mkN H V C M (some ⟨GL, 0, none⟩) uc lf), ntv ⟨nmX, H, V, C, some ⟨GC, 0, none⟩, M, uc2, cf⟩] W fun e w' => e = .returned (.bool true) ∧ Below W.heap.size W w') := hid1 (fun W hW => by
    have := nEq_any (mkN H V C M (some ⟨GL, 0, none⟩) uc lf) ⟨nmX, H, V, C, some ⟨GC, 0, none⟩, M, uc2, cf⟩ W (HN2.out.keep (bl_step HBY.out hW)) ((HCM.out.net (by decide) (by omega)).keep hW)
    rw [decide_eq_true (show ntE (mkN H V C M (some ⟨GL, 0, none⟩) uc lf) ⟨nmX, H, V, C, some ⟨GC, 0, none⟩, M, uc2, cf⟩ from ⟨rfl, ⟨rfl, rfl, rfl⟩, rfl, fun j hj => (HCP.out j hj).2⟩)] at this
    exact this)
  have R5 := World.rowIs.of_block HR3.out (BY.block _ HR3.out.lt)
  have a0 : Y.cell? ⟨g5, 0, none⟩ = some (.string nmX) := R5.cell (i := 0) (by decide)
  have a1 : Y.cell? ⟨g5, 1, none⟩ = some (.int .i64 H) := R5.cell (i := 1) (by decide)
  have a2 : Y.cell? ⟨g5, 2, none⟩ = some (.int .i64 V) := R5.cell (i := 2) (by decide)
  have a3 : Y.cell? ⟨g5, 3, none⟩ = some (.int .i64 C) := R5.cell (i := 3) (by decide)
  have a4 : Y.cell? ⟨g5, 4, none⟩ = some (.slice (some ⟨GL, 0, none⟩) M uc) := R5.cell (i := 4) (by decide)
  have b0 : Y.cell? ⟨g13, 0, none⟩ = some (.string nmX) := CMY.1.cell (i := 0) (by decide)
  have b1 : Y.cell? ⟨g13, 1, none⟩ = some (.int .i64 H) := CMY.1.cell (i := 1) (by decide)
  have b2 : Y.cell? ⟨g13, 2, none⟩ = some (.int .i64 V) := CMY.1.cell (i := 2) (by decide)
  have b3 : Y.cell? ⟨g13, 3, none⟩ = some (.int .i64 C) := CMY.1.cell (i := 3) (by decide)
  have b4 : Y.cell? ⟨g13, 4, none⟩ = some (.slice (some ⟨GC, 0, none⟩) M uc2) := CMY.1.cell (i := 4) (by decide)
  have HR5 := hid1 R5
  clear R5 CMY
  go_wp2_with fail
  refine (CE.out _ (Below.refl _ _)).mono ?_
  rintro e y4 ⟨rfl, h4⟩
  clear a0 a1 a2 a3 a4 b0 b1 b2 b3 b4
  have R5 := World.rowIs.of_block HR5.out (h4.block _ HR5.out.lt)
  have C4 := HCM.out.keep h4
  have a0 : y4.cell? ⟨g5, 0, none⟩ = some (.string nmX) := R5.cell (i := 0) (by decide)
  have a1 : y4.cell? ⟨g5, 1, none⟩ = some (.int .i64 H) := R5.cell (i := 1) (by decide)
  have a2 : y4.cell? ⟨g5, 2, none⟩ = some (.int .i64 V) := R5.cell (i := 2) (by decide)
  have a3 : y4.cell? ⟨g5, 3, none⟩ = some (.int .i64 C) := R5.cell (i := 3) (by decide)
  have a4 : y4.cell? ⟨g5, 4, none⟩ = some (.slice (some ⟨GL, 0, none⟩) M uc) := R5.cell (i := 4) (by decide)
  have b0 : y4.cell? ⟨g13, 0, none⟩ = some (.string nmX) := C4.1.cell (i := 0) (by decide)
  have b1 : y4.cell? ⟨g13, 1, none⟩ = some (.int .i64 H) := C4.1.cell (i := 1) (by decide)
  have b2 : y4.cell? ⟨g13, 2, none⟩ = some (.int .i64 V) := C4.1.cell (i := 2) (by decide)
  have b3 : y4.cell? ⟨g13, 3, none⟩ = some (.int .i64 C) := C4.1.cell (i := 3) (by decide)
  have b4 : y4.cell? ⟨g13, 4, none⟩ = some (.slice (some ⟨GC, 0, none⟩) M uc2) := C4.1.cell (i := 4) (by decide)
  have HR6 := hid1 R5
  have HC4 := hid1 C4
  clear R5 C4
  go_wp2_with fail
  refine (CF.out _ h4).mono ?_
  rintro e y5 ⟨rfl, h5⟩
  clear a0 a1 a2 a3 a4 b0 b1 b2 b3 b4
  have HY5 := hid1 (bl_step BY (bl_step h4 h5))
  have R5 := World.rowIs.of_block HR6.out (h5.block _ HR6.out.lt)
  have C5 := HC4.out.keep h5
  have a4 : y5.cell? ⟨g5, 4, none⟩ = some (.slice (some ⟨GL, 0, none⟩) M uc) := R5.cell (i := 4) (by decide)
  have b4 : y5.cell? ⟨g13, 4, none⟩ = some (.slice (some ⟨GC, 0, none⟩) M uc2) := C5.1.cell (i := 4) (by decide)
  have HC5 := hid1 C5
  obtain ⟨kk, hkk⟩ : ∃ kk, M = kk + 1 := ⟨M - 1, by omega⟩
  have HKK := hid1 hkk
  have HFA := hid1 (nm_facts HZ.out.1 hkk)
  have wK : IntKind.i64.wrap ((M : Int) - 1) = (kk : Int) := by rw [IntKind.wrap_i64]; omega
  have ik0 : (0 : Int) ≤ (kk : Int) := by omega
  have ik : (kk : Int) < (M : Int) := by omega
  have l12 : y5.cell? ⟨GC, kk * 15 + 12, none⟩ = some (.slice (cf kk).aw (cf kk).mw (cf kk).cw) := ls_cell C5.2.1 (by omega) (by decide)
  have l14 : y5.cell? ⟨GC, kk * 15 + 14, none⟩ = some (.slice (cf kk).ab (cf kk).mb (cf kk).cb) := ls_cell C5.2.1 (by omega) (by decide)
  have HSW : Hid (Sw y5 X2 g13 H V C M GC uc2 kk cf lf) := hid1 (by
    obtain ⟨f1, f2, f3, f4, f5⟩ := HFA.out
    obtain ⟨q1, q2, q3, q4, q5, q6⟩ := HFC.out kk (by omega)
    obtain ⟨-, -, -, -, -, p6⟩ := HFC.out 0 (by omega)
    refine ⟨HC5.out, HDI.out, fun j hj => (HCP.out j hj).1, HY5.out, hkk, by omega, bC, by rw [q1]; exact f1, by rw [q3]; exact f2, by rw [q4]; exact f3, by rw [q5]; exact f4, by rw [p6]; exact f5⟩)
  have em : (((cf kk).mw : Int) == 0) = false := by have := HSW.out.2.2.2.2.2.2.2.1; simp; omega
  have eb : (((cf kk).mb : Int) == 0) = false := by have := HSW.out.2.2.2.2.2.2.2.2.1; simp; omega
  clear C5 R5 h4 h5 CE CF HFA HFC HCP HDI hkk BY HBY HCM HC4 HR5 HR6
  go_upto_region 24 with fail
  clear a4 b4 l12 l14 em eb wK
  go_upto_block 2 with fail
  generalize which.tmod 6 = t
  go_cut [] from 130 to 189 (fun wx => Hid (Sx wx X2 g13 H V (mkN H V C M (some ⟨GL, 0, none⟩) uc lf)))
  case first =>
    by_cases t0 : t = 0
    · subst t0
      refine nm_s0 _ _ _ _ _ _ _ _ _ _ _ _ _ _ _ _ _ _ _ _ _ _ _ _ _ _ _ _ _ _ _ _ _ _ _ _ _ _ _ _ _ _ _ _ _ _ _ _ _ _ _ _ _ _ _ _ _ _ _ _ _ _ _ _ _ _ _ _ _ _ _ _ _ _ _ _ _ _ _ _ _ _ _ _ _ _ _ _ _ _ _ _ _ _ _ _ _ _ _ _ _ _ _ _ _ _ _ _ _ _ _ _ _ _ _ _ _ _ _ _ _ _ _ _ _ _ _ _ _ _ _ _ _ _ _ _ _ _ _ _ _ _ _ _ _ _ _ _ _ _ _ _ _ _ _ _ _ _ _ _ _ _ _ _ _ _ _ _ _ _ _ _ _ _ _ _ _ _ _ _ _ _ _ _ _ _ _ _ _ _ _ _ _ _ _ _ _ _ _ _ _ _ _ _ _ _ _ _ _ _ H V C M GC uc2 g13 kk cf lf (some ⟨GL, 0, none⟩) uc X2 y5 _ HSW (hid1 ?_)
      intro X9 v130 v131 v132 v133 v134 v135 v136 v137 v138 v139 v140 v141 v142 v143 v144 v145 v146 v147 v148 v149 v150 v151 v152 v153 v154 v155 v156 v157 v158 v159 v160 v161 v162 v163 v164 v165 v166 v167 v168 v169 v170 v171 v172 v173 v174 v175 v176 v177 v178 v179 v180 v181 v182 v183 v184 v185 v186 v187 v188 v189 hX
      refine kmeet_p (by assumption) ?_
      go_meet
      exact hid1 hX
    · by_cases t1 : t = 1
      · subst t1
        clear t0
        refine nm_s1 _ _ _ _ _ _ _ _ _ _ _ _ _ _ _ _ _ _ _ _ _ _ _ _ _ _ _ _ _ _ _ _ _ _ _ _ _ _ _ _ _ _ _ _ _ _ _ _ _ _ _ _ _ _ _ _ _ _ _ _ _ _ _ _ _ _ _ _ _ _ _ _ _ _ _ _ _ _ _ _ _ _ _ _ _ _ _ _ _ _ _ _ _ _ _ _ _ _ _ _ _ _ _ _ _ _ _ _ _ _ _ _ _ _ _ _ _ _ _ _ _ _ _ _ _ _ _ _ _ _ _ _ _ _ _ _ _ _ _ _ _ _ _ _ _ _ _ _ _ _ _ _ _ _ _ _ _ _ _ _ _ _ _ _ _ _ _ _ _ _ _ _ _ _ _ _ _ _ _ _ _ _ _ _ _ _ _ _ _ _ _ _ _ _ _ _ _ _ _ _ _ _ _ _ _ _ _ _ _ _ H V C M GC uc2 g13 kk cf lf (some ⟨GL, 0, none⟩) uc X2 y5 _ HSW (hid1 ?_)
        intro X9 v130 v131 v132 v133 v134 v135 v136 v137 v138 v139 v140 v141 v142 v143 v144 v145 v146 v147 v148 v149 v150 v151 v152 v153 v154 v155 v156 v157 v158 v159 v160 v161 v162 v163 v164 v165 v166 v167 v168 v169 v170 v171 v172 v173 v174 v175 v176 v177 v178 v179 v180 v181 v182 v183 v184 v185 v186 v187 v188 v189 hX
        refine kmeet_p (by assumption) ?_
        go_meet
        exact hid1 hX
      · by_cases t2 : t = 2
        · subst t2
          clear t0 t1
          refine nm_s2 _ _ _ _ _ _ _ _ _ _ _ _ _ _ _ _ _ _ _ _ _ _ _ _ _ _ _ _ _ _ _ _ _ _ _ _ _ _ _ _ _ _ _ _ _ _ _ _ _ _ _ _ _ _ _ _ _ _ _ _ _ _ _ _ _ _ _ _ _ _ _ _ _ _ _ _ _ _ _ _ _ _ _ _ _ _ _ _ _ _ _ _ _ _ _ _ _ _ _ _ _ _ _ _ _ _ _ _ _ _ _ _ _ _ _ _ _ _ _ _ _ _ _ _ _ _ _ _ _ _ _ _ _ _ _ _ _ _ _ _ _ _ _ _ _ _ _ _ _ _ _ _ _ _ _ _ _ _ _ _ _ _ _ _ _ _ _ _ _ _ _ _ _ _ _ _ _ _ _ _ _ _ _ _ _ _ _ _ _ _ _ _ _ _ _ _ _ _ _ _ _ _ _ _ _ _ _ _ _ _ H V C M GC uc2 g13 kk cf lf (some ⟨GL, 0, none⟩) uc X2 y5 _ HSW (hid1 ?_)
          intro X9 v130 v131 v132 v133 v134 v135 v136 v137 v138 v139 v140 v141 v142 v143 v144 v145 v146 v147 v148 v149 v150 v151 v152 v153 v154 v155 v156 v157 v158 v159 v160 v161 v162 v163 v164 v165 v166 v167 v168 v169 v170 v171 v172 v173 v174 v175 v176 v177 v178 v179 v180 v181 v182 v183 v184 v185 v186 v187 v188 v189 hX
          refine kmeet_p (by assumption) ?_
          go_meet
          exact hid1 hX
        · by_cases t3 : t = 3
          · subst t3
            clear t0 t1 t2
            refine nm_s3 _ _ _ _ _ _ _ _ _ _ _ _ _ _ _ _ _ _ _ _ _ _ _ _ _ _ _ _ _ _ _ _ _ _ _ _ _ _ _ _ _ _ _ _ _ _ _ _ _ _ _ _ _ _ _ _ _ _ _ _ _ _ _ _ _ _ _ _ _ _ _ _ _ _ _ _ _ _ _ _ _ _ _ _ _ _ _ _ _ _ _ _ _ _ _ _ _ _ _ _ _ _ _ _ _ _ _ _ _ _ _ _ _ _ _ _ _ _ _ _ _ _ _ _ _ _ _ _ _ _ _ _ _ _ _ _ _ _ _ _ _ _ _ _ _ _ _ _ _ _ _ _ _ _ _ _ _ _ _ _ _ _ _ _ _ _ _ _ _ _ _ _ _ _ _ _ _ _ _ _ _ _ _ _ _ _ _ _ _ _ _ _ _ _ _ _ _ _ _ _ _ _ _ _ _ _ _ _ _ _ H V C M GC uc2 g13 kk cf lf (some ⟨GL, 0, none⟩) uc X2 y5 _ HSW (hid1 ?_)
            intro X9 v130 v131 v132 v133 v134 v135 v136 v137 v138 v139 v140 v141 v142 v143 v144 v145 v146 v147 v148 v149 v150 v151 v152 v153 v154 v155 v156 v157 v158 v159 v160 v161 v162 v163 v164 v165 v166 v167 v168 v169 v170 v171 v172 v173 v174 v175 v176 v177 v178 v179 v180 v181 v182 v183 v184 v185 v186 v187 v188 v189 hX
            refine kmeet_p (by assumption) ?_
            go_meet
            exact hid1 hX
          · by_cases t4 : t = 4
            · subst t4
              clear t0 t1 t2 t3
              refine nm_s4 _ _ _ _ _ _ _ _ _ _ _ _ _ _ _ _ _ _ _ _ _ _ _ _ _ _ _ _ _ _ _ _ _ _ _ _ _ _ _ _ _ _ _ _ _ _ _ _ _ _ _ _ _ _ _ _ _ _ _ _ _ _ _ _ _ _ _ _ _ _ _ _ _ _ _ _ _ _ _ _ _ _ _ _ _ _ _ _ _ _ _ _ _ _ _ _ _ _ _ _ _ _ _ _ _ _ _ _ _ _ _ _ _ _ _ _ _ _ _ _ _ _ _ _ _ _ _ _ _ _ _ _ _ _ _ _ _ _ _ _ _ _ _ _ _ _ _ _ _ _ _ _ _ _ _ _ _ _ _ _ _ _ _ _ _ _ _ _ _ _ _ _ _ _ _ _ _ _ _ _ _ _ _ _ _ _ _ _ _ _ _ _ _ _ _ _ _ _ _ _ _ _ _ _ _ _ _ _ _ _ H V C M GC uc2 g13 kk cf lf (some ⟨GL, 0, none⟩) uc X2 y5 _ HSW (hid1 ?_)
              intro X9 v130 v131 v132 v133 v134 v135 v136 v137 v138 v139 v140 v141 v142 v143 v144 v145 v146 v147 v148 v149 v150 v151 v152 v153 v154 v155 v156 v157 v158 v159 v160 v161 v162 v163 v164 v165 v166 v167 v168 v169 v170 v171 v172 v173 v174 v175 v176 v177 v178 v179 v180 v181 v182 v183 v184 v185 v186 v187 v188 v189 hX
              refine kmeet_p (by assumption) ?_
              go_meet
              exact hid1 hX
            · refine nm_s5 _ _ _ _ _ _ _ _ _ _ _ _ _ _ _ _ _ _ _ _ _ _ _ _ _ _ _ _ _ _ _ _ _ _ _ _ _ _ _ _ _ _ _ _ _ _ _ _ _ _ _ _ _ _ _ _ _ _ _ _ _ _ _ _ _ _ _ _ _ _ _ _ _ _ _ _ _ _ _ _ _ _ _ _ _ _ _ _ _ _ _ _ _ _ _ _ _ _ _ _ _ _ _ _ _ _ _ _ _ _ _ _ _ _ _ _ _ _ _ _ _ _ _ _ _ _ _ _ _ _ _ _ _ _ _ _ _ _ _ _ _ _ _ _ _ _ _ _ _ _ _ _ _ _ _ _ _ _ _ _ _ _ _ _ _ _ _ _ _ _ _ _ _ _ _ _ _ _ _ _ _ _ _ _ _ _ _ _ _ _ _ _ _ _ _ _ _ _ _ _ _ _ _ _ _ _ _ _ _ _ H V C M GC uc2 g13 kk cf lf (some ⟨GL, 0, none⟩) uc X2 y5 t _ HSW (by simpa using t0) (by simpa using t1) (by simpa using t2) (by simpa using t3) (by simpa using t4) (hid1 ?_)
              intro X9 v130 v131 v132 v133 v134 v135 v136 v137 v138 v139 v140 v141 v142 v143 v144 v145 v146 v147 v148 v149 v150 v151 v152 v153 v154 v155 v156 v157 v158 v159 v160 v161 v162 v163 v164 v165 v166 v167 v168 v169 v170 v171 v172 v173 v174 v175 v176 v177 v178 v179 v180 v181 v182 v183 v184 v185 v186 v187 v188 v189 hX
              refine kmeet_p (by assumption) ?_
              go_meet
              exact hid1 hX
  case rest =>
    refine kgo (by assumption) ?_
    refine nm_tail _ _ _ _ _ _ _ _ _ _ _ _ _ _ _ _ _ _ _ _ _ _ _ _ _ _ _ _ _ _ _ _ _ _ _ _ _ _ _ _ _ _ _ _ _ _ _ _ _ _ _ _ _ _ _ _ _ _ _ _ _ _ _ _ _ _ _ _ _ _ _ _ _ _ _ _ _ _ _ _ _ _ _ _ _ _ _ _ _ _ _ _ _ _ _ _ _ _ _ _ _ _ _ _ _ _ _ _ _ _ _ _ _ _ _ _ _ _ _ _ _ _ _ _ _ _ _ _ _ _ _ _ _ _ _ _ _ _ _ _ _ _ _ _ _ _ _ _ _ _ _ _ _ _ _ _ _ _ _ _ _ _ _ _ _ _ _ _ _ _ _ _ _ _ _ _ _ _ _ _ _ _ _ _ _ _ _ _ _ _ _ _ _ _ _ _ _ _ _ _ _ _ _ _ _ _ _ _ _ _ _ H V C M uc g5 g13 (some ⟨GL, 0, none⟩) lf X2 wc _ HZ HN2 HR3 hcut (hid1 ?_)
    intro X9 v7 v15 v190 v191 v192 v193 v194 v195 v196 v197 v198 v199 v200 v201 v202 v203 v204 v205 v206 v207 v208 v209 v210 v211 v212 B9
    go_ret
    exact ⟨rfl, bl_step HW2.out B9⟩
end Go.Proofs.Ytjjahenmhkkaaaa.Nn
namespace Go.Proofs.Ytjjahenmhkkaaaa
open Go.ChangeShapes Go.WideShapes Go.ChangeAt Go.RowKit

set_option maxRecDepth 100000 in
theorem netMade_lifted (os : Os) (started : os.Started) (H : Type) (enc : TypeId × Value → H) :
    ReturnsInHanded {} Try.checked os 4 .any (Rows.netMadeSpec.pre6 enc Try.prog Try.f4 Rows.netMadeRow.domain false) (Rows.netMadeSpec.post enc Try.prog Try.f4 false true false false) := by
  refine returnsInHanded_of_change_sized (C := Try.checked) own started (by kernel_rfl) Try.func4
    (ChangeSpec.witness6 (enc := enc) (C := Try.checked) false ⟨#[], #[.slice none 0 0, .int .i64 0], []⟩ 8 (by kernel_rfl) (by kernel_rfl) (by kernel_rfl) (by kernel_rfl)) ?_
  intro W base args ds gs before hval0 hW _ _ _
  have hval : ∀ (j : Nat) t v, Try.f4.params[j]? = some t → args[j]? = some v → Value.okWide Try.prog W .any base t v := hval0
  have hW' := hW
  obtain ⟨p, q, hA0, hV, rfl, hfz, hnd⟩ := hW
  have hA : DataW.TrodAll enc Try.prog W 0 (fun _ => true) true Try.f4.params.toList args.toList ds p := hA0
  rw [Try.params4] at hA hval
  obtain ⟨v0, vs0, d0, ds0, p0, q0, hargs, rfl, rfl, h0, r0⟩ := trodAll_cons hA
  obtain ⟨v1, vs1, d1, ds1, p1, q1, rfl, rfl, rfl, h1, r1⟩ := trodAll_cons r0
  obtain ⟨rfl, rfl, rfl⟩ := trodAll_nil r1
  obtain rfl : args = #[v0, v1] := by cases args; simp_all
  obtain ⟨rfl, rfl⟩ := trodVars_none hV
  have lt0 : ∀ x ∈ p0, x.block < W.heap.size := by obtain ⟨m, hm⟩ := h0; exact DataW.trod_lt m _ _ _ hm
  have k0 := h0
  have lt1 : ∀ x ∈ p1, x.block < W.heap.size := by obtain ⟨m, hm⟩ := h1; exact DataW.trod_lt m _ _ _ hm
  have k1 := h1
  obtain ⟨ao0, m0, c0, fn0, rfl, hm0, hc0, f0⟩ := open_u8s (hval 0 22 v0 rfl rfl) h0
  obtain ⟨x1, rfl, rfl, rfl, w1⟩ := open_int Try.underlying3 (hval 1 3 v1 rfl rfl) h1
  clear hA0 hval0
  refine (Nn.netMade_any ao0 m0 c0 fn0 (by omega) x1 W (fun k hk => by obtain ⟨h, g, o, e, c⟩ := f0 k hk; exact ⟨g, o, e, c, h.1, h.2⟩)).mono fun e W' ⟨he, bel⟩ => ?_
  subst he
  exact ⟨_, rfl, _, _, _, [], _, [], hW', trodAll_mk1 (shut_bool Try.underlying4 _), (trodAll_cons_mk (Below.trod laidOut (by kernel_rfl) (of_decide_eq_true (by kernel_rfl)) k0 bel lt0) (trodAll_cons_mk (Below.trod laidOut (by kernel_rfl) (of_decide_eq_true (by kernel_rfl)) k1 bel lt1) trodAll_mk0)), rfl, bel.frame _, fun h => by cases h⟩

theorem netMade_holds : Rows.NetMadeSaid :=
  OpenClaim.holds_of_wide 4 Try.f4 rfl rfl rfl rfl rfl rfl rfl ⟨rfl, rfl, rfl, rfl, rfl⟩ rfl rfl rfl rfl rfl (by kernel_rfl) Try.func4 (by kernel_rfl)
    (of_decide_eq_true (by kernel_rfl)) (by unfold Func.isWrapper; first | (rw [if_pos (by decide +kernel)]; kernel_rfl) | (rw [if_neg (by decide +kernel)]; exact ⟨rfl, rfl⟩))
    (fun os started H enc _ => netMade_lifted os started H enc)
#print axioms netMade_holds
end Go.Proofs.Ytjjahenmhkkaaaa
