import Derived.Test.YtjjahenmhkkaaaaQCBoundHolds
import Derived.Deep.RegionHeld3
/- NETWORKS THAT ARE MADE: the walk's pieces: a window and a layer begun. -/
namespace Go.Proofs.Ytjjahenmhkkaaaa.Nn
open Go.RowKit

/-- The code from region n on, within its sequence; a block by its number. -/
def isReg (n : Nat) : Code → Bool
  | .region id _ _ => id == n
  | _ => false
def isBlk (n : Nat) : Code → Bool
  | .block id _ => id == n
  | _ => false
def fromP (p : Code → Bool) : Code → Option Code
  | .region id ops b => if p (.region id ops b) then some (.region id ops b) else none
  | .seq a b => if p a then some (.seq a b) else match fromP p a with
    | some c => some c
    | none => fromP p b
  | .block _ c => fromP p c
  | .scope c => fromP p c
  | .loop c => fromP p c
  | .cond _ a b => match fromP p a with
    | some c => some c
    | none => fromP p b
  | _ => none
theorem kgo {P : Program} {c : Code} {Q : Exit → Act → World → Prop} {K : Act → World → Prop} {a : Act} {w : World} (h : ∀ a w, c.wp P Q a w → K a w) (h2 : c.wp P Q a w) : K a w := h _ _ h2
def blockOf (n : Nat) : Code → Option Code
  | .seq a b => match blockOf n a with
    | some c => some c
    | none => blockOf n b
  | .block id c => if id = n then some (.block id c) else blockOf n c
  | .scope c => blockOf n c
  | .loop c => blockOf n c
  | .cond _ a b => match blockOf n a with
    | some c => some c
    | none => blockOf n b
  | _ => none
/-- What pick answers, wherever nothing old has turned. -/
abbrev PkC (w : World) (v : Value) (i n y : Int) : Prop := ∀ W, Below w.heap.size w W → Calls Try.prog 20 #[v, .int .i64 i, .int .i64 n] W fun e w' => e = .returned (.int .i64 y) ∧ w' = W
theorem meet_ofD {J K : Act → World → Prop} {Q : Exit → Act → World → Prop} {a : Act} {w : World} (hK : ∀ a' w', Met J a' w' → K a' w') (h : Met J a w) : Exit.then K Q Exit.normal a w := hK _ _ h
theorem kpD8 {V Y : World} {b : Nat} {h v : Int} (h0 : V.cell? ⟨b, 0, none⟩ = some (.int .i64 h)) (h1 : V.cell? ⟨b, 1, none⟩ = some (.int .i64 v)) (hb : Below V.heap.size V Y) : Y.cell? ⟨b, 0, none⟩ = some (.int .i64 h) ∧ Y.cell? ⟨b, 1, none⟩ = some (.int .i64 v) := ⟨keepc hb h0, keepc hb h1⟩
theorem kpD9 {V Y : World} {b : Nat} {r s y x : Int} (h0 : V.cell? ⟨b, 0, none⟩ = some (.int .i64 r)) (h1 : V.cell? ⟨b, 1, none⟩ = some (.int .i64 s)) (h2 : V.cell? ⟨b, 2, none⟩ = some (.int .i64 y)) (h3 : V.cell? ⟨b, 3, none⟩ = some (.int .i64 x)) (h4 : V.cell? ⟨b, 4, none⟩ = some (.int .i64 0)) (h5 : V.cell? ⟨b, 5, none⟩ = some (.int .i64 0)) (h6 : V.cell? ⟨b, 6, none⟩ = some (.int .i64 0)) (h7 : V.cell? ⟨b, 7, none⟩ = some (.int .i64 0)) (hb : Below V.heap.size V Y) :
    Y.cell? ⟨b, 0, none⟩ = some (.int .i64 r) ∧ Y.cell? ⟨b, 1, none⟩ = some (.int .i64 s) ∧ Y.cell? ⟨b, 2, none⟩ = some (.int .i64 y) ∧ Y.cell? ⟨b, 3, none⟩ = some (.int .i64 x) ∧ Y.cell? ⟨b, 4, none⟩ = some (.int .i64 0) ∧ Y.cell? ⟨b, 5, none⟩ = some (.int .i64 0) ∧ Y.cell? ⟨b, 6, none⟩ = some (.int .i64 0) ∧ Y.cell? ⟨b, 7, none⟩ = some (.int .i64 0) := ⟨keepc hb h0, keepc hb h1, keepc hb h2, keepc hb h3, keepc hb h4, keepc hb h5, keepc hb h6, keepc hb h7⟩
noncomputable def cd8 : Code := (Try.f7.body.bind (regionOf 8)).getD .skip
noncomputable def cd9 : Code := (Try.f7.body.bind (regionOf 9)).getD .skip
attribute [local go_sem ↓] Go.wp_at_zero Go.wp_at_succ
set_option maxHeartbeats 64000000 in
set_option maxRecDepth 100000 in
theorem md_r8 (u1 u2 u3 u5 u6 u8 u9 u10 u11 u12 u13 u14 u15 u16 u17 u18 u19 u20 u21 u22 u23 u24 u25 u26 u27 u28 u29 u30 u31 u32 u33 u34 u35 u36 u37 u38 u39 u40 u41 u42 u43 u44 u45 u46 u47 u48 u49 u50 u51 u52 u53 u54 u55 u56 u57 u58 u59 u60 u61 u62 u63 u64 u65 u66 u67 u68 u69 u70 u71 u72 u73 u74 u75 u76 u77 u78 u79 u80 u81 u82 u83 u84 u85 u86 u87 u88 u89 u90 u91 u92 u93 u94 u95 u96 u97 u98 u99 u100 u101 u102 u103 u104 u105 u106 u107 u108 u109 u110 u111 u112 u113 u114 u115 u116 u117 u118 u119 u120 u121 u122 u123 u124 u125 u126 u127 u128 u129 u130 u131 u132 u133 u134 u135 u136 u137 u138 u139 u140 u141 u142 u143 u144 u145 u146 u147 u148 u149 u150 u151 u152 u153 u154 u155 u156 u157 u158 u159 u160 u161 u162 u163 u164 u165 u166 u167 u168 u169 u170 u171 u172 u173 u174 u175 u176 u177 u178 u179 u180 u181 u182 u183 u184 u185 u186 u187 u188 u189 u190 u191 u192 u193 u194 u195 u196 u197 u198 u199 u200 u201 u202 u203 u204 u205 u206 u207 u208 u209 u210 u211 u212 u213 u214 : Value) (ao : Option Addr) (m cap b : Nat) (p h v y1 y2 y3 y4 : Int) (w wr : World) (Q : Exit → Act → World → Prop)
    (C1 : Hid (PkC w (.slice ao m cap) p h y1)) (C2 : Hid (PkC w (.slice ao m cap) (p + 1) v y2)) (C3 : Hid (PkC w (.slice ao m cap) (p + 2) 3 y3)) (C4 : Hid (PkC w (.slice ao m cap) (p + 3) 3 y4)) (HBX : Hid (Below w.heap.size w wr)) (s0 : wr.cell? ⟨b + 1 + 1, 0, none⟩ = some (.int .i64 h)) (s1 : wr.cell? ⟨b + 1 + 1, 1, none⟩ = some (.int .i64 v)) (wp1 : IntKind.i64.wrap (p + 1) = p + 1) (wp2 : IntKind.i64.wrap (p + 2) = p + 2) (wp3 : IntKind.i64.wrap (p + 3) = p + 3) (a1 : IntKind.i64.wrap (1 + y1) = 1 + y1) (a2 : IntKind.i64.wrap (1 + y2) = 1 + y2) (a3 : IntKind.i64.wrap (1 + y3) = 1 + y3) (a4 : IntKind.i64.wrap (1 + y4) = 1 + y4)
    (hQ : Hid (∀ (X : World) (g8 : Nat) (v37 v38 v39 v40 v41 v42 v43 v44 v45 v46 v47 v48 v49 v50 v51 v52 v53 v54 v55 v56 v57 v58 v59 v60 : Value), wr.heap.size ≤ g8 → X.rowIs g8 40 8 (wnF (1 + y1) (1 + y2) (1 + y3) (1 + y4)) → Below wr.heap.size wr X → Q .normal ⟨#[.slice ao m cap, u1, u2, u3, .pointer (some ⟨b + 1 + 1, 0, none⟩), u5, u6, .int .i64 p, .pointer (some ⟨g8, 0, none⟩), u9, u10, u11, u12, u13, u14, u15, u16, u17, u18, u19, u20, u21, u22, u23, u24, u25, u26, u27, u28, u29, u30, u31, u32, u33, u34, u35, u36, v37, v38, v39, v40, v41, v42, v43, v44, v45, v46, v47, v48, v49, v50, v51, v52, v53, v54, v55, v56, v57, v58, v59, v60, u61, u62, u63, u64, u65, u66, u67, u68, u69, u70, u71, u72, u73, u74, u75, u76, u77, u78, u79, u80, u81, u82, u83, u84, u85, u86, u87, u88, u89, u90, u91, u92, u93, u94, u95, u96, u97, u98, u99, u100, u101, u102, u103, u104, u105, u106, u107, u108, u109, u110, u111, u112, u113, u114, u115, u116, u117, u118, u119, u120, u121, u122, u123, u124, u125, u126, u127, u128, u129, u130, u131, u132, u133, u134, u135, u136, u137, u138, u139, u140, u141, u142, u143, u144, u145, u146, u147, u148, u149, u150, u151, u152, u153, u154, u155, u156, u157, u158, u159, u160, u161, u162, u163, u164, u165, u166, u167, u168, u169, u170, u171, u172, u173, u174, u175, u176, u177, u178, u179, u180, u181, u182, u183, u184, u185, u186, u187, u188, u189, u190, u191, u192, u193, u194, u195, u196, u197, u198, u199, u200, u201, u202, u203, u204, u205, u206, u207, u208, u209, u210, u211, u212, u213, u214], []⟩ X)) :
    Code.wp Try.prog cd8 Q ⟨#[.slice ao m cap, u1, u2, u3, .pointer (some ⟨b + 1 + 1, 0, none⟩), u5, u6, .int .i64 p, u8, u9, u10, u11, u12, u13, u14, u15, u16, u17, u18, u19, u20, u21, u22, u23, u24, u25, u26, u27, u28, u29, u30, u31, u32, u33, u34, u35, u36, u37, u38, u39, u40, u41, u42, u43, u44, u45, u46, u47, u48, u49, u50, u51, u52, u53, u54, u55, u56, u57, u58, u59, u60, u61, u62, u63, u64, u65, u66, u67, u68, u69, u70, u71, u72, u73, u74, u75, u76, u77, u78, u79, u80, u81, u82, u83, u84, u85, u86, u87, u88, u89, u90, u91, u92, u93, u94, u95, u96, u97, u98, u99, u100, u101, u102, u103, u104, u105, u106, u107, u108, u109, u110, u111, u112, u113, u114, u115, u116, u117, u118, u119, u120, u121, u122, u123, u124, u125, u126, u127, u128, u129, u130, u131, u132, u133, u134, u135, u136, u137, u138, u139, u140, u141, u142, u143, u144, u145, u146, u147, u148, u149, u150, u151, u152, u153, u154, u155, u156, u157, u158, u159, u160, u161, u162, u163, u164, u165, u166, u167, u168, u169, u170, u171, u172, u173, u174, u175, u176, u177, u178, u179, u180, u181, u182, u183, u184, u185, u186, u187, u188, u189, u190, u191, u192, u193, u194, u195, u196, u197, u198, u199, u200, u201, u202, u203, u204, u205, u206, u207, u208, u209, u210, u211, u212, u213, u214], []⟩ wr := by
  conv => arg 2; whnf
  refine wp_region_noPanic ?_
  go_region_held3 (fun Y => Y.cell? ⟨b + 1 + 1, 0, none⟩ = some (.int .i64 h) ∧ Y.cell? ⟨b + 1 + 1, 1, none⟩ = some (.int .i64 v))
    (((try dsimp only); (with_reducible refine kpD8 (V := wr) s0 s1 ?_); repeat (first | (with_reducible exact Below.refl _ _) | (with_reducible refine bl_alloc ?_ _) | (with_reducible refine Below.drew ?_) | (with_reducible refine bl_drewN ?_ _) | (with_reducible refine bl_set ?_ (by omega) _) | (with_reducible refine bl_step ?_ (by assumption)))))
    (first
      | (go_at_call 20; with_reducible refine (C1.out _ (bl_step HBX.out (by repeat (first | (with_reducible exact Below.refl _ _) | (with_reducible refine bl_alloc ?_ _) | (with_reducible refine Below.drew ?_) | (with_reducible refine bl_drewN ?_ _) | (with_reducible refine bl_set ?_ (by omega) _) | (with_reducible refine bl_step ?_ (by assumption)))))).mono ?_; rintro e z1 ⟨rfl, rfl⟩)
      | (go_at_call 20; with_reducible refine (C2.out _ (bl_step HBX.out (by repeat (first | (with_reducible exact Below.refl _ _) | (with_reducible refine bl_alloc ?_ _) | (with_reducible refine Below.drew ?_) | (with_reducible refine bl_drewN ?_ _) | (with_reducible refine bl_set ?_ (by omega) _) | (with_reducible refine bl_step ?_ (by assumption)))))).mono ?_; rintro e z2 ⟨rfl, rfl⟩)
      | (go_at_call 20; with_reducible refine (C3.out _ (bl_step HBX.out (by repeat (first | (with_reducible exact Below.refl _ _) | (with_reducible refine bl_alloc ?_ _) | (with_reducible refine Below.drew ?_) | (with_reducible refine bl_drewN ?_ _) | (with_reducible refine bl_set ?_ (by omega) _) | (with_reducible refine bl_step ?_ (by assumption)))))).mono ?_; rintro e z3 ⟨rfl, rfl⟩)
      | (go_at_call 20; with_reducible refine (C4.out _ (bl_step HBX.out (by repeat (first | (with_reducible exact Below.refl _ _) | (with_reducible refine bl_alloc ?_ _) | (with_reducible refine Below.drew ?_) | (with_reducible refine bl_drewN ?_ _) | (with_reducible refine bl_set ?_ (by omega) _) | (with_reducible refine bl_step ?_ (by assumption)))))).mono ?_; rintro e z4 ⟨rfl, rfl⟩))
  all_goals
    refine NoPanic.normal (hQ.out _ wr.heap.size _ _ _ _ _ _ _ _ _ _ _ _ _ _ _ _ _ _ _ _ _ _ _ _ (Nat.le_refl _) (World.rowIs.of_block (wn_newF wr _ _ _ _ _) rfl) ?_)
    repeat (first | (with_reducible exact Below.refl _ _) | (with_reducible refine bl_alloc ?_ _) | (with_reducible refine Below.drew ?_) | (with_reducible refine bl_drewN ?_ _) | (with_reducible refine bl_set ?_ (by omega) _) | (with_reducible refine bl_step ?_ (by assumption)))
attribute [local go_sem ↓] Go.wp_at_zero Go.wp_at_succ
set_option maxHeartbeats 64000000 in
set_option maxRecDepth 100000 in
theorem md_r9 (u1 u2 u3 u4 u5 u6 u9 u10 u11 u12 u13 u14 u15 u16 u17 u18 u19 u20 u21 u22 u23 u24 u25 u26 u27 u28 u29 u30 u31 u32 u33 u34 u35 u36 u37 u38 u39 u40 u41 u42 u43 u44 u45 u46 u47 u48 u49 u50 u51 u52 u53 u54 u55 u56 u57 u58 u59 u60 u61 u62 u63 u64 u65 u66 u67 u68 u69 u70 u71 u72 u73 u74 u75 u76 u77 u78 u79 u80 u81 u82 u83 u84 u85 u86 u87 u88 u89 u90 u91 u92 u93 u94 u95 u96 u97 u98 u99 u100 u101 u102 u103 u104 u105 u106 u107 u108 u109 u110 u111 u112 u113 u114 u115 u116 u117 u118 u119 u120 u121 u122 u123 u124 u125 u126 u127 u128 u129 u130 u131 u132 u133 u134 u135 u136 u137 u138 u139 u140 u141 u142 u143 u144 u145 u146 u147 u148 u149 u150 u151 u152 u153 u154 u155 u156 u157 u158 u159 u160 u161 u162 u163 u164 u165 u166 u167 u168 u169 u170 u171 u172 u173 u174 u175 u176 u177 u178 u179 u180 u181 u182 u183 u184 u185 u186 u187 u188 u189 u190 u191 u192 u193 u194 u195 u196 u197 u198 u199 u200 u201 u202 u203 u204 u205 u206 u207 u208 u209 u210 u211 u212 u213 u214 : Value) (ao : Option Addr) (m cap g8 : Nat) (p r s sy sx y5 : Int) (w wc : World) (Q : Exit → Act → World → Prop)
    (C5 : Hid (PkC w (.slice ao m cap) (p + 4) 3 y5)) (HBX : Hid (Below w.heap.size w wc)) (HW8 : Hid (wc.rowIs g8 40 8 (wnF r s sy sx))) (wp4 : IntKind.i64.wrap (p + 4) = p + 4) (a5 : IntKind.i64.wrap (1 + y5) = 1 + y5)
    (hQ : Hid (∀ (X : World) (g9 : Nat) (v61 v62 v63 v64 v65 v66 v67 : Value), wc.heap.size ≤ g9 → X.rowIs g9 45 15 (lyf (L0 (1 + y5) r s sy sx)) → Below wc.heap.size wc X → Q .normal ⟨#[.slice ao m cap, u1, u2, u3, u4, u5, u6, .int .i64 p, .pointer (some ⟨g8, 0, none⟩), .pointer (some ⟨g9, 0, none⟩), u10, u11, u12, u13, u14, u15, u16, u17, u18, u19, u20, u21, u22, u23, u24, u25, u26, u27, u28, u29, u30, u31, u32, u33, u34, u35, u36, u37, u38, u39, u40, u41, u42, u43, u44, u45, u46, u47, u48, u49, u50, u51, u52, u53, u54, u55, u56, u57, u58, u59, u60, v61, v62, v63, v64, v65, v66, v67, u68, u69, u70, u71, u72, u73, u74, u75, u76, u77, u78, u79, u80, u81, u82, u83, u84, u85, u86, u87, u88, u89, u90, u91, u92, u93, u94, u95, u96, u97, u98, u99, u100, u101, u102, u103, u104, u105, u106, u107, u108, u109, u110, u111, u112, u113, u114, u115, u116, u117, u118, u119, u120, u121, u122, u123, u124, u125, u126, u127, u128, u129, u130, u131, u132, u133, u134, u135, u136, u137, u138, u139, u140, u141, u142, u143, u144, u145, u146, u147, u148, u149, u150, u151, u152, u153, u154, u155, u156, u157, u158, u159, u160, u161, u162, u163, u164, u165, u166, u167, u168, u169, u170, u171, u172, u173, u174, u175, u176, u177, u178, u179, u180, u181, u182, u183, u184, u185, u186, u187, u188, u189, u190, u191, u192, u193, u194, u195, u196, u197, u198, u199, u200, u201, u202, u203, u204, u205, u206, u207, u208, u209, u210, u211, u212, u213, u214], []⟩ X)) :
    Code.wp Try.prog cd9 Q ⟨#[.slice ao m cap, u1, u2, u3, u4, u5, u6, .int .i64 p, .pointer (some ⟨g8, 0, none⟩), u9, u10, u11, u12, u13, u14, u15, u16, u17, u18, u19, u20, u21, u22, u23, u24, u25, u26, u27, u28, u29, u30, u31, u32, u33, u34, u35, u36, u37, u38, u39, u40, u41, u42, u43, u44, u45, u46, u47, u48, u49, u50, u51, u52, u53, u54, u55, u56, u57, u58, u59, u60, u61, u62, u63, u64, u65, u66, u67, u68, u69, u70, u71, u72, u73, u74, u75, u76, u77, u78, u79, u80, u81, u82, u83, u84, u85, u86, u87, u88, u89, u90, u91, u92, u93, u94, u95, u96, u97, u98, u99, u100, u101, u102, u103, u104, u105, u106, u107, u108, u109, u110, u111, u112, u113, u114, u115, u116, u117, u118, u119, u120, u121, u122, u123, u124, u125, u126, u127, u128, u129, u130, u131, u132, u133, u134, u135, u136, u137, u138, u139, u140, u141, u142, u143, u144, u145, u146, u147, u148, u149, u150, u151, u152, u153, u154, u155, u156, u157, u158, u159, u160, u161, u162, u163, u164, u165, u166, u167, u168, u169, u170, u171, u172, u173, u174, u175, u176, u177, u178, u179, u180, u181, u182, u183, u184, u185, u186, u187, u188, u189, u190, u191, u192, u193, u194, u195, u196, u197, u198, u199, u200, u201, u202, u203, u204, u205, u206, u207, u208, u209, u210, u211, u212, u213, u214], []⟩ wc := by
  conv => arg 2; whnf
  refine wp_region_noPanic ?_
  have q0 : wc.cell? ⟨g8, 0, none⟩ = some (.int .i64 r) := HW8.out.cell (i := 0) (by decide)
  have q1 : wc.cell? ⟨g8, 1, none⟩ = some (.int .i64 s) := HW8.out.cell (i := 1) (by decide)
  have q2 : wc.cell? ⟨g8, 2, none⟩ = some (.int .i64 sy) := HW8.out.cell (i := 2) (by decide)
  have q3 : wc.cell? ⟨g8, 3, none⟩ = some (.int .i64 sx) := HW8.out.cell (i := 3) (by decide)
  have q4 : wc.cell? ⟨g8, 4, none⟩ = some (.int .i64 0) := HW8.out.cell (i := 4) (by decide)
  have q5 : wc.cell? ⟨g8, 5, none⟩ = some (.int .i64 0) := HW8.out.cell (i := 5) (by decide)
  have q6 : wc.cell? ⟨g8, 6, none⟩ = some (.int .i64 0) := HW8.out.cell (i := 6) (by decide)
  have q7 : wc.cell? ⟨g8, 7, none⟩ = some (.int .i64 0) := HW8.out.cell (i := 7) (by decide)
  go_region_held3 (fun Y => Y.cell? ⟨g8, 0, none⟩ = some (.int .i64 r) ∧ Y.cell? ⟨g8, 1, none⟩ = some (.int .i64 s) ∧ Y.cell? ⟨g8, 2, none⟩ = some (.int .i64 sy) ∧ Y.cell? ⟨g8, 3, none⟩ = some (.int .i64 sx) ∧ Y.cell? ⟨g8, 4, none⟩ = some (.int .i64 0) ∧ Y.cell? ⟨g8, 5, none⟩ = some (.int .i64 0) ∧ Y.cell? ⟨g8, 6, none⟩ = some (.int .i64 0) ∧ Y.cell? ⟨g8, 7, none⟩ = some (.int .i64 0))
    (((try dsimp only); (with_reducible refine kpD9 (V := wc) q0 q1 q2 q3 q4 q5 q6 q7 ?_); repeat (first | (with_reducible exact Below.refl _ _) | (with_reducible refine bl_alloc ?_ _) | (with_reducible refine Below.drew ?_) | (with_reducible refine bl_drewN ?_ _) | (with_reducible refine bl_set ?_ (by omega) _) | (with_reducible refine bl_step ?_ (by assumption)))))
    (first | (go_at_call 20; with_reducible refine (C5.out _ (bl_step HBX.out (by repeat (first | (with_reducible exact Below.refl _ _) | (with_reducible refine bl_alloc ?_ _) | (with_reducible refine Below.drew ?_) | (with_reducible refine bl_drewN ?_ _) | (with_reducible refine bl_set ?_ (by omega) _) | (with_reducible refine bl_step ?_ (by assumption)))))).mono ?_; rintro e z5 ⟨rfl, rfl⟩))
  all_goals
    refine NoPanic.normal (hQ.out _ wc.heap.size _ _ _ _ _ _ _ (Nat.le_refl _) (lyf_newD wc (L0 (1 + y5) r s sy sx)) ?_)
    repeat (first | (with_reducible exact Below.refl _ _) | (with_reducible refine bl_alloc ?_ _) | (with_reducible refine Below.drew ?_) | (with_reducible refine bl_drewN ?_ _) | (with_reducible refine bl_set ?_ (by omega) _) | (with_reducible refine bl_step ?_ (by assumption)))
end Go.Proofs.Ytjjahenmhkkaaaa.Nn
/- NETWORKS THAT ARE MADE: the walk's pieces: a layer's outputs, its kind of weights, its norms. -/
namespace Go.Proofs.Ytjjahenmhkkaaaa.Nn
open Go.RowKit

noncomputable def cd14 : Code := (Try.f7.body.bind (fromP (isReg 14))).getD .skip
attribute [local go_sem ↓] Go.wp_at_zero Go.wp_at_succ
set_option maxHeartbeats 64000000 in
set_option maxRecDepth 100000 in
theorem md_kinds (u1 u2 u3 u4 u5 u6 u8 u10 u11 u12 u13 u14 u15 u16 u17 u18 u19 u20 u21 u22 u23 u24 u25 u26 u27 u28 u29 u30 u31 u32 u33 u34 u35 u36 u37 u38 u39 u40 u41 u42 u43 u44 u45 u46 u47 u48 u49 u50 u51 u52 u53 u54 u55 u56 u57 u58 u59 u60 u61 u62 u63 u64 u65 u66 u67 u68 u69 u70 u71 u72 u73 u74 u75 u76 u77 u78 u79 u80 u81 u82 u83 u84 u85 u86 u87 u88 u89 u90 u91 u92 u93 u94 u95 u96 u97 u98 u99 u100 u101 u102 u103 u104 u105 u106 u107 u108 u109 u110 u111 u112 u113 u114 u115 u116 u117 u118 u119 u120 u121 u122 u123 u124 u125 u126 u127 u128 u129 u130 u131 u132 u133 u134 u135 u136 u137 u138 u139 u140 u141 u142 u143 u144 u145 u146 u147 u148 u149 u150 u151 u152 u153 u154 u155 u156 u157 u158 u159 u160 u161 u162 u163 u164 u165 u166 u167 u168 u169 u170 u171 u172 u173 u174 u175 u176 u177 u178 u179 u180 u181 u182 u183 u184 u185 u186 u187 u188 u189 u190 u191 u192 u193 u194 u195 u196 u197 u198 u199 u200 u201 u202 u203 u204 u205 u206 u207 u208 u209 u210 u211 u212 u213 u214 : Value) (ao : Option Addr) (m cap : Nat) (f : Nat → Int) (hm : m ≤ 9223372036854775807) (w : World) (hf : RB w ao m f) (b g8 g9 : Nat) (p kd r s sy sx : Int) (wr wc : World) (Q : Exit → Act → World → Prop)
    (hpb : 0 ≤ p ∧ p ≤ 100) (wp5 : IntKind.i64.wrap (p + 5) = p + 5) (wp6 : IntKind.i64.wrap (p + 6) = p + 6) (HXW : Hid (Below w.heap.size w wr)) (bsz : b + 3 ≤ wr.heap.size) (HL9 : Hid (wc.rowIs g9 45 15 (lyf (L0 kd r s sy sx)))) (HW8 : Hid (wc.rowIs g8 40 8 (wnF r s sy sx))) (BR : Below wr.heap.size wr wc) (hg9' : wr.heap.size ≤ g9) (hg89 : g8 ≠ g9)
    (hQ : Hid (∀ (X : World) (s10 : Value) (v81 v82 v83 v84 v85 v86 v87 v88 v89 v90 v91 v92 v93 v94 v95 v96 v97 v98 v99 v100 : Value), (∃ (wt : Int) (K : Nat) (an : Option Addr) (cn : Nat) (ns : Nat → Nat → Int), s10 = .int .i64 (K : Int) ∧ Hid ((wt = 1 ∨ wt = 2) ∧ 1 ≤ K ∧ K ≤ 3 ∧ ∀ j, j < K → noE (ns j 0) (ns j 1) (ns j 2) (ns j 3) (ns j 4) (ns j 5) (ns j 6) (ns j 7) = 0) ∧ Hid (X.rowIs g9 45 15 (lyf (L1 kd wt K r s sy sx an cn ns))) ∧ Hid (X.ownsRow (b + 3) 71 8 (.slice an K cn) K (nmL ns K)) ∧ Hid (X.rowIs g8 40 8 (wnF r s sy sx)) ∧ Below wr.heap.size wr X) → Q .normal ⟨#[.slice ao m cap, u1, u2, u3, u4, u5, u6, .int .i64 p, u8, .pointer (some ⟨g9, 0, none⟩), s10, u11, u12, u13, u14, u15, u16, u17, u18, u19, u20, u21, u22, u23, u24, u25, u26, u27, u28, u29, u30, u31, u32, u33, u34, u35, u36, u37, u38, u39, u40, u41, u42, u43, u44, u45, u46, u47, u48, u49, u50, u51, u52, u53, u54, u55, u56, u57, u58, u59, u60, u61, u62, u63, u64, u65, u66, u67, u68, u69, u70, u71, u72, u73, u74, u75, u76, u77, u78, u79, u80, v81, v82, v83, v84, v85, v86, v87, v88, v89, v90, v91, v92, v93, v94, v95, v96, v97, v98, v99, v100, u101, u102, u103, u104, u105, u106, u107, u108, u109, u110, u111, u112, u113, u114, u115, u116, u117, u118, u119, u120, u121, u122, u123, u124, u125, u126, u127, u128, u129, u130, u131, u132, u133, u134, u135, u136, u137, u138, u139, u140, u141, u142, u143, u144, u145, u146, u147, u148, u149, u150, u151, u152, u153, u154, u155, u156, u157, u158, u159, u160, u161, u162, u163, u164, u165, u166, u167, u168, u169, u170, u171, u172, u173, u174, u175, u176, u177, u178, u179, u180, u181, u182, u183, u184, u185, u186, u187, u188, u189, u190, u191, u192, u193, u194, u195, u196, u197, u198, u199, u200, u201, u202, u203, u204, u205, u206, u207, u208, u209, u210, u211, u212, u213, u214], []⟩ X)) :
    Code.wp Try.prog cd14 Q ⟨#[.slice ao m cap, u1, u2, u3, u4, u5, u6, .int .i64 p, u8, .pointer (some ⟨g9, 0, none⟩), u10, u11, u12, u13, u14, u15, u16, u17, u18, u19, u20, u21, u22, u23, u24, u25, u26, u27, u28, u29, u30, u31, u32, u33, u34, u35, u36, u37, u38, u39, u40, u41, u42, u43, u44, u45, u46, u47, u48, u49, u50, u51, u52, u53, u54, u55, u56, u57, u58, u59, u60, u61, u62, u63, u64, u65, u66, u67, u68, u69, u70, u71, u72, u73, u74, u75, u76, u77, u78, u79, u80, u81, u82, u83, u84, u85, u86, u87, u88, u89, u90, u91, u92, u93, u94, u95, u96, u97, u98, u99, u100, u101, u102, u103, u104, u105, u106, u107, u108, u109, u110, u111, u112, u113, u114, u115, u116, u117, u118, u119, u120, u121, u122, u123, u124, u125, u126, u127, u128, u129, u130, u131, u132, u133, u134, u135, u136, u137, u138, u139, u140, u141, u142, u143, u144, u145, u146, u147, u148, u149, u150, u151, u152, u153, u154, u155, u156, u157, u158, u159, u160, u161, u162, u163, u164, u165, u166, u167, u168, u169, u170, u171, u172, u173, u174, u175, u176, u177, u178, u179, u180, u181, u182, u183, u184, u185, u186, u187, u188, u189, u190, u191, u192, u193, u194, u195, u196, u197, u198, u199, u200, u201, u202, u203, u204, u205, u206, u207, u208, u209, u210, u211, u212, u213, u214], []⟩ wc := by
  conv => arg 2; whnf
  have CP := hid1 (fun i n hi hn W (hW : Below w.heap.size w W) => pick5_any ao m cap f hm i n hi hn W (hf.keep hW))
  have CN := hid1 (fun N at' hN ha W (hW : Below w.heap.size w W) => norms5_any ao m cap f hm N at' hN ha W (hf.keep hW))
  have PB := hid1 (fun i {n : Int} (hn : 1 ≤ n) => pk5_in f m i hn)
  clear hf
  have C5 := hid1 (fun W hW => CP.out (p + 5) 3 (by omega) (by decide) W hW)
  have C6 := hid1 (fun W hW => CP.out (p + 6) 2 (by omega) (by decide) W hW)
  have h5 := PB.out (p + 5) (n := 3) (by decide)
  have h6 := PB.out (p + 6) (n := 2) (by decide)
  generalize pk5 f m (p + 5) 3 = y5 at *
  generalize pk5 f m (p + 6) 2 = y6 at *
  obtain ⟨K, hK⟩ := Int.eq_ofNat_of_zero_le (show 0 ≤ 1 + y5 by omega)
  have a5 : IntKind.i64.wrap (1 + y5) = (K : Int) := by rw [IntKind.wrap_i64]; omega
  obtain ⟨wt, hwt⟩ : ∃ wt, 1 + y6 = wt := ⟨_, rfl⟩
  have a6 : IntKind.i64.wrap (1 + y6) = wt := by rw [IntKind.wrap_i64]; omega
  have bK : 1 ≤ K ∧ K ≤ 3 := by omega
  have bwt : wt = 1 ∨ wt = 2 := by omega
  clear hK hwt h5 h6
  have fz2 := HL9.out.frozen 2
  have l2 : wc.cell? ⟨g9, 2, none⟩ = some (.int .i64 0) := HL9.out.cell (i := 2) (by decide)
  go_wp2_with fail
  refine (C5.out _ (bl_step HXW.out BR)).mono ?_
  rintro e z5 ⟨rfl, rfl⟩
  go_upto_region 16 with fail
  refine gen_world (fun X => X.rowIs g9 45 15 (lyf (LK kd 0 K r s sy sx)) ∧ X.rowIs g8 40 8 (wnF r s sy sx) ∧ Below wr.heap.size wr X) ⟨lyf_set HL9.out _ 2 _ ⟨rfl, rfl, rfl, rfl, rfl, rfl, rfl, rfl, rfl, rfl, rfl, rfl, rfl, rfl, rfl⟩, HW8.out.setOther hg89 _, bl_set BR hg9' _⟩ ?_
  rintro X ⟨RL, RW, BX⟩
  clear HL9 HW8 BR l2 fz2
  have HRW := hid1 RW
  have HRL := hid1 RL
  have fz1 := RL.frozen 1
  have l1 : X.cell? ⟨g9, 1, none⟩ = some (.int .i64 0) := RL.cell (i := 1) (by decide)
  clear RW RL
  go_wp2_with fail
  refine (C6.out _ (bl_step HXW.out BX)).mono ?_
  rintro e z6 ⟨rfl, rfl⟩
  go_upto_region 17 with fail
  refine gen_world (fun X => X.rowIs g9 45 15 (lyf (LK kd wt K r s sy sx)) ∧ X.rowIs g8 40 8 (wnF r s sy sx) ∧ Below wr.heap.size wr X) ⟨lyf_set HRL.out _ 1 _ ⟨rfl, rfl, rfl, rfl, rfl, rfl, rfl, rfl, rfl, rfl, rfl, rfl, rfl, rfl, rfl⟩, HRW.out.setOther hg89 _, bl_set BX hg9' _⟩ ?_
  clear HRL HRW BX l1 fz1
  rintro X ⟨RL, RW, BX⟩
  have HRW := hid1 RW
  have HRL := hid1 RL
  have l2 : X.cell? ⟨g9, 2, none⟩ = some (.int .i64 K) := RL.cell (i := 2) (by decide)
  have hXb : b + 3 ≤ X.heap.size := Nat.le_trans bsz BX.size
  clear RW RL
  go_wp2_with fail
  refine (CN.out K p (by omega) (by omega) _ (bl_step HXW.out BX)).mono ?_
  rintro e z7 ⟨vn, rfl, own, hb⟩
  obtain ⟨an, cn, rfl⟩ := own_isP own
  have HON := hid1 (own.mono (Nat.le_trans bsz BX.size))
  replace HRL := hid1 (World.rowIs.of_block HRL.out (hb.block _ HRL.out.lt))
  replace HRW := hid1 (World.rowIs.of_block HRW.out (hb.block _ HRW.out.lt))
  replace BX := bl_step BX hb
  clear own hb l2
  have fz13 := HRL.out.frozen 13
  have l13 : z7.cell? ⟨g9, 13, none⟩ = some (.slice none 0 0) := HRL.out.cell (i := 13) (by decide)
  go_wp2_with fail
  refine hQ.out _ _ _ _ _ _ _ _ _ _ _ _ _ _ _ _ _ _ _ _ _ _ ?_
  exact ⟨wt, K, an, cn, nsV f m p, rfl, hid1 ⟨bwt, bK.1, bK.2, fun j hj => nsV_ok f m p j (by omega)⟩, hid1 (lyf_set HRL.out _ 13 _ ⟨rfl, rfl, rfl, rfl, rfl, rfl, rfl, rfl, rfl, rfl, rfl, rfl, rfl, rfl, rfl⟩), hid1 (own_setHi HON.out HRL.out.lt HRL.out (by decide)), hid1 (HRW.out.setOther hg89 _), bl_set BX hg9' _⟩
end Go.Proofs.Ytjjahenmhkkaaaa.Nn
/- NETWORKS THAT ARE MADE: the walk's pieces: the window's borders and the weights of a convolution. -/
namespace Go.Proofs.Ytjjahenmhkkaaaa.Nn
open Go.RowKit

noncomputable def cdB2 : Code := (Try.f7.body.bind (blockOf 2)).getD .skip
attribute [local go_sem ↓] Go.wp_at_zero Go.wp_at_succ
set_option maxHeartbeats 64000000 in
set_option maxRecDepth 100000 in
theorem md_sw1 (u1 u2 u3 u5 u6 u10 u11 u12 u13 u14 u15 u16 u17 u18 u19 u20 u21 u22 u23 u24 u25 u26 u27 u28 u29 u30 u31 u32 u33 u34 u35 u36 u37 u38 u39 u40 u41 u42 u43 u44 u45 u46 u47 u48 u49 u50 u51 u52 u53 u54 u55 u56 u57 u58 u59 u60 u61 u62 u63 u64 u65 u66 u67 u68 u69 u70 u71 u72 u73 u74 u75 u76 u77 u78 u79 u80 u81 u82 u83 u84 u85 u86 u87 u88 u89 u90 u91 u92 u93 u94 u95 u96 u97 u98 u99 u100 u101 u103 u104 u105 u106 u107 u108 u109 u110 u111 u112 u113 u114 u115 u116 u117 u118 u119 u120 u121 u122 u123 u124 u125 u126 u127 u128 u129 u130 u131 u132 u133 u134 u135 u136 u137 u138 u139 u140 u141 u142 u143 u144 u145 u146 u147 u148 u149 u150 u151 u152 u153 u154 u155 u156 u157 u158 u159 u160 u161 u162 u163 u164 u165 u166 u167 u168 u169 u170 u171 u172 u173 u174 u175 u176 u177 u178 u179 u180 u181 u182 u183 u184 u185 u186 u187 u188 u189 u190 u191 u192 u193 u194 u195 u196 u197 u198 u199 u200 u201 u202 u203 u204 u205 u206 u207 u208 u209 u210 u211 u212 u213 u214 : Value) (ao : Option Addr) (m cap : Nat) (f : Nat → Int) (hm : m ≤ 9223372036854775807) (w : World) (hf : RB w ao m f) (b g8 g9 K cn i uc : Nat) (ua an : Option Addr) (ns : Nat → Nat → Int) (lf : Nat → Ly) (p kd wt r s sy sx h v c c' ah H V C : Int) (fs la : Bool) (wr wc : World) (Q : Exit → Act → World → Prop)
    (hpb : 0 ≤ p ∧ p ≤ 100) (wp6 : IntKind.i64.wrap (p + 6) = p + 6) (wp7 : IntKind.i64.wrap (p + 7) = p + 7) (HXW : Hid (Below w.heap.size w wr)) (bsz : b + 3 ≤ wr.heap.size) (HMS : Hid (MS wr b H V C h v c lf i ua uc)) (HSM : Hid (SmS ⟨h, v, c, ah, fs, la⟩)) (HLA : Hid (la = false ∧ fs = decide (i = 0))) (sm1 : 1 ≤ h ∧ h ≤ 15) (sm2 : 1 ≤ v ∧ v ≤ 15) (sm3 : 1 ≤ c ∧ c ≤ 4) (br : 1 ≤ r ∧ r ≤ h) (bs : 1 ≤ s ∧ s ≤ v) (bsy : 1 ≤ sy ∧ sy ≤ 3) (bsx : 1 ≤ sx ∧ sx ≤ 3) (HL9 : Hid (wc.rowIs g9 45 15 (lyf (L1 kd wt K r s sy sx an cn ns)))) (HON : Hid (wc.ownsRow (b + 3) 71 8 (.slice an K cn) K (nmL ns K))) (HW8 : Hid (wc.rowIs g8 40 8 (wnF r s sy sx))) (BR : Below wr.heap.size wr wc) (hg9' : wr.heap.size ≤ g9) (hg89 : g8 ≠ g9) (HKD : Hid ((wt = 1 ∨ wt = 2) ∧ 1 ≤ K ∧ K ≤ 3 ∧ c' = (K : Int) ∧ ∀ j, j < K → noE (ns j 0) (ns j 1) (ns j 2) (ns j 3) (ns j 4) (ns j 5) (ns j 6) (ns j 7) = 0)) (h1 : kd = 1)
    (hQ : Hid (∀ (X : World) (v103 v104 v105 v106 v107 v108 v109 v110 v111 v112 v113 v114 v115 v116 v117 v118 v119 v120 v121 v122 v123 v124 v125 v126 v127 v128 v129 v130 v131 v132 v133 v134 v135 v136 v137 v138 v139 v140 v141 v142 v143 v144 v145 v146 v147 v148 v149 v150 v151 v152 v153 v154 v155 v156 v157 v158 v159 v160 v161 v162 v163 v164 v165 v166 : Value), (∃ L, Ld L ⟨h, v, c, ah, fs, la⟩ c' ∧ X.rowIs g9 45 15 (lyf L) ∧ Lo X (b + 3) L ∧ Below wr.heap.size wr X) → Q .normal ⟨#[.slice ao m cap, u1, u2, u3, .pointer (some ⟨b + 1 + 1, 0, none⟩), u5, u6, .int .i64 p, .pointer (some ⟨g8, 0, none⟩), .pointer (some ⟨g9, 0, none⟩), u10, u11, u12, u13, u14, u15, u16, u17, u18, u19, u20, u21, u22, u23, u24, u25, u26, u27, u28, u29, u30, u31, u32, u33, u34, u35, u36, u37, u38, u39, u40, u41, u42, u43, u44, u45, u46, u47, u48, u49, u50, u51, u52, u53, u54, u55, u56, u57, u58, u59, u60, u61, u62, u63, u64, u65, u66, u67, u68, u69, u70, u71, u72, u73, u74, u75, u76, u77, u78, u79, u80, u81, u82, u83, u84, u85, u86, u87, u88, u89, u90, u91, u92, u93, u94, u95, u96, u97, u98, u99, u100, u101, .int .i64 kd, v103, v104, v105, v106, v107, v108, v109, v110, v111, v112, v113, v114, v115, v116, v117, v118, v119, v120, v121, v122, v123, v124, v125, v126, v127, v128, v129, v130, v131, v132, v133, v134, v135, v136, v137, v138, v139, v140, v141, v142, v143, v144, v145, v146, v147, v148, v149, v150, v151, v152, v153, v154, v155, v156, v157, v158, v159, v160, v161, v162, v163, v164, v165, v166, u167, u168, u169, u170, u171, u172, u173, u174, u175, u176, u177, u178, u179, u180, u181, u182, u183, u184, u185, u186, u187, u188, u189, u190, u191, u192, u193, u194, u195, u196, u197, u198, u199, u200, u201, u202, u203, u204, u205, u206, u207, u208, u209, u210, u211, u212, u213, u214], []⟩ X)) :
    Code.wp Try.prog cdB2 Q ⟨#[.slice ao m cap, u1, u2, u3, .pointer (some ⟨b + 1 + 1, 0, none⟩), u5, u6, .int .i64 p, .pointer (some ⟨g8, 0, none⟩), .pointer (some ⟨g9, 0, none⟩), u10, u11, u12, u13, u14, u15, u16, u17, u18, u19, u20, u21, u22, u23, u24, u25, u26, u27, u28, u29, u30, u31, u32, u33, u34, u35, u36, u37, u38, u39, u40, u41, u42, u43, u44, u45, u46, u47, u48, u49, u50, u51, u52, u53, u54, u55, u56, u57, u58, u59, u60, u61, u62, u63, u64, u65, u66, u67, u68, u69, u70, u71, u72, u73, u74, u75, u76, u77, u78, u79, u80, u81, u82, u83, u84, u85, u86, u87, u88, u89, u90, u91, u92, u93, u94, u95, u96, u97, u98, u99, u100, u101, .int .i64 kd, u103, u104, u105, u106, u107, u108, u109, u110, u111, u112, u113, u114, u115, u116, u117, u118, u119, u120, u121, u122, u123, u124, u125, u126, u127, u128, u129, u130, u131, u132, u133, u134, u135, u136, u137, u138, u139, u140, u141, u142, u143, u144, u145, u146, u147, u148, u149, u150, u151, u152, u153, u154, u155, u156, u157, u158, u159, u160, u161, u162, u163, u164, u165, u166, u167, u168, u169, u170, u171, u172, u173, u174, u175, u176, u177, u178, u179, u180, u181, u182, u183, u184, u185, u186, u187, u188, u189, u190, u191, u192, u193, u194, u195, u196, u197, u198, u199, u200, u201, u202, u203, u204, u205, u206, u207, u208, u209, u210, u211, u212, u213, u214], []⟩ wc := by
  conv => arg 2; whnf
  have CP := hid1 (fun i n hi hn W (hW : Below w.heap.size w W) => pick5_any ao m cap f hm i n hi hn W (hf.keep hW))
  have CW := hid1 (fun N kd hN W (hW : Below w.heap.size w W) => weights5_any ao m cap f hm N kd hN W (hf.keep hW))
  have PB := hid1 (fun i {n : Int} (hn : 1 ≤ n) => pk5_in f m i hn)
  clear hf
  obtain ⟨bwt, k1, k2, ec', hns⟩ := HKD.out
  have EC := hid1 ec'
  clear ec'
  have HNS := hid1 hns
  clear hns HKD
  have e1 : (kd == 1) = true := by rw [h1]; rfl
  have H1 := hid1 h1
  clear h1
  have C5 := hid1 (fun W hW => CP.out (p + 5) 3 (by omega) (by decide) W hW)
  have C6 := hid1 (fun W hW => CP.out (p + 6) 2 (by omega) (by decide) W hW)
  have C7 := hid1 (fun W hW => CP.out (p + 7) 3 (by omega) (by decide) W hW)
  have h5 := PB.out (p + 5) (n := 3) (by decide)
  have h6 := PB.out (p + 6) (n := 2) (by decide)
  have h7 := PB.out (p + 7) (n := 3) (by decide)
  generalize pk5 f m (p + 5) 3 = y5 at *
  generalize pk5 f m (p + 6) 2 = y6 at *
  generalize pk5 f m (p + 7) 3 = y7 at *
  have wp5 : IntKind.i64.wrap (p + 5) = p + 5 := by rw [IntKind.wrap_i64]; omega
  have fz7 := HL9.out.frozen 7
  have l7 : wc.cell? ⟨g9, 7, none⟩ = some (.int .i64 0) := HL9.out.cell (i := 7) (by decide)
  go_wp2_with fail
  refine (C7.out _ (bl_step HXW.out BR)).mono ?_
  rintro e z7 ⟨rfl, rfl⟩
  go_upto_region 21 with fail
  refine gen_world (fun X => X.rowIs g9 45 15 (lyf (LV kd wt K r s sy sx y7 0 0 none 0 0 an cn (fun _ => 0) ns)) ∧ X.rowIs g8 40 8 (wnF r s sy sx) ∧ X.ownsRow (b + 3) 71 8 (.slice an K cn) K (nmL ns K) ∧ Below wr.heap.size wr X) ⟨lyf_set HL9.out _ 7 _ ⟨rfl, rfl, rfl, rfl, rfl, rfl, rfl, rfl, rfl, rfl, rfl, rfl, rfl, rfl, rfl⟩, HW8.out.setOther hg89 _, own_setHi HON.out HL9.out.lt HL9.out (by decide), bl_set BR hg9' _⟩ ?_
  clear HL9 HW8 HON BR fz7 l7
  rintro X ⟨RL, RW, RN, BX⟩
  have HRL := hid1 RL
  have HRW := hid1 RW
  have HRN := hid1 RN
  have fz10 := RL.frozen 10
  have l10 : X.cell? ⟨g9, 10, none⟩ = some (.int .i64 0) := RL.cell (i := 10) (by decide)
  clear RL RW RN
  go_wp2_with fail
  refine (C6.out _ (bl_step HXW.out BX)).mono ?_
  rintro e z6 ⟨rfl, rfl⟩
  go_upto_region 22 with fail
  refine gen_world (fun X => X.rowIs g9 45 15 (lyf (LV kd wt K r s sy sx y7 y6 0 none 0 0 an cn (fun _ => 0) ns)) ∧ X.rowIs g8 40 8 (wnF r s sy sx) ∧ X.ownsRow (b + 3) 71 8 (.slice an K cn) K (nmL ns K) ∧ Below wr.heap.size wr X) ⟨lyf_set HRL.out _ 10 _ ⟨rfl, rfl, rfl, rfl, rfl, rfl, rfl, rfl, rfl, rfl, rfl, rfl, rfl, rfl, rfl⟩, HRW.out.setOther hg89 _, own_setHi HRN.out HRL.out.lt HRL.out (by decide), bl_set BX hg9' _⟩ ?_
  clear HRL HRW HRN BX fz10 l10
  rintro X ⟨RL, RW, RN, BX⟩
  have HRL := hid1 RL
  have HRW := hid1 RW
  have HRN := hid1 RN
  have fz11 := RL.frozen 11
  have l7 : X.cell? ⟨g9, 7, none⟩ = some (.int .i64 y7) := RL.cell (i := 7) (by decide)
  have l10 : X.cell? ⟨g9, 10, none⟩ = some (.int .i64 y6) := RL.cell (i := 10) (by decide)
  have l11 : X.cell? ⟨g9, 11, none⟩ = some (.int .i64 0) := RL.cell (i := 11) (by decide)
  clear RL RW RN
  have a8 : IntKind.i64.wrap (y7 + y6) = y7 + y6 := by rw [IntKind.wrap_i64]; omega
  have a9 : IntKind.i64.wrap (y5 - 1) = y5 - 1 := by rw [IntKind.wrap_i64]; omega
  obtain ⟨tb, htb⟩ : ∃ tb, decide (0 < y7 + y6) = tb := ⟨_, rfl⟩
  have HTB := hid1 htb
  go_upto_if 124 with fail
  go_cut [] from 125 to 130 (fun wx => ∃ bd, Hid (bd = 0 ∨ (1 ≤ y7 + y6 ∧ -1 ≤ bd ∧ bd ≤ 1)) ∧ Hid (wx.rowIs g9 45 15 (lyf (LV kd wt K r s sy sx y7 y6 bd none 0 0 an cn (fun _ => 0) ns))) ∧ Hid (wx.rowIs g8 40 8 (wnF r s sy sx)) ∧ Hid (wx.ownsRow (b + 3) 71 8 (.slice an K cn) K (nmL ns K)) ∧ Below wr.heap.size wr wx)
  case first =>
    cases tb
    · go_wp2_with fail
      go_meet
      exact ⟨0, hid1 (.inl rfl), HRL, HRW, HRN, BX⟩
    · have hpos : 0 < y7 + y6 := by have := HTB.out; simpa using this
      have HPO := hid1 hpos
      clear hpos
      go_wp2_with fail
      refine (C5.out _ (bl_step HXW.out BX)).mono ?_
      rintro e z5 ⟨rfl, rfl⟩
      go_wp2_with fail
      go_meet
      exact ⟨y5 - 1, hid1 (.inr ⟨by have := HPO.out; omega, by omega, by omega⟩), hid1 (lyf_set HRL.out _ 11 _ ⟨rfl, rfl, rfl, rfl, rfl, rfl, rfl, rfl, rfl, rfl, rfl, rfl, rfl, rfl, rfl⟩), hid1 (HRW.out.setOther hg89 _), hid1 (own_setHi HRN.out HRL.out.lt HRL.out (by decide)), bl_set BX hg9' _⟩
  case rest =>
    clear HRL HRW HRN BX HTB htb fz11 l7 l10 l11 a8 a9 C5 C6 C7
    obtain ⟨bd, HBD, HRL, HRW, HRN, BX⟩ := hcut
    have l1 : wc.cell? ⟨g9, 1, none⟩ = some (.int .i64 wt) := HRL.out.cell (i := 1) (by decide)
    have l2 : wc.cell? ⟨g9, 2, none⟩ = some (.int .i64 K) := HRL.out.cell (i := 2) (by decide)
    have q0 : wc.cell? ⟨g8, 0, none⟩ = some (.int .i64 r) := HRW.out.cell (i := 0) (by decide)
    have q1 : wc.cell? ⟨g8, 1, none⟩ = some (.int .i64 s) := HRW.out.cell (i := 1) (by decide)
    have s2 : wc.cell? ⟨b + 1 + 1, 2, none⟩ = some (.int .i64 c) := (HMS.out.keep BX).2.2.1.cell (i := 2) (by decide)
    have m1 := mul3_le (a := K) (b := r) (c := 1) (A := 3) (B := 15) (C := 1) (by omega) (by omega) (by omega)
    have m2 := mul3_le (a := K) (b := r) (c := s) (A := 3) (B := 15) (C := 15) (by omega) (by omega) (by omega)
    have m3 := mul3_le (a := (K : Int) * r) (b := s) (c := c) (A := 45) (B := 15) (C := 4) (by omega) (by omega) (by omega)
    obtain ⟨N, hN⟩ := Int.eq_ofNat_of_zero_le m3.1
    have HNE : Hid ((N : Int) = K * (r * s * c)) := hid1 (by rw [← hN, Int.mul_assoc, Int.mul_assoc, Int.mul_assoc])
    have p1 : IntKind.i64.wrap ((K : Int) * r) = K * r := by rw [IntKind.wrap_i64]; omega
    have p2 : IntKind.i64.wrap ((K : Int) * r * s) = K * r * s := by rw [IntKind.wrap_i64]; omega
    have p3 : IntKind.i64.wrap ((K : Int) * r * s * c) = N := by rw [IntKind.wrap_i64, hN]; omega
    have hNb : N ≤ 10000 := by omega
    clear m1 m2 m3 hN
    go_wp2_with fail
    refine (CW.out N wt (by omega) _ (bl_step HXW.out BX)).mono ?_
    rintro e z8 ⟨vw, rfl, own, hb⟩
    obtain ⟨aw, cw, rfl⟩ := own_isP own
    have HOW := hid1 (own.mono (Nat.le_trans bsz BX.size))
    replace HRL := hid1 (World.rowIs.of_block HRL.out (hb.block _ HRL.out.lt))
    replace HRN := hid1 (own_bl HRN.out hb)
    replace BX := bl_step BX hb
    clear own hb l1 l2 q0 q1 s2
    have fz12 := HRL.out.frozen 12
    have l12 : z8.cell? ⟨g9, 12, none⟩ = some (.slice none 0 0) := HRL.out.cell (i := 12) (by decide)
    go_wp2_with fail
    refine hQ.out _ _ _ _ _ _ _ _ _ _ _ _ _ _ _ _ _ _ _ _ _ _ _ _ _ _ _ _ _ _ _ _ _ _ _ _ _ _ _ _ _ _ _ _ _ _ _ _ _ _ _ _ _ _ _ _ _ _ _ _ _ _ _ _ _ ?_
    have h1 := H1.out
    refine ⟨LV kd wt K r s sy sx y7 y6 bd aw N cw an cn (wgV f m wt) ns, ?_, lyf_set HRL.out _ 12 _ ⟨rfl, rfl, rfl, rfl, rfl, rfl, rfl, rfl, rfl, rfl, rfl, rfl, rfl, rfl, rfl⟩, ⟨own_setHi HOW.out HRL.out.lt HRL.out (by decide), own_setHi HRN.out HRL.out.lt HRL.out (by decide), World.ownsRow_nil _ _ _ _⟩, bl_set BX hg9' _⟩
    refine ⟨made_conv HSM.out HLA.out.1 h1 bwt (by show 1 ≤ (K : Int) ∧ (K : Int) ≤ 3; omega) br bs bsy bsx (by show 0 ≤ y7 ∧ y7 ≤ 2; omega) rfl rfl (by show 0 ≤ y6 ∧ y6 ≤ 1; omega) HBD.out ⟨HNE.out, fun j _ => wgV_ok f m wt j⟩ ⟨rfl, rfl, fun j hj => HNS.out j hj⟩, own_cap HOW.out, (by show 0 ≤ (K : Int) ∧ (K : Int) ≤ 3; omega), .inr ⟨br, bs, bsy, bsx, by show 0 ≤ y7 ∧ y7 ≤ 2; omega, rfl, rfl, by show 0 ≤ y6 ∧ y6 ≤ 1; omega⟩, ?_, (by show N ≤ 1000000; omega), (by show K ≤ 1000000; omega), (by show 0 ≤ 1000000; omega)⟩
    rw [EC.out, if_neg (by show ¬ kd = 3; omega)]
end Go.Proofs.Ytjjahenmhkkaaaa.Nn
