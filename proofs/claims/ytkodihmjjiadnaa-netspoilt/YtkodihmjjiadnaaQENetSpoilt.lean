import Derived.Test.YtkodihmjjiadnaaQDNetSpoilt
import Derived.Deep.RegionHeld3
import Derived.Deep.CutBlock
import Derived.Test.YtkodihmjjiadnaaQCNetSpoilt
import Derived.Test.YtkodihmjjiadnaaNP6
import Derived.Test.YtkodihmjjiadnaaNQ3
import Derived.BigQuiet
import Derived.Deep.QuietTactic
import Derived.Test.YtkodihmjjiadnaaQANetSpoilt
/- NETSPOILT: spoilt's cases: a weight more, a bias more. -/
namespace Go.Proofs.Ytkodihmjjiadnaa.Nn
open Go.RowKit

/-- The front of a row of one's own is one. -/
theorem own_front {W : World} {base e q n k c : Nat} {xs ys : List Value} (h : W.ownsRow base e 1 (.slice (some ⟨q, 0, none⟩) (n + k) c) (n + k) (xs ++ ys)) (hx : xs.length = n) : W.ownsRow base e 1 (.slice (some ⟨q, 0, none⟩) n c) n xs := by
  refine ⟨by rw [hx, Nat.mul_one], ?_⟩
  rcases h.2 with ⟨h', _⟩ | ⟨g, cap, cur, hv, hb, hg, h4, h5, h6, h7⟩
  · simp at h'
  · simp only [Value.slice.injEq, Option.some.injEq, Addr.mk.injEq, and_true, true_and] at hv
    obtain ⟨rfl, rfl⟩ := hv
    refine .inr ⟨q, c, cur, rfl, hb, hg, by omega, h5, h6, ?_⟩
    rw [Nat.mul_one] at h7 ⊢
    have e : (cur.toList.take (n + k)).take n = (xs ++ ys).take n := by rw [h7]
    rw [List.take_take, Nat.min_eq_left (by omega)] at e
    rw [e, ← hx, List.take_left]
theorem own_front8 {W : World} {base q c : Nat} {L : Ly} (h : Lo W base (bigL L)) (hq : L.aw = some ⟨q, 0, none⟩) (hc : L.cw = c) : W.ownsRow base 49 1 (.slice (some ⟨q, 0, none⟩) L.mw c) L.mw (cl L.mw fun j => .int .i8 (L.ws j)) := by
  have h1 := h.1
  rw [show (bigL L).aw = some ⟨q, 0, none⟩ from hq, show (bigL L).cw = c from hc] at h1
  have h1 : W.ownsRow base 49 1 (.slice (some ⟨q, 0, none⟩) (L.mw + 2) c) (L.mw + 2) (i8L ((List.range (L.mw + 2)).map (fun j => if j < L.mw then L.ws j else if j = L.mw then 71 else 72))) := h1
  unfold i8L at h1
  rw [two_map] at h1
  exact own_front h1 (cl_len _ _)
theorem own_front64 {W : World} {base q c : Nat} {L : Ly} (h : Lo W base (bigL L)) (hq : L.ab = some ⟨q, 0, none⟩) (hc : L.cb = c) : W.ownsRow base 2 1 (.slice (some ⟨q, 0, none⟩) L.mb c) L.mb (cl L.mb fun j => .int .i64 (L.bs j)) := by
  have h1 := h.2.2
  rw [show (bigL L).ab = some ⟨q, 0, none⟩ from hq, show (bigL L).cb = c from hc] at h1
  have h1 : W.ownsRow base 2 1 (.slice (some ⟨q, 0, none⟩) (L.mb + 2) c) (L.mb + 2) (i64L ((List.range (L.mb + 2)).map (fun j => if j < L.mb then L.bs j else if j = L.mb then 74 else 75))) := h1
  unfold i64L at h1
  rw [two_map] at h1
  exact own_front h1 (cl_len _ _)
/-- A list of weights that has grown. -/
theorem Tm.wapp {W Y : World} {base G cc M i q a c : Nat} {cf : Nat → Ly} (h : Tm W base G cc M cf) (hi : i < M) (hq : (cf i).aw = some ⟨q, 0, none⟩) (gr : W.grownBy Y (some q)) (own : Y.ownsRow base 49 1 (.slice (some ⟨a, 0, none⟩) ((cf i).mw + 1) c) ((cf i).mw + 1) ((cl (cf i).mw fun j => .int .i8 ((cf i).ws j)) ++ [.int .i8 1])) : Tf (Y.setCell ⟨G, i * 15 + 12, none⟩ (.slice (some ⟨a, 0, none⟩) ((cf i).mw + 1) c)) base G cc M (sn cf i (sp5L (cf i) (some ⟨a, 0, none⟩) c)) := by
  obtain ⟨h1, h2, h3⟩ := h
  have lk := (h2 i hi).1
  have ob : (Value.slice (bigL (cf i)).aw (bigL (cf i)).mw (bigL (cf i)).cw).ownBlock = some q := by show (Value.slice (cf i).aw _ _).ownBlock = some q; rw [hq]; rfl
  have keep : ∀ {b e s n : Nat} {v : Value} {xs : List Value}, W.ownsRow b e s v n xs → (∀ p, v.ownBlock = some p → p ≠ q) → Y.ownsRow b e s v n xs := fun {b e s n v xs} h hn => h.kept gr (by
    cases hv : v.ownBlock with
    | none => exact .inl rfl
    | some p => exact .inr (fun e => by cases e; exact hn q hv rfl))
  have k1 := keep h1 (ownNe h1 lk.1 (by decide) ob)
  have obG : (Value.slice (some ⟨G, 0, none⟩) (M + 1) cc).ownBlock = some G := rfl
  have set : ∀ {b e s n : Nat} {v : Value} {xs : List Value}, Y.ownsRow b e s v n xs → e ≠ 45 → (Y.setCell ⟨G, i * 15 + 12, none⟩ (.slice (some ⟨a, 0, none⟩) ((cf i).mw + 1) c)).ownsRow b e s v n xs := fun {b e s n v xs} h hn => own_setNe h (ownNe h k1 hn obG)
  refine ⟨?_, sn_at (P := fun L => ∃ B, Lo (Y.setCell ⟨G, i * 15 + 12, none⟩ (.slice (some ⟨a, 0, none⟩) ((cf i).mw + 1) c)) base B ∧ Cov B L) ?_ fun j hj hne => ?_⟩
  · rw [← ls_set1 (cf := cf) (c := 12) (u := .slice (some ⟨a, 0, none⟩) ((cf i).mw + 1) c) (L' := sp5L (cf i) (some ⟨a, 0, none⟩) c) hi (by decide) rfl]
    exact (k1.stored (i * 15 + 12) _).1
  · refine ⟨{ bigL (cf i) with aw := some ⟨a, 0, none⟩, cw := c, mw := (cf i).mw + 1, ws := fun j => if j = (cf i).mw then 1 else (cf i).ws j }, ⟨?_, set (keep lk.2.1 (ownNe lk.2.1 lk.1 (by decide) ob)) (by decide), set (keep lk.2.2 (ownNe lk.2.2 lk.1 (by decide) ob)) (by decide)⟩, ?_⟩
    · have e : i8L ((List.range ((cf i).mw + 1)).map fun j => if j = (cf i).mw then 1 else (cf i).ws j) = (cl (cf i).mw fun j => .int .i8 ((cf i).ws j)) ++ [.int .i8 1] := by
        unfold i8L cl
        rw [List.range_succ]
        simp only [List.map_append, List.map_cons, List.map_nil, List.map_map, if_pos]
        congr 1
        apply List.map_congr_left
        intro j hj
        have : j < (cf i).mw := List.mem_range.1 hj
        simp [show ¬ j = (cf i).mw by omega]
      show (Y.setCell _ _).ownsRow base _ 1 _ _ (i8L ((List.range ((cf i).mw + 1)).map fun j => if j = (cf i).mw then 1 else (cf i).ws j))
      rw [e]
      exact set own (by decide)
    · obtain ⟨-, c2, c3, m1, m2, m3, n1, n2, n3⟩ := cov_big (h2 i hi).2.1 (h2 i hi).2.2.1 (h2 i hi).2.2.2
      exact ⟨⟨rfl, Nat.le_refl _, fun _ _ => rfl⟩, c2, c3, by have := (h2 i hi).2.1; show (cf i).mw + 1 ≤ 2000000; omega, m2, m3, by show 1 ≤ (cf i).mw + 1; omega, n2, n3⟩
  · obtain ⟨l, b1, b2, b3⟩ := h2 j hj
    exact ⟨bigL (cf j), ⟨set (keep l.1 fun x hx e => (h3 j hj i hi hne).1 x (by rw [← hx]; unfold obW; cases (cf j).aw <;> rfl) (by rw [e]; unfold obW; rw [hq]; rfl)) (by decide), set (keep l.2.1 (ownNe l.2.1 lk.1 (by decide) ob)) (by decide), set (keep l.2.2 (ownNe l.2.2 lk.1 (by decide) ob)) (by decide)⟩, cov_big b1 b2 b3⟩
/-- A list of biases that has grown. -/
theorem Tm.bapp {W Y : World} {base G cc M i q a c : Nat} {cf : Nat → Ly} (h : Tm W base G cc M cf) (hi : i < M) (hq : (cf i).ab = some ⟨q, 0, none⟩) (gr : W.grownBy Y (some q)) (own : Y.ownsRow base 2 1 (.slice (some ⟨a, 0, none⟩) ((cf i).mb + 1) c) ((cf i).mb + 1) ((cl (cf i).mb fun j => .int .i64 ((cf i).bs j)) ++ [.int .i64 0])) : Tf (Y.setCell ⟨G, i * 15 + 14, none⟩ (.slice (some ⟨a, 0, none⟩) ((cf i).mb + 1) c)) base G cc M (sn cf i (sp8L (cf i) (some ⟨a, 0, none⟩) c)) := by
  obtain ⟨h1, h2, h3⟩ := h
  have lk := (h2 i hi).1
  have ob : (Value.slice (bigL (cf i)).ab (bigL (cf i)).mb (bigL (cf i)).cb).ownBlock = some q := by show (Value.slice (cf i).ab _ _).ownBlock = some q; rw [hq]; rfl
  have keep : ∀ {b e s n : Nat} {v : Value} {xs : List Value}, W.ownsRow b e s v n xs → (∀ p, v.ownBlock = some p → p ≠ q) → Y.ownsRow b e s v n xs := fun {b e s n v xs} h hn => h.kept gr (by
    cases hv : v.ownBlock with
    | none => exact .inl rfl
    | some p => exact .inr (fun e => by cases e; exact hn q hv rfl))
  have k1 := keep h1 (ownNe h1 lk.2.2 (by decide) ob)
  have obG : (Value.slice (some ⟨G, 0, none⟩) (M + 1) cc).ownBlock = some G := rfl
  have set : ∀ {b e s n : Nat} {v : Value} {xs : List Value}, Y.ownsRow b e s v n xs → e ≠ 45 → (Y.setCell ⟨G, i * 15 + 14, none⟩ (.slice (some ⟨a, 0, none⟩) ((cf i).mb + 1) c)).ownsRow b e s v n xs := fun {b e s n v xs} h hn => own_setNe h (ownNe h k1 hn obG)
  refine ⟨?_, sn_at (P := fun L => ∃ B, Lo (Y.setCell ⟨G, i * 15 + 14, none⟩ (.slice (some ⟨a, 0, none⟩) ((cf i).mb + 1) c)) base B ∧ Cov B L) ?_ fun j hj hne => ?_⟩
  · rw [← ls_set1 (cf := cf) (c := 14) (u := .slice (some ⟨a, 0, none⟩) ((cf i).mb + 1) c) (L' := sp8L (cf i) (some ⟨a, 0, none⟩) c) hi (by decide) rfl]
    exact (k1.stored (i * 15 + 14) _).1
  · refine ⟨{ bigL (cf i) with ab := some ⟨a, 0, none⟩, cb := c, mb := (cf i).mb + 1, bs := fun j => if j = (cf i).mb then 0 else (cf i).bs j }, ⟨set (keep lk.1 (ownNe lk.1 lk.2.2 (by decide) ob)) (by decide), set (keep lk.2.1 (ownNe lk.2.1 lk.2.2 (by decide) ob)) (by decide), ?_⟩, ?_⟩
    · have e : i64L ((List.range ((cf i).mb + 1)).map fun j => if j = (cf i).mb then 0 else (cf i).bs j) = (cl (cf i).mb fun j => .int .i64 ((cf i).bs j)) ++ [.int .i64 0] := by
        unfold i64L cl
        rw [List.range_succ]
        simp only [List.map_append, List.map_cons, List.map_nil, List.map_map, if_pos]
        congr 1
        apply List.map_congr_left
        intro j hj
        have : j < (cf i).mb := List.mem_range.1 hj
        simp [show ¬ j = (cf i).mb by omega]
      show (Y.setCell _ _).ownsRow base _ 1 _ _ (i64L ((List.range ((cf i).mb + 1)).map fun j => if j = (cf i).mb then 0 else (cf i).bs j))
      rw [e]
      exact set own (by decide)
    · obtain ⟨c1, c2, -, m1, m2, m3, n1, n2, n3⟩ := cov_big (h2 i hi).2.1 (h2 i hi).2.2.1 (h2 i hi).2.2.2
      exact ⟨c1, c2, ⟨rfl, Nat.le_refl _, fun _ _ => rfl⟩, m1, m2, by have := (h2 i hi).2.2.2; show (cf i).mb + 1 ≤ 2000000; omega, n1, n2, by show 1 ≤ (cf i).mb + 1; omega⟩
  · obtain ⟨l, b1, b2, b3⟩ := h2 j hj
    exact ⟨bigL (cf j), ⟨set (keep l.1 (ownNe l.1 lk.2.2 (by decide) ob)) (by decide), set (keep l.2.1 (ownNe l.2.1 lk.2.2 (by decide) ob)) (by decide), set (keep l.2.2 fun x hx e => (h3 j hj i hi hne).2.1 x (by rw [← hx]; unfold obB; cases (cf j).ab <;> rfl) (by rw [e]; unfold obB; rw [hq]; rfl)) (by decide)⟩, cov_big b1 b2 b3⟩
end Go.Proofs.Ytkodihmjjiadnaa.Nn
/- NETSPOILT: spoilt's cases: a weight more, a bias more: the walks. -/
namespace Go.Proofs.Ytkodihmjjiadnaa.Nn
open Go.RowKit

theorem app_oneW {ops : Array Oper} {rest : List Oper} {o : Oper} {a : Act} {Q : Exit → Act → World → Prop} {w : World} (hgd : o.guard = none) (s x : Operand)
    (ho : o.op = .call { callee := .builtin .append, args := #[s, x], argTypes := #[41, 41] }) (base : Nat) (v : Value) (xs : List Value) (n : Nat) (hs : a.eval s = v) (hown : w.ownsRow base 49 1 v n xs)
    (g cb : Nat) (y : Int) (hx : a.eval x = .slice (some ⟨g, 0, none⟩) 1 cb) (r0 : w.cell? ⟨g, 0, none⟩ = some (.int .i8 y)) (hM : n ≤ 140737488355326) (hb : base ≤ w.heap.size)
    (h : ∀ v' w', w'.ownsRow base 49 1 v' (n + 1) (xs ++ [.int .i8 y]) → w.grownBy w' v.ownBlock → wpList Try.prog ops Q rest (a.put o.dst v') w') : wpList Try.prog ops Q (o :: rest) a w := by
  obtain ⟨i0, hi, hz0, hz1, hz2⟩ := info_parts cinfW
  refine wpList_append_own w hgd s x _ ho base 49 i0 _ 1 1 cundW hi hz0 hz1 hz2 rfl (by decide) v n xs hs hown ⟨g, 0, none⟩ 1 cb [.int .i8 y] hx rfl (fun j u hu => ?_) (fun u hu => by simp at hu; subst hu; rfl) (by unfold maxLen; omega) (by omega) hb fun v' w' k1 k2 _ => h v' w' k1 k2
  rcases j with _ | j
  · simp at hu; subst hu; exact r0
  · simp at hu
theorem app_oneB {ops : Array Oper} {rest : List Oper} {o : Oper} {a : Act} {Q : Exit → Act → World → Prop} {w : World} (hgd : o.guard = none) (s x : Operand)
    (ho : o.op = .call { callee := .builtin .append, args := #[s, x], argTypes := #[43, 43] }) (base : Nat) (v : Value) (xs : List Value) (n : Nat) (hs : a.eval s = v) (hown : w.ownsRow base 2 1 v n xs)
    (g cb : Nat) (y : Int) (hx : a.eval x = .slice (some ⟨g, 0, none⟩) 1 cb) (r0 : w.cell? ⟨g, 0, none⟩ = some (.int .i64 y)) (hM : n * 8 ≤ 140737488355312) (hb : base ≤ w.heap.size)
    (h : ∀ v' w', w'.ownsRow base 2 1 v' (n + 1) (xs ++ [.int .i64 y]) → w.grownBy w' v.ownBlock → wpList Try.prog ops Q rest (a.put o.dst v') w') : wpList Try.prog ops Q (o :: rest) a w := by
  obtain ⟨i0, hi, hz0, hz1, hz2⟩ := info_parts cinfB
  refine wpList_append_own w hgd s x _ ho base 2 i0 _ 1 8 cundB hi hz0 hz1 hz2 rfl (by decide) v n xs hs hown ⟨g, 0, none⟩ 1 cb [.int .i64 y] hx rfl (fun j u hu => ?_) (fun u hu => by simp at hu; subst hu; rfl) (by unfold maxLen; omega) (by omega) hb fun v' w' k1 k2 _ => h v' w' k1 k2
  rcases j with _ | j
  · simp at hu; subst hu; exact r0
  · simp at hu
attribute [local go_sem ↓] Go.wp_at_zero Go.wp_at_succ
set_option maxHeartbeats 64000000 in
set_option maxRecDepth 100000 in
theorem so_5 (u0 u1 u2 u3 u4 u5 u7 u8 u13 u14 u15 u16 u17 u18 u19 u20 u21 u22 u23 u24 u25 u26 u27 u28 u29 u31 u32 u33 u34 u35 u36 u37 u38 u39 u40 u41 u42 u43 u44 u45 u46 u47 u48 u49 u50 u51 u52 u53 u54 u55 u56 u57 u58 u59 u60 u61 u62 u63 u64 u65 u66 u67 u68 u69 u70 u71 u72 u73 u74 u75 u76 u77 u78 u79 u80 u81 u82 u83 u84 u85 u86 u87 u88 u89 u90 u91 u92 u93 u94 u95 u96 u97 u98 u99 u100 u101 u102 u103 u104 u105 u106 u107 u108 u109 u110 u111 u112 u113 u114 u115 u116 u117 u118 u119 u120 u121 u122 u123 u124 u125 u126 u127 u128 u129 u130 u131 u132 u133 u134 u135 u136 u137 u138 u139 u140 u141 u142 u143 u144 u145 u146 u147 u148 u149 u150 u151 u152 u153 u154 u155 u156 u157 u158 u159 u160 u161 u162 u163 u164 u165 u166 u167 u168 u169 u170 u171 u172 u173 u174 u175 u176 u177 u178 u179 u180 u181 u182 u183 u184 u185 u186 u187 : Value) (g6 g9 G cc M i : Nat) (nm : ByteArray) (H V C : Int) (cf : Nat → Ly) (la pb : Bool) (w0 X0 : World) (Q : Exit → Act → World → Prop)
    (HSB : Hid (Sb X0 w0 g6 g9 G cc M i nm H V C cf)) (HPB : Hid (((cf i).kd == 3) = pb)) 
    (hQ : Hid (∀ (X : World) (E : Int) (b : Bool) (v31 v32 v33 v34 v35 v36 v37 v38 v39 v40 v41 v42 v43 v44 v45 v46 v47 v48 v49 v50 v51 v52 v53 v54 v55 v56 v57 v58 v59 v60 v61 v62 v63 v64 v65 v66 v67 v68 v69 v70 v71 v72 v73 v74 v75 v76 v77 v78 v79 v80 v81 v82 v83 v84 v85 v86 v87 v88 v89 v90 v91 v92 v93 v94 v95 v96 v97 v98 v99 v100 v101 v102 v103 v104 v105 v106 v107 v108 v109 v110 v111 v112 v113 v114 v115 v116 v117 v118 v119 v120 v121 v122 v123 v124 v125 v126 v127 v128 v129 v130 v131 v132 v133 v134 v135 v136 v137 v138 v139 v140 v141 v142 v143 v144 v145 v146 v147 v148 v149 v150 v151 v152 v153 v154 v155 v156 v157 v158 v159 v160 v161 v162 v163 v164 v165 v166 v167 v168 v169 v170 v171 v172 v173 v174 v175 v176 v177 v178 v179 v180 v181 v182 v183 v184 v185 v186 v187 : Value), Sr X w0 g6 G cc M i nm H V C cf la E b → Q .ret ⟨#[u0, u1, u2, u3, u4, u5, .pointer (some ⟨g6, 0, none⟩), .int .i64 E, .bool b, .pointer (some ⟨g9, 0, none⟩), .pointer (some ⟨G, i * 15, none⟩), .bool pb, .bool la, u13, u14, u15, u16, u17, u18, u19, u20, u21, u22, u23, u24, u25, u26, u27, u28, u29, .int .i64 5, v31, v32, v33, v34, v35, v36, v37, v38, v39, v40, v41, v42, v43, v44, v45, v46, v47, v48, v49, v50, v51, v52, v53, v54, v55, v56, v57, v58, v59, v60, v61, v62, v63, v64, v65, v66, v67, v68, v69, v70, v71, v72, v73, v74, v75, v76, v77, v78, v79, v80, v81, v82, v83, v84, v85, v86, v87, v88, v89, v90, v91, v92, v93, v94, v95, v96, v97, v98, v99, v100, v101, v102, v103, v104, v105, v106, v107, v108, v109, v110, v111, v112, v113, v114, v115, v116, v117, v118, v119, v120, v121, v122, v123, v124, v125, v126, v127, v128, v129, v130, v131, v132, v133, v134, v135, v136, v137, v138, v139, v140, v141, v142, v143, v144, v145, v146, v147, v148, v149, v150, v151, v152, v153, v154, v155, v156, v157, v158, v159, v160, v161, v162, v163, v164, v165, v166, v167, v168, v169, v170, v171, v172, v173, v174, v175, v176, v177, v178, v179, v180, v181, v182, v183, v184, v185, v186, v187], []⟩ X)) :
    Code.wp Try.prog csB0 Q ⟨#[u0, u1, u2, u3, u4, u5, .pointer (some ⟨g6, 0, none⟩), u7, u8, .pointer (some ⟨g9, 0, none⟩), .pointer (some ⟨G, i * 15, none⟩), .bool pb, .bool la, u13, u14, u15, u16, u17, u18, u19, u20, u21, u22, u23, u24, u25, u26, u27, u28, u29, .int .i64 5, u31, u32, u33, u34, u35, u36, u37, u38, u39, u40, u41, u42, u43, u44, u45, u46, u47, u48, u49, u50, u51, u52, u53, u54, u55, u56, u57, u58, u59, u60, u61, u62, u63, u64, u65, u66, u67, u68, u69, u70, u71, u72, u73, u74, u75, u76, u77, u78, u79, u80, u81, u82, u83, u84, u85, u86, u87, u88, u89, u90, u91, u92, u93, u94, u95, u96, u97, u98, u99, u100, u101, u102, u103, u104, u105, u106, u107, u108, u109, u110, u111, u112, u113, u114, u115, u116, u117, u118, u119, u120, u121, u122, u123, u124, u125, u126, u127, u128, u129, u130, u131, u132, u133, u134, u135, u136, u137, u138, u139, u140, u141, u142, u143, u144, u145, u146, u147, u148, u149, u150, u151, u152, u153, u154, u155, u156, u157, u158, u159, u160, u161, u162, u163, u164, u165, u166, u167, u168, u169, u170, u171, u172, u173, u174, u175, u176, u177, u178, u179, u180, u181, u182, u183, u184, u185, u186, u187], []⟩ X0 := by
  conv => arg 2; whnf
  obtain ⟨hT, h9, h6, b6, b9, h69, hi, hM, BX⟩ := HSB.out
  have TF := hT.tf
  have nG9 : G ≠ g9 := fun e => rowNe h9 hT.1 (by decide) rfl e.symm
  have nG6 : G ≠ g6 := fun e => rowNe h6 hT.1 (by decide) rfl e.symm
  have n9G : g9 ≠ G := fun e => nG9 e.symm
  have n6G : g6 ≠ G := fun e => nG6 e.symm
  have n69 : g6 ≠ g9 := h69
  have n96 : g9 ≠ g6 := fun e => h69 e.symm
  have bG : w0.heap.size ≤ G := (hT.1.lt G rfl).1
  have n0 : X0.cell? ⟨g9, 0, none⟩ = some (.string nm) := h9.cell (i := 0) (by decide)
  have n1 : X0.cell? ⟨g9, 1, none⟩ = some (.int .i64 H) := h9.cell (i := 1) (by decide)
  have n2 : X0.cell? ⟨g9, 2, none⟩ = some (.int .i64 V) := h9.cell (i := 2) (by decide)
  have n3 : X0.cell? ⟨g9, 3, none⟩ = some (.int .i64 C) := h9.cell (i := 3) (by decide)
  have n4 : X0.cell? ⟨g9, 4, none⟩ = some (.slice (some ⟨G, 0, none⟩) M cc) := h9.cell (i := 4) (by decide)
  have r0 : X0.cell? ⟨g6, 0, none⟩ = some (.string ⟨#[]⟩) := h6.cell (i := 0) (by decide)
  have r1 : X0.cell? ⟨g6, 1, none⟩ = some (.int .i64 0) := h6.cell (i := 1) (by decide)
  have r2 : X0.cell? ⟨g6, 2, none⟩ = some (.int .i64 0) := h6.cell (i := 2) (by decide)
  have r3 : X0.cell? ⟨g6, 3, none⟩ = some (.int .i64 0) := h6.cell (i := 3) (by decide)
  have r4 : X0.cell? ⟨g6, 4, none⟩ = some (.slice none 0 0) := h6.cell (i := 4) (by decide)
  have f0 := h6.frozen 0
  have f1 := h6.frozen 1
  have f2 := h6.frozen 2
  have f3 := h6.frozen 3
  have f4 := h6.frozen 4
  have l12 : X0.cell? ⟨G, i * 15 + 12, none⟩ = some (.slice (cf i).aw (cf i).mw (cf i).cw) := TF.cells (c := 12) hi (by decide)
  have lo := (hT.2.1 i hi).1
  obtain ⟨q, eq, ecc, hqb, hql, -⟩ := own_cellsS lo.1 (by show 1 ≤ (cf i).mw + 2; omega)
  have eq : (cf i).aw = some ⟨q, 0, none⟩ := eq
  have own0 := own_front8 lo eq rfl
  have bmw := (hT.2.1 i hi).2
  have B1 : Below X0.heap.size X0 (X0.alloc (.cells #[.int .i8 1] 49)) := bl_alloc (Below.refl _ _) _
  have HT := hid1 (hT.keep B1)
  have HEQ := hid1 eq
  have HH6 := hid1 (World.rowIs.of_block h6 (B1.block _ h6.lt))
  have HH9 := hid1 (World.rowIs.of_block h9 (B1.block _ h9.lt))
  have n6q : g6 ≠ q := rowNe h6 own0 (by decide) rfl
  have n9q : g9 ≠ q := rowNe h9 own0 (by decide) rfl
  have nGq : G ≠ q := fun e => ownNe hT.1 own0 (by decide) rfl G rfl e
  have HO := hid1 own0
  have HBX := hid1 BX
  have hbs : w0.heap.size ≤ X0.heap.size := BX.size
  rw [eq] at l12
  clear own0 lo h9 h6 h69 BX B1 TF hT eq n0 n1 n2 n3 n4 r0 r1 r2 r3 r4 f0 f1 f2 f3 f4 ecc
  go_upto_region 31 with (at_builtin; refine app_oneW rfl _ _ rfl w0.heap.size (.slice (some ⟨q, 0, none⟩) (cf i).mw (cf i).cw) (cl (cf i).mw fun j => .int .i8 ((cf i).ws j)) (cf i).mw (by go_simp) (HO.out.alloc _) X0.heap.size 1 1 (by go_simp) (by simp [go_sem]) (by omega) (by simp; omega) ?_; intro v9 y9 own9 gr9; obtain ⟨a9', c9, rfl⟩ := own_isP own9; obtain ⟨a9, rfl, -, -, -, -⟩ := own_cellsS own9 (by omega); have HTF := hid1 (HT.out.wapp hi HEQ.out gr9 own9); have R6 := World.rowIs.of_block HH6.out (gr9.block g6 HH6.out.lt (fun e => n6q (by cases e; rfl))); have R9 := World.rowIs.of_block HH9.out (gr9.block g9 HH9.out.lt (fun e => n9q (by cases e; rfl))); have kG := HT.out.1.kept gr9 (.inr (fun e => nGq (by cases e; rfl))); have y12 : y9.cell? ⟨G, i * 15 + 12, none⟩ = some (.slice (some ⟨q, 0, none⟩) (cf i).mw (cf i).cw) := (World.cell?_of_block (gr9.block G (by have := HT.out.1.lt G rfl; omega) (fun e => nGq (by cases e; rfl)))).trans ((HT.out.tf.cells (c := 12) hi (by decide)).trans (by rw [← HEQ.out]; rfl)); have z12 : y9.frozen? ⟨G, i * 15 + 12, none⟩ = false := kG.frozenAt _; have HR6 : Hid ((y9.setCell ⟨G, i * 15 + 12, none⟩ (.slice (some ⟨a9, 0, none⟩) ((cf i).mw + 1) c9)).rowIs g6 28 5 (netF ⟨#[]⟩ 0 0 0 (.slice none 0 0))) := hid1 (R6.setOther n6G _); have HBB : Hid (Below w0.heap.size w0 (y9.setCell ⟨G, i * 15 + 12, none⟩ (.slice (some ⟨a9, 0, none⟩) ((cf i).mw + 1) c9))) := hid1 (bl_set (gr_bel gr9 (bl_alloc HBX.out _) (fun k hk => by cases hk; exact hqb)) bG _); have HR9 := hid1 R9; have HR6b := hid1 R6; clear own9 gr9 kG R6 R9 l12)
  refine gen_world (fun Y => Tf Y w0.heap.size G cc M (sn cf i (sp5L (cf i) (some ⟨a9, 0, none⟩) c9)) ∧ Y.rowIs g9 28 5 (netF nm H V C (.slice (some ⟨G, 0, none⟩) M cc)) ∧ Y.rowIs g6 28 5 (netF ⟨#[]⟩ 0 0 0 (.slice none 0 0)) ∧ Below w0.heap.size w0 Y) ⟨HTF.out, HR9.out.setOther n9G _, HR6.out, HBB.out⟩ ?_
  clear HTF HR6 HBB HR9 HR6b y12 z12
  rintro Y ⟨TF, h9, h6, BX⟩
  have HTF := hid1 TF
  have HR6 := hid1 h6
  have HBB := hid1 BX
  have n0 : Y.cell? ⟨g9, 0, none⟩ = some (.string nm) := h9.cell (i := 0) (by decide)
  have n1 : Y.cell? ⟨g9, 1, none⟩ = some (.int .i64 H) := h9.cell (i := 1) (by decide)
  have n2 : Y.cell? ⟨g9, 2, none⟩ = some (.int .i64 V) := h9.cell (i := 2) (by decide)
  have n3 : Y.cell? ⟨g9, 3, none⟩ = some (.int .i64 C) := h9.cell (i := 3) (by decide)
  have n4 : Y.cell? ⟨g9, 4, none⟩ = some (.slice (some ⟨G, 0, none⟩) M cc) := h9.cell (i := 4) (by decide)
  have r0 : Y.cell? ⟨g6, 0, none⟩ = some (.string ⟨#[]⟩) := h6.cell (i := 0) (by decide)
  have r1 : Y.cell? ⟨g6, 1, none⟩ = some (.int .i64 0) := h6.cell (i := 1) (by decide)
  have r2 : Y.cell? ⟨g6, 2, none⟩ = some (.int .i64 0) := h6.cell (i := 2) (by decide)
  have r3 : Y.cell? ⟨g6, 3, none⟩ = some (.int .i64 0) := h6.cell (i := 3) (by decide)
  have r4 : Y.cell? ⟨g6, 4, none⟩ = some (.slice none 0 0) := h6.cell (i := 4) (by decide)
  have f0 := h6.frozen 0
  have f1 := h6.frozen 1
  have f2 := h6.frozen 2
  have f3 := h6.frozen 3
  have f4 := h6.frozen 4
  clear TF h9 h6 BX
  cases pb
  · have e : ¬ (cf i).kd = 3 := by simpa using HPB.out
    have HE := hid1 e
    clear e
    go_wp2_with fail
    refine hQ.out _ 52 true _ _ _ _ _ _ _ _ _ _ _ _ _ _ _ _ _ _ _ _ _ _ _ _ _ _ _ _ _ _ _ _ _ _ _ _ _ _ _ _ _ _ _ _ _ _ _ _ _ _ _ _ _ _ _ _ _ _ _ _ _ _ _ _ _ _ _ _ _ _ _ _ _ _ _ _ _ _ _ _ _ _ _ _ _ _ _ _ _ _ _ _ _ _ _ _ _ _ _ _ _ _ _ _ _ _ _ _ _ _ _ _ _ _ _ _ _ _ _ _ _ _ _ _ _ _ _ _ _ _ _ _ _ _ _ _ _ _ _ _ _ _ _ _ _ _ _ _ _ _ _ _ _ _ _ _ _ ?_
    exact sr_end HR6.out b6 HTF.out (fun _ S q _ _ _ => ⟨by rw [sp_5 q, if_neg HE.out], by decide⟩) HBB.out
  · have e : (cf i).kd = 3 := by simpa using HPB.out
    have HE := hid1 e
    clear e
    go_wp2_with fail
    refine hQ.out _ 51 true _ _ _ _ _ _ _ _ _ _ _ _ _ _ _ _ _ _ _ _ _ _ _ _ _ _ _ _ _ _ _ _ _ _ _ _ _ _ _ _ _ _ _ _ _ _ _ _ _ _ _ _ _ _ _ _ _ _ _ _ _ _ _ _ _ _ _ _ _ _ _ _ _ _ _ _ _ _ _ _ _ _ _ _ _ _ _ _ _ _ _ _ _ _ _ _ _ _ _ _ _ _ _ _ _ _ _ _ _ _ _ _ _ _ _ _ _ _ _ _ _ _ _ _ _ _ _ _ _ _ _ _ _ _ _ _ _ _ _ _ _ _ _ _ _ _ _ _ _ _ _ _ _ _ _ _ _ ?_
    exact sr_end HR6.out b6 HTF.out (fun _ S q _ _ _ => ⟨by rw [sp_5 q, if_pos HE.out], by decide⟩) HBB.out

attribute [local go_sem ↓] Go.wp_at_zero Go.wp_at_succ
set_option maxHeartbeats 64000000 in
set_option maxRecDepth 100000 in
theorem so_8 (u0 u1 u2 u3 u4 u5 u7 u8 u13 u14 u15 u16 u17 u18 u19 u20 u21 u22 u23 u24 u25 u26 u27 u28 u29 u31 u32 u33 u34 u35 u36 u37 u38 u39 u40 u41 u42 u43 u44 u45 u46 u47 u48 u49 u50 u51 u52 u53 u54 u55 u56 u57 u58 u59 u60 u61 u62 u63 u64 u65 u66 u67 u68 u69 u70 u71 u72 u73 u74 u75 u76 u77 u78 u79 u80 u81 u82 u83 u84 u85 u86 u87 u88 u89 u90 u91 u92 u93 u94 u95 u96 u97 u98 u99 u100 u101 u102 u103 u104 u105 u106 u107 u108 u109 u110 u111 u112 u113 u114 u115 u116 u117 u118 u119 u120 u121 u122 u123 u124 u125 u126 u127 u128 u129 u130 u131 u132 u133 u134 u135 u136 u137 u138 u139 u140 u141 u142 u143 u144 u145 u146 u147 u148 u149 u150 u151 u152 u153 u154 u155 u156 u157 u158 u159 u160 u161 u162 u163 u164 u165 u166 u167 u168 u169 u170 u171 u172 u173 u174 u175 u176 u177 u178 u179 u180 u181 u182 u183 u184 u185 u186 u187 : Value) (g6 g9 G cc M i : Nat) (nm : ByteArray) (H V C : Int) (cf : Nat → Ly) (la pb : Bool) (w0 X0 : World) (Q : Exit → Act → World → Prop)
    (HSB : Hid (Sb X0 w0 g6 g9 G cc M i nm H V C cf)) (_HPB : Hid (((cf i).kd == 3) = pb)) 
    (hQ : Hid (∀ (X : World) (E : Int) (b : Bool) (v31 v32 v33 v34 v35 v36 v37 v38 v39 v40 v41 v42 v43 v44 v45 v46 v47 v48 v49 v50 v51 v52 v53 v54 v55 v56 v57 v58 v59 v60 v61 v62 v63 v64 v65 v66 v67 v68 v69 v70 v71 v72 v73 v74 v75 v76 v77 v78 v79 v80 v81 v82 v83 v84 v85 v86 v87 v88 v89 v90 v91 v92 v93 v94 v95 v96 v97 v98 v99 v100 v101 v102 v103 v104 v105 v106 v107 v108 v109 v110 v111 v112 v113 v114 v115 v116 v117 v118 v119 v120 v121 v122 v123 v124 v125 v126 v127 v128 v129 v130 v131 v132 v133 v134 v135 v136 v137 v138 v139 v140 v141 v142 v143 v144 v145 v146 v147 v148 v149 v150 v151 v152 v153 v154 v155 v156 v157 v158 v159 v160 v161 v162 v163 v164 v165 v166 v167 v168 v169 v170 v171 v172 v173 v174 v175 v176 v177 v178 v179 v180 v181 v182 v183 v184 v185 v186 v187 : Value), Sr X w0 g6 G cc M i nm H V C cf la E b → Q .ret ⟨#[u0, u1, u2, u3, u4, u5, .pointer (some ⟨g6, 0, none⟩), .int .i64 E, .bool b, .pointer (some ⟨g9, 0, none⟩), .pointer (some ⟨G, i * 15, none⟩), .bool pb, .bool la, u13, u14, u15, u16, u17, u18, u19, u20, u21, u22, u23, u24, u25, u26, u27, u28, u29, .int .i64 8, v31, v32, v33, v34, v35, v36, v37, v38, v39, v40, v41, v42, v43, v44, v45, v46, v47, v48, v49, v50, v51, v52, v53, v54, v55, v56, v57, v58, v59, v60, v61, v62, v63, v64, v65, v66, v67, v68, v69, v70, v71, v72, v73, v74, v75, v76, v77, v78, v79, v80, v81, v82, v83, v84, v85, v86, v87, v88, v89, v90, v91, v92, v93, v94, v95, v96, v97, v98, v99, v100, v101, v102, v103, v104, v105, v106, v107, v108, v109, v110, v111, v112, v113, v114, v115, v116, v117, v118, v119, v120, v121, v122, v123, v124, v125, v126, v127, v128, v129, v130, v131, v132, v133, v134, v135, v136, v137, v138, v139, v140, v141, v142, v143, v144, v145, v146, v147, v148, v149, v150, v151, v152, v153, v154, v155, v156, v157, v158, v159, v160, v161, v162, v163, v164, v165, v166, v167, v168, v169, v170, v171, v172, v173, v174, v175, v176, v177, v178, v179, v180, v181, v182, v183, v184, v185, v186, v187], []⟩ X)) :
    Code.wp Try.prog csB0 Q ⟨#[u0, u1, u2, u3, u4, u5, .pointer (some ⟨g6, 0, none⟩), u7, u8, .pointer (some ⟨g9, 0, none⟩), .pointer (some ⟨G, i * 15, none⟩), .bool pb, .bool la, u13, u14, u15, u16, u17, u18, u19, u20, u21, u22, u23, u24, u25, u26, u27, u28, u29, .int .i64 8, u31, u32, u33, u34, u35, u36, u37, u38, u39, u40, u41, u42, u43, u44, u45, u46, u47, u48, u49, u50, u51, u52, u53, u54, u55, u56, u57, u58, u59, u60, u61, u62, u63, u64, u65, u66, u67, u68, u69, u70, u71, u72, u73, u74, u75, u76, u77, u78, u79, u80, u81, u82, u83, u84, u85, u86, u87, u88, u89, u90, u91, u92, u93, u94, u95, u96, u97, u98, u99, u100, u101, u102, u103, u104, u105, u106, u107, u108, u109, u110, u111, u112, u113, u114, u115, u116, u117, u118, u119, u120, u121, u122, u123, u124, u125, u126, u127, u128, u129, u130, u131, u132, u133, u134, u135, u136, u137, u138, u139, u140, u141, u142, u143, u144, u145, u146, u147, u148, u149, u150, u151, u152, u153, u154, u155, u156, u157, u158, u159, u160, u161, u162, u163, u164, u165, u166, u167, u168, u169, u170, u171, u172, u173, u174, u175, u176, u177, u178, u179, u180, u181, u182, u183, u184, u185, u186, u187], []⟩ X0 := by
  conv => arg 2; whnf
  obtain ⟨hT, h9, h6, b6, b9, h69, hi, hM, BX⟩ := HSB.out
  have TF := hT.tf
  have nG9 : G ≠ g9 := fun e => rowNe h9 hT.1 (by decide) rfl e.symm
  have nG6 : G ≠ g6 := fun e => rowNe h6 hT.1 (by decide) rfl e.symm
  have n9G : g9 ≠ G := fun e => nG9 e.symm
  have n6G : g6 ≠ G := fun e => nG6 e.symm
  have n69 : g6 ≠ g9 := h69
  have n96 : g9 ≠ g6 := fun e => h69 e.symm
  have bG : w0.heap.size ≤ G := (hT.1.lt G rfl).1
  have n0 : X0.cell? ⟨g9, 0, none⟩ = some (.string nm) := h9.cell (i := 0) (by decide)
  have n1 : X0.cell? ⟨g9, 1, none⟩ = some (.int .i64 H) := h9.cell (i := 1) (by decide)
  have n2 : X0.cell? ⟨g9, 2, none⟩ = some (.int .i64 V) := h9.cell (i := 2) (by decide)
  have n3 : X0.cell? ⟨g9, 3, none⟩ = some (.int .i64 C) := h9.cell (i := 3) (by decide)
  have n4 : X0.cell? ⟨g9, 4, none⟩ = some (.slice (some ⟨G, 0, none⟩) M cc) := h9.cell (i := 4) (by decide)
  have r0 : X0.cell? ⟨g6, 0, none⟩ = some (.string ⟨#[]⟩) := h6.cell (i := 0) (by decide)
  have r1 : X0.cell? ⟨g6, 1, none⟩ = some (.int .i64 0) := h6.cell (i := 1) (by decide)
  have r2 : X0.cell? ⟨g6, 2, none⟩ = some (.int .i64 0) := h6.cell (i := 2) (by decide)
  have r3 : X0.cell? ⟨g6, 3, none⟩ = some (.int .i64 0) := h6.cell (i := 3) (by decide)
  have r4 : X0.cell? ⟨g6, 4, none⟩ = some (.slice none 0 0) := h6.cell (i := 4) (by decide)
  have f0 := h6.frozen 0
  have f1 := h6.frozen 1
  have f2 := h6.frozen 2
  have f3 := h6.frozen 3
  have f4 := h6.frozen 4
  cases la
  · have HTF : Hid (Tf X0 w0.heap.size G cc M (sn cf i (cf i))) := hid1 (by rw [sn_id]; exact TF)
    have HR6 := hid1 h6
    have HBB := hid1 BX
    clear hT TF h9 h6 h69 BX
    go_wp2_with fail
    refine hQ.out _ 0 false _ _ _ _ _ _ _ _ _ _ _ _ _ _ _ _ _ _ _ _ _ _ _ _ _ _ _ _ _ _ _ _ _ _ _ _ _ _ _ _ _ _ _ _ _ _ _ _ _ _ _ _ _ _ _ _ _ _ _ _ _ _ _ _ _ _ _ _ _ _ _ _ _ _ _ _ _ _ _ _ _ _ _ _ _ _ _ _ _ _ _ _ _ _ _ _ _ _ _ _ _ _ _ _ _ _ _ _ _ _ _ _ _ _ _ _ _ _ _ _ _ _ _ _ _ _ _ _ _ _ _ _ _ _ _ _ _ _ _ _ _ _ _ _ _ _ _ _ _ _ _ _ _ _ _ _ _ ?_
    exact sr_end HR6.out b6 HTF.out (fun q => by cases q) HBB.out
  · skip
    have l12 : X0.cell? ⟨G, i * 15 + 14, none⟩ = some (.slice (cf i).ab (cf i).mb (cf i).cb) := TF.cells (c := 14) hi (by decide)
    have lo := (hT.2.1 i hi).1
    obtain ⟨q, eq, ecc, hqb, hql, -⟩ := own_cellsS lo.2.2 (by show 1 ≤ (cf i).mb + 2; omega)
    have eq : (cf i).ab = some ⟨q, 0, none⟩ := eq
    have own0 := own_front64 lo eq rfl
    have bmw := (hT.2.1 i hi).2
    have B1 : Below X0.heap.size X0 (X0.alloc (.cells #[.int .i64 0] 2)) := bl_alloc (Below.refl _ _) _
    have HT := hid1 (hT.keep B1)
    have HEQ := hid1 eq
    have HH6 := hid1 (World.rowIs.of_block h6 (B1.block _ h6.lt))
    have HH9 := hid1 (World.rowIs.of_block h9 (B1.block _ h9.lt))
    have n6q : g6 ≠ q := rowNe h6 own0 (by decide) rfl
    have n9q : g9 ≠ q := rowNe h9 own0 (by decide) rfl
    have nGq : G ≠ q := fun e => ownNe hT.1 own0 (by decide) rfl G rfl e
    have HO := hid1 own0
    have HBX := hid1 BX
    have hbs : w0.heap.size ≤ X0.heap.size := BX.size
    rw [eq] at l12
    clear own0 lo h9 h6 h69 BX B1 TF hT eq n0 n1 n2 n3 n4 r0 r1 r2 r3 r4 f0 f1 f2 f3 f4 ecc
    go_upto_region 48 with (at_builtin; refine app_oneB rfl _ _ rfl w0.heap.size (.slice (some ⟨q, 0, none⟩) (cf i).mb (cf i).cb) (cl (cf i).mb fun j => .int .i64 ((cf i).bs j)) (cf i).mb (by go_simp) (HO.out.alloc _) X0.heap.size 1 0 (by go_simp) (by simp [go_sem]) (by omega) (by simp; omega) ?_; intro v9 y9 own9 gr9; obtain ⟨a9', c9, rfl⟩ := own_isP own9; obtain ⟨a9, rfl, -, -, -, -⟩ := own_cellsS own9 (by omega); have HTF := hid1 (HT.out.bapp hi HEQ.out gr9 own9); have R6 := World.rowIs.of_block HH6.out (gr9.block g6 HH6.out.lt (fun e => n6q (by cases e; rfl))); have R9 := World.rowIs.of_block HH9.out (gr9.block g9 HH9.out.lt (fun e => n9q (by cases e; rfl))); have kG := HT.out.1.kept gr9 (.inr (fun e => nGq (by cases e; rfl))); have y12 : y9.cell? ⟨G, i * 15 + 14, none⟩ = some (.slice (some ⟨q, 0, none⟩) (cf i).mb (cf i).cb) := (World.cell?_of_block (gr9.block G (by have := HT.out.1.lt G rfl; omega) (fun e => nGq (by cases e; rfl)))).trans ((HT.out.tf.cells (c := 14) hi (by decide)).trans (by rw [← HEQ.out]; rfl)); have z12 : y9.frozen? ⟨G, i * 15 + 14, none⟩ = false := kG.frozenAt _; have HR6 : Hid ((y9.setCell ⟨G, i * 15 + 14, none⟩ (.slice (some ⟨a9, 0, none⟩) ((cf i).mb + 1) c9)).rowIs g6 28 5 (netF ⟨#[]⟩ 0 0 0 (.slice none 0 0))) := hid1 (R6.setOther n6G _); have HBB : Hid (Below w0.heap.size w0 (y9.setCell ⟨G, i * 15 + 14, none⟩ (.slice (some ⟨a9, 0, none⟩) ((cf i).mb + 1) c9))) := hid1 (bl_set (gr_bel gr9 (bl_alloc HBX.out _) (fun k hk => by cases hk; exact hqb)) bG _); have HR9 := hid1 R9; have HR6b := hid1 R6; clear own9 gr9 kG R6 R9 l12)
    refine gen_world (fun Y => Tf Y w0.heap.size G cc M (sn cf i (sp8L (cf i) (some ⟨a9, 0, none⟩) c9)) ∧ Y.rowIs g9 28 5 (netF nm H V C (.slice (some ⟨G, 0, none⟩) M cc)) ∧ Y.rowIs g6 28 5 (netF ⟨#[]⟩ 0 0 0 (.slice none 0 0)) ∧ Below w0.heap.size w0 Y) ⟨HTF.out, HR9.out.setOther n9G _, HR6.out, HBB.out⟩ ?_
    clear HTF HR6 HBB HR9 HR6b y12 z12
    rintro Y ⟨TF, h9, h6, BX⟩
    have HTF := hid1 TF
    have HR6 := hid1 h6
    have HBB := hid1 BX
    have n0 : Y.cell? ⟨g9, 0, none⟩ = some (.string nm) := h9.cell (i := 0) (by decide)
    have n1 : Y.cell? ⟨g9, 1, none⟩ = some (.int .i64 H) := h9.cell (i := 1) (by decide)
    have n2 : Y.cell? ⟨g9, 2, none⟩ = some (.int .i64 V) := h9.cell (i := 2) (by decide)
    have n3 : Y.cell? ⟨g9, 3, none⟩ = some (.int .i64 C) := h9.cell (i := 3) (by decide)
    have n4 : Y.cell? ⟨g9, 4, none⟩ = some (.slice (some ⟨G, 0, none⟩) M cc) := h9.cell (i := 4) (by decide)
    have r0 : Y.cell? ⟨g6, 0, none⟩ = some (.string ⟨#[]⟩) := h6.cell (i := 0) (by decide)
    have r1 : Y.cell? ⟨g6, 1, none⟩ = some (.int .i64 0) := h6.cell (i := 1) (by decide)
    have r2 : Y.cell? ⟨g6, 2, none⟩ = some (.int .i64 0) := h6.cell (i := 2) (by decide)
    have r3 : Y.cell? ⟨g6, 3, none⟩ = some (.int .i64 0) := h6.cell (i := 3) (by decide)
    have r4 : Y.cell? ⟨g6, 4, none⟩ = some (.slice none 0 0) := h6.cell (i := 4) (by decide)
    have f0 := h6.frozen 0
    have f1 := h6.frozen 1
    have f2 := h6.frozen 2
    have f3 := h6.frozen 3
    have f4 := h6.frozen 4
    clear TF h9 h6 BX
    go_wp2_with fail
    refine hQ.out _ 54 true _ _ _ _ _ _ _ _ _ _ _ _ _ _ _ _ _ _ _ _ _ _ _ _ _ _ _ _ _ _ _ _ _ _ _ _ _ _ _ _ _ _ _ _ _ _ _ _ _ _ _ _ _ _ _ _ _ _ _ _ _ _ _ _ _ _ _ _ _ _ _ _ _ _ _ _ _ _ _ _ _ _ _ _ _ _ _ _ _ _ _ _ _ _ _ _ _ _ _ _ _ _ _ _ _ _ _ _ _ _ _ _ _ _ _ _ _ _ _ _ _ _ _ _ _ _ _ _ _ _ _ _ _ _ _ _ _ _ _ _ _ _ _ _ _ _ _ _ _ _ _ _ _ _ _ _ _ ?_
    exact sr_end HR6.out b6 HTF.out (fun _ S q _ hl _ => ⟨sp_8 q hl _ _, by decide⟩) HBB.out

end Go.Proofs.Ytkodihmjjiadnaa.Nn
/- NETSPOILT: spoilt's cases: the last weight; a weight more, a bias more. -/
namespace Go.Proofs.Ytkodihmjjiadnaa.Nn
open Go.RowKit

noncomputable def cs37 : Code := (Try.f8.body.bind (regionOf 37)).getD .skip
attribute [local go_sem ↓] Go.wp_at_zero Go.wp_at_succ
set_option maxHeartbeats 64000000 in
set_option maxRecDepth 100000 in
theorem so_r37 (u0 u1 u2 u3 u4 u5 u6 u7 u8 u9 u11 u12 u13 u14 u15 u16 u17 u18 u19 u20 u21 u22 u23 u24 u25 u26 u27 u28 u29 u30 u31 u32 u33 u34 u35 u36 u37 u38 u39 u40 u41 u42 u43 u44 u45 u46 u47 u48 u49 u50 u51 u52 u53 u54 u55 u56 u57 u58 u59 u60 u61 u62 u63 u64 u65 u66 u67 u68 u69 u70 u71 u72 u73 u74 u75 u76 u77 u78 u79 u80 u81 u82 u83 u84 u85 u86 u87 u88 u89 u90 u91 u92 u93 u94 u95 u96 u97 u98 u99 u100 u101 u102 u103 u104 u105 u106 u107 u108 u109 u110 u111 u112 u113 u114 u115 u116 u117 u118 u119 u120 u121 u122 u123 u124 u125 u126 u127 u128 u129 u130 u131 u132 u133 u134 u135 u136 u137 u138 u139 u140 u141 u142 u143 u144 u145 u146 u147 u148 u149 u150 u151 u152 u153 u154 u155 u156 u157 u158 u159 u160 u161 u162 u163 u164 u165 u166 u167 u168 u169 u170 u171 u172 u173 u174 u175 u176 u177 u178 u179 u180 u181 u182 u183 u184 u185 u186 u187 : Value) (G i q mw pp cw : Nat) (x0 : Value) (X0 : World) (Q : Exit → Act → World → Prop) (l12 : X0.cell? ⟨G, i * 15 + 12, none⟩ = some (.slice (some ⟨q, 0, none⟩) mw cw)) (hx0 : X0.cell? ⟨q, pp, none⟩ = some x0) (fz : X0.frozen? ⟨q, pp, none⟩ = false) (wP : IntKind.i64.wrap ((mw : Int) - 1) = (pp : Int)) (p0 : (0 : Int) ≤ (pp : Int)) (p1 : (pp : Int) < (mw : Int)) (nGq : G ≠ q)
    (hQ : Hid (∀ (v104 v105 v106 v107 v108 v109 v110 v111 v112 v113 v114 : Value), Q .normal ⟨#[u0, u1, u2, u3, u4, u5, u6, u7, u8, u9, .pointer (some ⟨G, i * 15, none⟩), u11, u12, u13, u14, u15, u16, u17, u18, u19, u20, u21, u22, u23, u24, u25, u26, u27, u28, u29, u30, u31, u32, u33, u34, u35, u36, u37, u38, u39, u40, u41, u42, u43, u44, u45, u46, u47, u48, u49, u50, u51, u52, u53, u54, u55, u56, u57, u58, u59, u60, u61, u62, u63, u64, u65, u66, u67, u68, u69, u70, u71, u72, u73, u74, u75, u76, u77, u78, u79, u80, u81, u82, u83, u84, u85, u86, u87, u88, u89, u90, u91, u92, u93, u94, u95, u96, u97, u98, u99, u100, u101, u102, u103, v104, v105, v106, v107, v108, v109, v110, v111, v112, v113, v114, u115, u116, u117, u118, u119, u120, u121, u122, u123, u124, u125, u126, u127, u128, u129, u130, u131, u132, u133, u134, u135, u136, u137, u138, u139, u140, u141, u142, u143, u144, u145, u146, u147, u148, u149, u150, u151, u152, u153, u154, u155, u156, u157, u158, u159, u160, u161, u162, u163, u164, u165, u166, u167, u168, u169, u170, u171, u172, u173, u174, u175, u176, u177, u178, u179, u180, u181, u182, u183, u184, u185, u186, u187], []⟩ ((X0.setCell ⟨q, pp, none⟩ (.int .i8 2)).drew))) :
    Code.wp Try.prog cs37 Q ⟨#[u0, u1, u2, u3, u4, u5, u6, u7, u8, u9, .pointer (some ⟨G, i * 15, none⟩), u11, u12, u13, u14, u15, u16, u17, u18, u19, u20, u21, u22, u23, u24, u25, u26, u27, u28, u29, u30, u31, u32, u33, u34, u35, u36, u37, u38, u39, u40, u41, u42, u43, u44, u45, u46, u47, u48, u49, u50, u51, u52, u53, u54, u55, u56, u57, u58, u59, u60, u61, u62, u63, u64, u65, u66, u67, u68, u69, u70, u71, u72, u73, u74, u75, u76, u77, u78, u79, u80, u81, u82, u83, u84, u85, u86, u87, u88, u89, u90, u91, u92, u93, u94, u95, u96, u97, u98, u99, u100, u101, u102, u103, u104, u105, u106, u107, u108, u109, u110, u111, u112, u113, u114, u115, u116, u117, u118, u119, u120, u121, u122, u123, u124, u125, u126, u127, u128, u129, u130, u131, u132, u133, u134, u135, u136, u137, u138, u139, u140, u141, u142, u143, u144, u145, u146, u147, u148, u149, u150, u151, u152, u153, u154, u155, u156, u157, u158, u159, u160, u161, u162, u163, u164, u165, u166, u167, u168, u169, u170, u171, u172, u173, u174, u175, u176, u177, u178, u179, u180, u181, u182, u183, u184, u185, u186, u187], []⟩ X0 := by
  conv => arg 2; whnf
  refine wp_region_noPanic ?_
  go_region_held3 (fun Y => Y.cell? ⟨G, i * 15 + 12, none⟩ = some (.slice (some ⟨q, 0, none⟩) mw cw)) (((try dsimp only); first | (simp [go_sem, l12]; done) | (simp [go_sem, l12, nGq]; done))) (fail)
  all_goals exact NoPanic.normal (hQ.out _ _ _ _ _ _ _ _ _ _ _ )
attribute [local go_sem ↓] Go.wp_at_zero Go.wp_at_succ
set_option maxHeartbeats 64000000 in
set_option maxRecDepth 100000 in
theorem so_6 (u0 u1 u2 u3 u4 u5 u7 u8 u13 u14 u15 u16 u17 u18 u19 u20 u21 u22 u23 u24 u25 u26 u27 u28 u29 u31 u32 u33 u34 u35 u36 u37 u38 u39 u40 u41 u42 u43 u44 u45 u46 u47 u48 u49 u50 u51 u52 u53 u54 u55 u56 u57 u58 u59 u60 u61 u62 u63 u64 u65 u66 u67 u68 u69 u70 u71 u72 u73 u74 u75 u76 u77 u78 u79 u80 u81 u82 u83 u84 u85 u86 u87 u88 u89 u90 u91 u92 u93 u94 u95 u96 u97 u98 u99 u100 u101 u102 u103 u104 u105 u106 u107 u108 u109 u110 u111 u112 u113 u114 u115 u116 u117 u118 u119 u120 u121 u122 u123 u124 u125 u126 u127 u128 u129 u130 u131 u132 u133 u134 u135 u136 u137 u138 u139 u140 u141 u142 u143 u144 u145 u146 u147 u148 u149 u150 u151 u152 u153 u154 u155 u156 u157 u158 u159 u160 u161 u162 u163 u164 u165 u166 u167 u168 u169 u170 u171 u172 u173 u174 u175 u176 u177 u178 u179 u180 u181 u182 u183 u184 u185 u186 u187 : Value) (g6 g9 G cc M i : Nat) (nm : ByteArray) (H V C : Int) (cf : Nat → Ly) (la pb : Bool) (w0 X0 : World) (Q : Exit → Act → World → Prop)
    (HSB : Hid (Sb X0 w0 g6 g9 G cc M i nm H V C cf)) (HPB : Hid (((cf i).kd == 3) = pb)) 
    (hQ : Hid (∀ (X : World) (E : Int) (b : Bool) (v31 v32 v33 v34 v35 v36 v37 v38 v39 v40 v41 v42 v43 v44 v45 v46 v47 v48 v49 v50 v51 v52 v53 v54 v55 v56 v57 v58 v59 v60 v61 v62 v63 v64 v65 v66 v67 v68 v69 v70 v71 v72 v73 v74 v75 v76 v77 v78 v79 v80 v81 v82 v83 v84 v85 v86 v87 v88 v89 v90 v91 v92 v93 v94 v95 v96 v97 v98 v99 v100 v101 v102 v103 v104 v105 v106 v107 v108 v109 v110 v111 v112 v113 v114 v115 v116 v117 v118 v119 v120 v121 v122 v123 v124 v125 v126 v127 v128 v129 v130 v131 v132 v133 v134 v135 v136 v137 v138 v139 v140 v141 v142 v143 v144 v145 v146 v147 v148 v149 v150 v151 v152 v153 v154 v155 v156 v157 v158 v159 v160 v161 v162 v163 v164 v165 v166 v167 v168 v169 v170 v171 v172 v173 v174 v175 v176 v177 v178 v179 v180 v181 v182 v183 v184 v185 v186 v187 : Value), Sr X w0 g6 G cc M i nm H V C cf la E b → Q .ret ⟨#[u0, u1, u2, u3, u4, u5, .pointer (some ⟨g6, 0, none⟩), .int .i64 E, .bool b, .pointer (some ⟨g9, 0, none⟩), .pointer (some ⟨G, i * 15, none⟩), .bool pb, .bool la, u13, u14, u15, u16, u17, u18, u19, u20, u21, u22, u23, u24, u25, u26, u27, u28, u29, .int .i64 6, v31, v32, v33, v34, v35, v36, v37, v38, v39, v40, v41, v42, v43, v44, v45, v46, v47, v48, v49, v50, v51, v52, v53, v54, v55, v56, v57, v58, v59, v60, v61, v62, v63, v64, v65, v66, v67, v68, v69, v70, v71, v72, v73, v74, v75, v76, v77, v78, v79, v80, v81, v82, v83, v84, v85, v86, v87, v88, v89, v90, v91, v92, v93, v94, v95, v96, v97, v98, v99, v100, v101, v102, v103, v104, v105, v106, v107, v108, v109, v110, v111, v112, v113, v114, v115, v116, v117, v118, v119, v120, v121, v122, v123, v124, v125, v126, v127, v128, v129, v130, v131, v132, v133, v134, v135, v136, v137, v138, v139, v140, v141, v142, v143, v144, v145, v146, v147, v148, v149, v150, v151, v152, v153, v154, v155, v156, v157, v158, v159, v160, v161, v162, v163, v164, v165, v166, v167, v168, v169, v170, v171, v172, v173, v174, v175, v176, v177, v178, v179, v180, v181, v182, v183, v184, v185, v186, v187], []⟩ X)) :
    Code.wp Try.prog csB0 Q ⟨#[u0, u1, u2, u3, u4, u5, .pointer (some ⟨g6, 0, none⟩), u7, u8, .pointer (some ⟨g9, 0, none⟩), .pointer (some ⟨G, i * 15, none⟩), .bool pb, .bool la, u13, u14, u15, u16, u17, u18, u19, u20, u21, u22, u23, u24, u25, u26, u27, u28, u29, .int .i64 6, u31, u32, u33, u34, u35, u36, u37, u38, u39, u40, u41, u42, u43, u44, u45, u46, u47, u48, u49, u50, u51, u52, u53, u54, u55, u56, u57, u58, u59, u60, u61, u62, u63, u64, u65, u66, u67, u68, u69, u70, u71, u72, u73, u74, u75, u76, u77, u78, u79, u80, u81, u82, u83, u84, u85, u86, u87, u88, u89, u90, u91, u92, u93, u94, u95, u96, u97, u98, u99, u100, u101, u102, u103, u104, u105, u106, u107, u108, u109, u110, u111, u112, u113, u114, u115, u116, u117, u118, u119, u120, u121, u122, u123, u124, u125, u126, u127, u128, u129, u130, u131, u132, u133, u134, u135, u136, u137, u138, u139, u140, u141, u142, u143, u144, u145, u146, u147, u148, u149, u150, u151, u152, u153, u154, u155, u156, u157, u158, u159, u160, u161, u162, u163, u164, u165, u166, u167, u168, u169, u170, u171, u172, u173, u174, u175, u176, u177, u178, u179, u180, u181, u182, u183, u184, u185, u186, u187], []⟩ X0 := by
  conv => arg 2; whnf
  obtain ⟨hT, h9, h6, b6, b9, h69, hi, hM, BX⟩ := HSB.out
  have TF := hT.tf
  have nG9 : G ≠ g9 := fun e => rowNe h9 hT.1 (by decide) rfl e.symm
  have nG6 : G ≠ g6 := fun e => rowNe h6 hT.1 (by decide) rfl e.symm
  have n9G : g9 ≠ G := fun e => nG9 e.symm
  have n6G : g6 ≠ G := fun e => nG6 e.symm
  have n69 : g6 ≠ g9 := h69
  have n96 : g9 ≠ g6 := fun e => h69 e.symm
  have bG : w0.heap.size ≤ G := (hT.1.lt G rfl).1
  have n0 : X0.cell? ⟨g9, 0, none⟩ = some (.string nm) := h9.cell (i := 0) (by decide)
  have n1 : X0.cell? ⟨g9, 1, none⟩ = some (.int .i64 H) := h9.cell (i := 1) (by decide)
  have n2 : X0.cell? ⟨g9, 2, none⟩ = some (.int .i64 V) := h9.cell (i := 2) (by decide)
  have n3 : X0.cell? ⟨g9, 3, none⟩ = some (.int .i64 C) := h9.cell (i := 3) (by decide)
  have n4 : X0.cell? ⟨g9, 4, none⟩ = some (.slice (some ⟨G, 0, none⟩) M cc) := h9.cell (i := 4) (by decide)
  have r0 : X0.cell? ⟨g6, 0, none⟩ = some (.string ⟨#[]⟩) := h6.cell (i := 0) (by decide)
  have r1 : X0.cell? ⟨g6, 1, none⟩ = some (.int .i64 0) := h6.cell (i := 1) (by decide)
  have r2 : X0.cell? ⟨g6, 2, none⟩ = some (.int .i64 0) := h6.cell (i := 2) (by decide)
  have r3 : X0.cell? ⟨g6, 3, none⟩ = some (.int .i64 0) := h6.cell (i := 3) (by decide)
  have r4 : X0.cell? ⟨g6, 4, none⟩ = some (.slice none 0 0) := h6.cell (i := 4) (by decide)
  have f0 := h6.frozen 0
  have f1 := h6.frozen 1
  have f2 := h6.frozen 2
  have f3 := h6.frozen 3
  have f4 := h6.frozen 4
  have l12 : X0.cell? ⟨G, i * 15 + 12, none⟩ = some (.slice (cf i).aw (cf i).mw (cf i).cw) := TF.cells (c := 12) hi (by decide)
  cases pb
  · have e3 : ¬ (cf i).kd = 3 := by simpa using HPB.out
    have HE3 := hid1 e3
    clear e3
    by_cases hm : (cf i).mw = 0
    · have em : (((cf i).mw : Int) == 0) = true := by rw [hm]; rfl
      have HTF : Hid (Tf X0 w0.heap.size G cc M (sn cf i (cf i))) := hid1 (by rw [sn_id]; exact TF)
      have HR6 := hid1 h6
      have HBB := hid1 BX
      clear hT TF h9 h6 h69 BX
      go_wp2_with fail
      refine hQ.out _ 0 false _ _ _ _ _ _ _ _ _ _ _ _ _ _ _ _ _ _ _ _ _ _ _ _ _ _ _ _ _ _ _ _ _ _ _ _ _ _ _ _ _ _ _ _ _ _ _ _ _ _ _ _ _ _ _ _ _ _ _ _ _ _ _ _ _ _ _ _ _ _ _ _ _ _ _ _ _ _ _ _ _ _ _ _ _ _ _ _ _ _ _ _ _ _ _ _ _ _ _ _ _ _ _ _ _ _ _ _ _ _ _ _ _ _ _ _ _ _ _ _ _ _ _ _ _ _ _ _ _ _ _ _ _ _ _ _ _ _ _ _ _ _ _ _ _ _ _ _ _ _ _ _ _ _ _ _ _ ?_
      exact sr_end HR6.out b6 HTF.out (fun q => by cases q) HBB.out
    · have em : (((cf i).mw : Int) == 0) = false := by simp; omega
      have lo := (hT.2.1 i hi).1.1
      obtain ⟨q, eq, ecc, hqb, -, hqc⟩ := own_cellsS lo (by show 1 ≤ (cf i).mw + 2; omega)
      have eq : (cf i).aw = some ⟨q, 0, none⟩ := eq
      have HTF : Hid (Tf ((X0.setCell ⟨q, (cf i).mw - 1, none⟩ (.int .i8 2)).drew) w0.heap.size G cc M (sn cf i (sp6L (cf i)))) := hid1 ((hT.wset 2 hi (by omega) eq).keep (Below.drew (Below.refl _ _)))
      have hq0 := hqc ((cf i).mw - 1) (by show (cf i).mw - 1 < ((cf i).mw + 2) * 1; omega)
      have hcs : (X0.cell? ⟨q, (cf i).mw - 1, none⟩).isSome = true := by rw [hq0]; simp [i8L, show (cf i).mw - 1 < (cf i).mw + 2 by omega]
      obtain ⟨x0, hx0⟩ := Option.isSome_iff_exists.1 hcs
      have lo2 := lo
      rw [show (bigL (cf i)).aw = some ⟨q, 0, none⟩ from eq] at lo2
      have fz : X0.frozen? ⟨q, (cf i).mw - 1, none⟩ = false := lo2.frozenAt _
      have n6q : g6 ≠ q := rowNe h6 lo2 (by decide) rfl
      have n9q : g9 ≠ q := rowNe h9 lo2 (by decide) rfl
      have nq6 : q ≠ g6 := fun e => n6q e.symm
      have nq9 : q ≠ g9 := fun e => n9q e.symm
      have HR9a := hid1 h9
      have HNGQ : Hid (G ≠ q) := hid1 (fun e => ownNe hT.1 lo2 (by decide) rfl G rfl e)
      have HR6 : Hid (((X0.setCell ⟨q, (cf i).mw - 1, none⟩ (.int .i8 2)).drew).rowIs g6 28 5 (netF ⟨#[]⟩ 0 0 0 (.slice none 0 0))) := hid1 (World.rowIs.of_block (h6.setOther n6q _) rfl)
      have HBB : Hid (Below w0.heap.size w0 ((X0.setCell ⟨q, (cf i).mw - 1, none⟩ (.int .i8 2)).drew)) := hid1 (Below.drew (bl_set BX hqb _))
      have HMM : Hid (1 ≤ (cf i).mw) := hid1 (by omega)
      rw [eq] at l12
      obtain ⟨mw, hmw⟩ : ∃ x, (cf i).mw = x := ⟨_, rfl⟩
      rw [hmw] at l12 em HTF HR6 HBB hx0 fz hm
      obtain ⟨pp, hpp⟩ : ∃ p : Nat, mw - 1 = p := ⟨_, rfl⟩
      rw [hpp] at HTF HR6 HBB hx0 fz
      have bmw := (hT.2.1 i hi).2.1
      have wP : IntKind.i64.wrap ((mw : Int) - 1) = (pp : Int) := by rw [IntKind.wrap_i64]; omega
      have p0 : (0 : Int) ≤ (pp : Int) := by omega
      have p1 : (pp : Int) < (mw : Int) := by omega
      clear hT TF h9 h6 h69 BX lo lo2 hq0 hqc hcs eq hmw hm hpp bmw ecc
      go_upto_region 37 with fail
      refine so_r37 _ _ _ _ _ _ _ _ _ _ _ _ _ _ _ _ _ _ _ _ _ _ _ _ _ _ _ _ _ _ _ _ _ _ _ _ _ _ _ _ _ _ _ _ _ _ _ _ _ _ _ _ _ _ _ _ _ _ _ _ _ _ _ _ _ _ _ _ _ _ _ _ _ _ _ _ _ _ _ _ _ _ _ _ _ _ _ _ _ _ _ _ _ _ _ _ _ _ _ _ _ _ _ _ _ _ _ _ _ _ _ _ _ _ _ _ _ _ _ _ _ _ _ _ _ _ _ _ _ _ _ _ _ _ _ _ _ _ _ _ _ _ _ _ _ _ _ _ _ _ _ _ _ _ _ _ _ _ _ _ _ _ _ _ _ _ _ _ _ _ _ _ _ _ _ _ _ _ _ _ _ _ _ _ _ _ _ G i q mw pp (cf i).cw x0 X0 _ l12 hx0 fz wP p0 p1 HNGQ.out (hid1 ?_)
      intro v104 v105 v106 v107 v108 v109 v110 v111 v112 v113 v114
      generalize hW : ((X0.setCell ⟨q, pp, none⟩ (.int .i8 2)).drew) = Y at HTF HR6 HBB ⊢
      have HR9 : Hid (Y.rowIs g9 28 5 (netF nm H V C (.slice (some ⟨G, 0, none⟩) M cc))) := hid1 (by rw [← hW]; exact World.rowIs.of_block (HR9a.out.setOther n9q _) rfl)
      clear hW l12 hx0 fz wP p0 p1 n0 n1 n2 n3 n4 r0 r1 r2 r3 r4 f0 f1 f2 f3 f4
      have n0 : Y.cell? ⟨g9, 0, none⟩ = some (.string nm) := HR9.out.cell (i := 0) (by decide)
      have n1 : Y.cell? ⟨g9, 1, none⟩ = some (.int .i64 H) := HR9.out.cell (i := 1) (by decide)
      have n2 : Y.cell? ⟨g9, 2, none⟩ = some (.int .i64 V) := HR9.out.cell (i := 2) (by decide)
      have n3 : Y.cell? ⟨g9, 3, none⟩ = some (.int .i64 C) := HR9.out.cell (i := 3) (by decide)
      have n4 : Y.cell? ⟨g9, 4, none⟩ = some (.slice (some ⟨G, 0, none⟩) M cc) := HR9.out.cell (i := 4) (by decide)
      have r0 : Y.cell? ⟨g6, 0, none⟩ = some (.string ⟨#[]⟩) := HR6.out.cell (i := 0) (by decide)
      have r1 : Y.cell? ⟨g6, 1, none⟩ = some (.int .i64 0) := HR6.out.cell (i := 1) (by decide)
      have r2 : Y.cell? ⟨g6, 2, none⟩ = some (.int .i64 0) := HR6.out.cell (i := 2) (by decide)
      have r3 : Y.cell? ⟨g6, 3, none⟩ = some (.int .i64 0) := HR6.out.cell (i := 3) (by decide)
      have r4 : Y.cell? ⟨g6, 4, none⟩ = some (.slice none 0 0) := HR6.out.cell (i := 4) (by decide)
      have f0 := HR6.out.frozen 0
      have f1 := HR6.out.frozen 1
      have f2 := HR6.out.frozen 2
      have f3 := HR6.out.frozen 3
      have f4 := HR6.out.frozen 4
      go_wp2_with fail
      refine hQ.out _ 52 true _ _ _ _ _ _ _ _ _ _ _ _ _ _ _ _ _ _ _ _ _ _ _ _ _ _ _ _ _ _ _ _ _ _ _ _ _ _ _ _ _ _ _ _ _ _ _ _ _ _ _ _ _ _ _ _ _ _ _ _ _ _ _ _ _ _ _ _ _ _ _ _ _ _ _ _ _ _ _ _ _ _ _ _ _ _ _ _ _ _ _ _ _ _ _ _ _ _ _ _ _ _ _ _ _ _ _ _ _ _ _ _ _ _ _ _ _ _ _ _ _ _ _ _ _ _ _ _ _ _ _ _ _ _ _ _ _ _ _ _ _ _ _ _ _ _ _ _ _ _ _ _ _ _ _ _ _ ?_
      exact sr_end HR6.out b6 HTF.out (fun _ S q _ _ _ => ⟨sp_6 q HE3.out HMM.out, by decide⟩) HBB.out
  · clear l12
    have HTF : Hid (Tf X0 w0.heap.size G cc M (sn cf i (cf i))) := hid1 (by rw [sn_id]; exact TF)
    have HR6 := hid1 h6
    have HBB := hid1 BX
    clear hT TF h9 h6 h69 BX
    go_wp2_with fail
    refine hQ.out _ 0 false _ _ _ _ _ _ _ _ _ _ _ _ _ _ _ _ _ _ _ _ _ _ _ _ _ _ _ _ _ _ _ _ _ _ _ _ _ _ _ _ _ _ _ _ _ _ _ _ _ _ _ _ _ _ _ _ _ _ _ _ _ _ _ _ _ _ _ _ _ _ _ _ _ _ _ _ _ _ _ _ _ _ _ _ _ _ _ _ _ _ _ _ _ _ _ _ _ _ _ _ _ _ _ _ _ _ _ _ _ _ _ _ _ _ _ _ _ _ _ _ _ _ _ _ _ _ _ _ _ _ _ _ _ _ _ _ _ _ _ _ _ _ _ _ _ _ _ _ _ _ _ _ _ _ _ _ _ ?_
    exact sr_end HR6.out b6 HTF.out (fun q => by cases q) HBB.out

end Go.Proofs.Ytkodihmjjiadnaa.Nn
/- NETSPOILT: spoilt's cases: the last norm's S. -/
namespace Go.Proofs.Ytkodihmjjiadnaa.Nn
open Go.RowKit

abbrev nsetF (f : Nat → Nat → Int) (p : Nat) (y : Int) : Nat → Nat → Int := fun j c => if j = p ∧ c = 6 then y else f j c
theorem nm_set {f : Nat → Nat → Int} {n p : Nat} {y : Int} (hp : p < n) : (nmL f n).set (p * 8 + 6) (.int .i64 y) = nmL (nsetF f p y) n := by
  rw [nmL_rl, nmL_rl]
  apply List.ext_getElem?
  intro k
  have hl : (rl (fun j => nmC (f j)) n).length = n * 8 := rl_len (s := 8) (fun _ => rfl) n
  have hl2 : (rl (fun j => nmC (nsetF f p y j)) n).length = n * 8 := rl_len (s := 8) (fun _ => rfl) n
  rw [List.getElem?_set]
  by_cases hk : k < n * 8
  · have h1 : (rl (fun j => nmC (nsetF f p y j)) n)[k]? = (nmC (nsetF f p y (k / 8)))[k % 8]? := by
      conv => lhs; rw [show k = (k / 8) * 8 + k % 8 by omega]
      exact rl_get (s := 8) (fun _ => rfl) n (by omega) (by omega)
    have h2 : (rl (fun j => nmC (f j)) n)[k]? = (nmC (f (k / 8)))[k % 8]? := by
      conv => lhs; rw [show k = (k / 8) * 8 + k % 8 by omega]
      exact rl_get (s := 8) (fun _ => rfl) n (by omega) (by omega)
    rw [h1, h2, hl]
    by_cases he : p * 8 + 6 = k
    · rw [if_pos he, if_pos (by omega), show k / 8 = p by omega, show k % 8 = 6 by omega]
      simp [nmC, nsetF]
    · rw [if_neg he]
      by_cases hj : k / 8 = p
      · rw [hj]
        have hr : k % 8 < 8 := Nat.mod_lt _ (by decide)
        have h6 : ¬ k % 8 = 6 := by omega
        generalize k % 8 = r at *
        rcases (show r = 0 ∨ r = 1 ∨ r = 2 ∨ r = 3 ∨ r = 4 ∨ r = 5 ∨ r = 7 by omega) with rfl | rfl | rfl | rfl | rfl | rfl | rfl <;> simp [nmC, nsetF]
      · simp [nmC, nsetF, hj]
  · rw [if_neg (by omega), List.getElem?_eq_none (by omega), List.getElem?_eq_none (by omega)]
theorem Tm.nset {W : World} {base G cc M i p q : Nat} {cf : Nat → Ly} (y : Int) (h : Tm W base G cc M cf) (hi : i < M) (hp : p < (cf i).mn) (hq : (cf i).an = some ⟨q, 0, none⟩) : Tf (W.setCell ⟨q, p * 8 + 6, none⟩ (.int .i64 y)) base G cc M (sn cf i { cf i with ns := fun j c => if j = p ∧ c = 6 then y else (cf i).ns j c }) := by
  obtain ⟨h1, h2, h3⟩ := h
  have lk := (h2 i hi).1
  have ob : (Value.slice (bigL (cf i)).an (bigL (cf i)).mn (bigL (cf i)).cn).ownBlock = some q := by show (Value.slice (cf i).an _ _).ownBlock = some q; rw [hq]; rfl
  refine ⟨?_, sn_at (P := fun L => ∃ B, Lo (W.setCell ⟨q, p * 8 + 6, none⟩ (.int .i64 y)) base B ∧ Cov B L) ?_ fun j hj hne => ?_⟩
  · rw [lyLs_same (L := { cf i with ns := fun j c => if j = p ∧ c = 6 then y else (cf i).ns j c }) rfl]
    exact own_setNe h1 (ownNe h1 lk.2.1 (by decide) ob)
  · refine ⟨{ bigL (cf i) with ns := nsetF (bigL (cf i)).ns p y }, ⟨own_setNe lk.1 (ownNe lk.1 lk.2.1 (by decide) ob), ?_, own_setNe lk.2.2 (ownNe lk.2.2 lk.2.1 (by decide) ob)⟩, ?_⟩
    · have l1 := lk.2.1
      rw [show (bigL (cf i)).an = some ⟨q, 0, none⟩ from hq] at l1
      have := (l1.stored (p * 8 + 6) (.int .i64 y)).1
      rw [nm_set (by show p < (cf i).mn + 1; omega)] at this
      show (W.setCell _ _).ownsRow base _ 8 (.slice (cf i).an _ _) _ _
      rw [hq]
      exact this
    · obtain ⟨c1, ⟨a1, a2, a3⟩, c3, m⟩ := cov_big (h2 i hi).2.1 (h2 i hi).2.2.1 (h2 i hi).2.2.2
      exact ⟨c1, ⟨a1, a2, fun j hj c hc => by show (if j = p ∧ c = 6 then y else _) = (if j = p ∧ c = 6 then y else _); rw [a3 j hj c hc]⟩, c3, m⟩
  · obtain ⟨l, b1, b2, b3⟩ := h2 j hj
    refine ⟨bigL (cf j), ⟨own_setNe l.1 (ownNe l.1 lk.2.1 (by decide) ob), own_setNe l.2.1 fun x hx e => (h3 j hj i hi hne).2.2 x (by rw [← hx]; unfold obN; cases (cf j).an <;> rfl) (by rw [e]; unfold obN; rw [hq]; rfl), own_setNe l.2.2 (ownNe l.2.2 lk.2.1 (by decide) ob)⟩, cov_big b1 b2 b3⟩
noncomputable def cs42 : Code := (Try.f8.body.bind (regionOf 42)).getD .skip
attribute [local go_sem ↓] Go.wp_at_zero Go.wp_at_succ
set_option maxHeartbeats 64000000 in
set_option maxRecDepth 100000 in
theorem so_r42 (u0 u1 u2 u3 u4 u5 u6 u7 u8 u9 u11 u12 u13 u14 u15 u16 u17 u18 u19 u20 u21 u22 u23 u24 u25 u26 u27 u28 u29 u30 u31 u32 u33 u34 u35 u36 u37 u38 u39 u40 u41 u42 u43 u44 u45 u46 u47 u48 u49 u50 u51 u52 u53 u54 u55 u56 u57 u58 u59 u60 u61 u62 u63 u64 u65 u66 u67 u68 u69 u70 u71 u72 u73 u74 u75 u76 u77 u78 u79 u80 u81 u82 u83 u84 u85 u86 u87 u88 u89 u90 u91 u92 u93 u94 u95 u96 u97 u98 u99 u100 u101 u102 u103 u104 u105 u106 u107 u108 u109 u110 u111 u112 u113 u114 u115 u116 u117 u118 u119 u120 u121 u122 u123 u124 u125 u126 u127 u128 u129 u130 u131 u132 u133 u134 u135 u136 u137 u138 u139 u140 u141 u142 u143 u144 u145 u146 u147 u148 u149 u150 u151 u152 u153 u154 u155 u156 u157 u158 u159 u160 u161 u162 u163 u164 u165 u166 u167 u168 u169 u170 u171 u172 u173 u174 u175 u176 u177 u178 u179 u180 u181 u182 u183 u184 u185 u186 u187 : Value) (G i q mw pp cw : Nat) (x0 : Value) (X0 : World) (Q : Exit → Act → World → Prop) (l13 : X0.cell? ⟨G, i * 15 + 13, none⟩ = some (.slice (some ⟨q, 0, none⟩) mw cw)) (hx0 : X0.cell? ⟨q, pp * 8 + 6, none⟩ = some x0) (fz : X0.frozen? ⟨q, pp * 8 + 6, none⟩ = false) (wP : IntKind.i64.wrap ((mw : Int) - 1) = (pp : Int)) (p0 : (0 : Int) ≤ (pp : Int)) (p1 : (pp : Int) < (mw : Int)) (nGq : G ≠ q)
    (hQ : Hid (∀ (v123 v124 v125 v126 v127 v128 v129 v130 v131 v132 v133 v134 v135 : Value), Q .normal ⟨#[u0, u1, u2, u3, u4, u5, u6, u7, u8, u9, .pointer (some ⟨G, i * 15, none⟩), u11, u12, u13, u14, u15, u16, u17, u18, u19, u20, u21, u22, u23, u24, u25, u26, u27, u28, u29, u30, u31, u32, u33, u34, u35, u36, u37, u38, u39, u40, u41, u42, u43, u44, u45, u46, u47, u48, u49, u50, u51, u52, u53, u54, u55, u56, u57, u58, u59, u60, u61, u62, u63, u64, u65, u66, u67, u68, u69, u70, u71, u72, u73, u74, u75, u76, u77, u78, u79, u80, u81, u82, u83, u84, u85, u86, u87, u88, u89, u90, u91, u92, u93, u94, u95, u96, u97, u98, u99, u100, u101, u102, u103, u104, u105, u106, u107, u108, u109, u110, u111, u112, u113, u114, u115, u116, u117, u118, u119, u120, u121, u122, v123, v124, v125, v126, v127, v128, v129, v130, v131, v132, v133, v134, v135, u136, u137, u138, u139, u140, u141, u142, u143, u144, u145, u146, u147, u148, u149, u150, u151, u152, u153, u154, u155, u156, u157, u158, u159, u160, u161, u162, u163, u164, u165, u166, u167, u168, u169, u170, u171, u172, u173, u174, u175, u176, u177, u178, u179, u180, u181, u182, u183, u184, u185, u186, u187], []⟩ ((X0.setCell ⟨q, pp * 8 + 6, none⟩ (.int .i64 0)).drew))) :
    Code.wp Try.prog cs42 Q ⟨#[u0, u1, u2, u3, u4, u5, u6, u7, u8, u9, .pointer (some ⟨G, i * 15, none⟩), u11, u12, u13, u14, u15, u16, u17, u18, u19, u20, u21, u22, u23, u24, u25, u26, u27, u28, u29, u30, u31, u32, u33, u34, u35, u36, u37, u38, u39, u40, u41, u42, u43, u44, u45, u46, u47, u48, u49, u50, u51, u52, u53, u54, u55, u56, u57, u58, u59, u60, u61, u62, u63, u64, u65, u66, u67, u68, u69, u70, u71, u72, u73, u74, u75, u76, u77, u78, u79, u80, u81, u82, u83, u84, u85, u86, u87, u88, u89, u90, u91, u92, u93, u94, u95, u96, u97, u98, u99, u100, u101, u102, u103, u104, u105, u106, u107, u108, u109, u110, u111, u112, u113, u114, u115, u116, u117, u118, u119, u120, u121, u122, u123, u124, u125, u126, u127, u128, u129, u130, u131, u132, u133, u134, u135, u136, u137, u138, u139, u140, u141, u142, u143, u144, u145, u146, u147, u148, u149, u150, u151, u152, u153, u154, u155, u156, u157, u158, u159, u160, u161, u162, u163, u164, u165, u166, u167, u168, u169, u170, u171, u172, u173, u174, u175, u176, u177, u178, u179, u180, u181, u182, u183, u184, u185, u186, u187], []⟩ X0 := by
  conv => arg 2; whnf
  refine wp_region_noPanic ?_
  go_region_held3 (fun Y => Y.cell? ⟨G, i * 15 + 13, none⟩ = some (.slice (some ⟨q, 0, none⟩) mw cw)) (((try dsimp only); first | (simp [go_sem, l13]; done) | (simp [go_sem, l13, nGq]; done))) (fail)
  all_goals exact NoPanic.normal (hQ.out _ _ _ _ _ _ _ _ _ _ _ _ _ )
attribute [local go_sem ↓] Go.wp_at_zero Go.wp_at_succ
set_option maxHeartbeats 64000000 in
set_option maxRecDepth 100000 in
theorem so_7 (u0 u1 u2 u3 u4 u5 u7 u8 u13 u14 u15 u16 u17 u18 u19 u20 u21 u22 u23 u24 u25 u26 u27 u28 u29 u31 u32 u33 u34 u35 u36 u37 u38 u39 u40 u41 u42 u43 u44 u45 u46 u47 u48 u49 u50 u51 u52 u53 u54 u55 u56 u57 u58 u59 u60 u61 u62 u63 u64 u65 u66 u67 u68 u69 u70 u71 u72 u73 u74 u75 u76 u77 u78 u79 u80 u81 u82 u83 u84 u85 u86 u87 u88 u89 u90 u91 u92 u93 u94 u95 u96 u97 u98 u99 u100 u101 u102 u103 u104 u105 u106 u107 u108 u109 u110 u111 u112 u113 u114 u115 u116 u117 u118 u119 u120 u121 u122 u123 u124 u125 u126 u127 u128 u129 u130 u131 u132 u133 u134 u135 u136 u137 u138 u139 u140 u141 u142 u143 u144 u145 u146 u147 u148 u149 u150 u151 u152 u153 u154 u155 u156 u157 u158 u159 u160 u161 u162 u163 u164 u165 u166 u167 u168 u169 u170 u171 u172 u173 u174 u175 u176 u177 u178 u179 u180 u181 u182 u183 u184 u185 u186 u187 : Value) (g6 g9 G cc M i : Nat) (nm : ByteArray) (H V C : Int) (cf : Nat → Ly) (la pb : Bool) (w0 X0 : World) (Q : Exit → Act → World → Prop)
    (HSB : Hid (Sb X0 w0 g6 g9 G cc M i nm H V C cf)) (HPB : Hid (((cf i).kd == 3) = pb)) (HMN : Hid (¬ (cf i).kd = 3 → la = false → 1 ≤ (cf i).mn))
    (hQ : Hid (∀ (X : World) (E : Int) (b : Bool) (v31 v32 v33 v34 v35 v36 v37 v38 v39 v40 v41 v42 v43 v44 v45 v46 v47 v48 v49 v50 v51 v52 v53 v54 v55 v56 v57 v58 v59 v60 v61 v62 v63 v64 v65 v66 v67 v68 v69 v70 v71 v72 v73 v74 v75 v76 v77 v78 v79 v80 v81 v82 v83 v84 v85 v86 v87 v88 v89 v90 v91 v92 v93 v94 v95 v96 v97 v98 v99 v100 v101 v102 v103 v104 v105 v106 v107 v108 v109 v110 v111 v112 v113 v114 v115 v116 v117 v118 v119 v120 v121 v122 v123 v124 v125 v126 v127 v128 v129 v130 v131 v132 v133 v134 v135 v136 v137 v138 v139 v140 v141 v142 v143 v144 v145 v146 v147 v148 v149 v150 v151 v152 v153 v154 v155 v156 v157 v158 v159 v160 v161 v162 v163 v164 v165 v166 v167 v168 v169 v170 v171 v172 v173 v174 v175 v176 v177 v178 v179 v180 v181 v182 v183 v184 v185 v186 v187 : Value), Sr X w0 g6 G cc M i nm H V C cf la E b → Q .ret ⟨#[u0, u1, u2, u3, u4, u5, .pointer (some ⟨g6, 0, none⟩), .int .i64 E, .bool b, .pointer (some ⟨g9, 0, none⟩), .pointer (some ⟨G, i * 15, none⟩), .bool pb, .bool la, u13, u14, u15, u16, u17, u18, u19, u20, u21, u22, u23, u24, u25, u26, u27, u28, u29, .int .i64 7, v31, v32, v33, v34, v35, v36, v37, v38, v39, v40, v41, v42, v43, v44, v45, v46, v47, v48, v49, v50, v51, v52, v53, v54, v55, v56, v57, v58, v59, v60, v61, v62, v63, v64, v65, v66, v67, v68, v69, v70, v71, v72, v73, v74, v75, v76, v77, v78, v79, v80, v81, v82, v83, v84, v85, v86, v87, v88, v89, v90, v91, v92, v93, v94, v95, v96, v97, v98, v99, v100, v101, v102, v103, v104, v105, v106, v107, v108, v109, v110, v111, v112, v113, v114, v115, v116, v117, v118, v119, v120, v121, v122, v123, v124, v125, v126, v127, v128, v129, v130, v131, v132, v133, v134, v135, v136, v137, v138, v139, v140, v141, v142, v143, v144, v145, v146, v147, v148, v149, v150, v151, v152, v153, v154, v155, v156, v157, v158, v159, v160, v161, v162, v163, v164, v165, v166, v167, v168, v169, v170, v171, v172, v173, v174, v175, v176, v177, v178, v179, v180, v181, v182, v183, v184, v185, v186, v187], []⟩ X)) :
    Code.wp Try.prog csB0 Q ⟨#[u0, u1, u2, u3, u4, u5, .pointer (some ⟨g6, 0, none⟩), u7, u8, .pointer (some ⟨g9, 0, none⟩), .pointer (some ⟨G, i * 15, none⟩), .bool pb, .bool la, u13, u14, u15, u16, u17, u18, u19, u20, u21, u22, u23, u24, u25, u26, u27, u28, u29, .int .i64 7, u31, u32, u33, u34, u35, u36, u37, u38, u39, u40, u41, u42, u43, u44, u45, u46, u47, u48, u49, u50, u51, u52, u53, u54, u55, u56, u57, u58, u59, u60, u61, u62, u63, u64, u65, u66, u67, u68, u69, u70, u71, u72, u73, u74, u75, u76, u77, u78, u79, u80, u81, u82, u83, u84, u85, u86, u87, u88, u89, u90, u91, u92, u93, u94, u95, u96, u97, u98, u99, u100, u101, u102, u103, u104, u105, u106, u107, u108, u109, u110, u111, u112, u113, u114, u115, u116, u117, u118, u119, u120, u121, u122, u123, u124, u125, u126, u127, u128, u129, u130, u131, u132, u133, u134, u135, u136, u137, u138, u139, u140, u141, u142, u143, u144, u145, u146, u147, u148, u149, u150, u151, u152, u153, u154, u155, u156, u157, u158, u159, u160, u161, u162, u163, u164, u165, u166, u167, u168, u169, u170, u171, u172, u173, u174, u175, u176, u177, u178, u179, u180, u181, u182, u183, u184, u185, u186, u187], []⟩ X0 := by
  conv => arg 2; whnf
  obtain ⟨hT, h9, h6, b6, b9, h69, hi, hM, BX⟩ := HSB.out
  have TF := hT.tf
  have nG9 : G ≠ g9 := fun e => rowNe h9 hT.1 (by decide) rfl e.symm
  have nG6 : G ≠ g6 := fun e => rowNe h6 hT.1 (by decide) rfl e.symm
  have n9G : g9 ≠ G := fun e => nG9 e.symm
  have n6G : g6 ≠ G := fun e => nG6 e.symm
  have n69 : g6 ≠ g9 := h69
  have n96 : g9 ≠ g6 := fun e => h69 e.symm
  have bG : w0.heap.size ≤ G := (hT.1.lt G rfl).1
  have n0 : X0.cell? ⟨g9, 0, none⟩ = some (.string nm) := h9.cell (i := 0) (by decide)
  have n1 : X0.cell? ⟨g9, 1, none⟩ = some (.int .i64 H) := h9.cell (i := 1) (by decide)
  have n2 : X0.cell? ⟨g9, 2, none⟩ = some (.int .i64 V) := h9.cell (i := 2) (by decide)
  have n3 : X0.cell? ⟨g9, 3, none⟩ = some (.int .i64 C) := h9.cell (i := 3) (by decide)
  have n4 : X0.cell? ⟨g9, 4, none⟩ = some (.slice (some ⟨G, 0, none⟩) M cc) := h9.cell (i := 4) (by decide)
  have r0 : X0.cell? ⟨g6, 0, none⟩ = some (.string ⟨#[]⟩) := h6.cell (i := 0) (by decide)
  have r1 : X0.cell? ⟨g6, 1, none⟩ = some (.int .i64 0) := h6.cell (i := 1) (by decide)
  have r2 : X0.cell? ⟨g6, 2, none⟩ = some (.int .i64 0) := h6.cell (i := 2) (by decide)
  have r3 : X0.cell? ⟨g6, 3, none⟩ = some (.int .i64 0) := h6.cell (i := 3) (by decide)
  have r4 : X0.cell? ⟨g6, 4, none⟩ = some (.slice none 0 0) := h6.cell (i := 4) (by decide)
  have f0 := h6.frozen 0
  have f1 := h6.frozen 1
  have f2 := h6.frozen 2
  have f3 := h6.frozen 3
  have f4 := h6.frozen 4
  have l13 : X0.cell? ⟨G, i * 15 + 13, none⟩ = some (.slice (cf i).an (cf i).mn (cf i).cn) := TF.cells (c := 13) hi (by decide)
  cases pb
  · have e3 : ¬ (cf i).kd = 3 := by simpa using HPB.out
    have HE3 := hid1 e3
    clear e3
    cases la
    · have hm := HMN.out HE3.out rfl
      obtain ⟨pp, hpp⟩ : ∃ p : Nat, (cf i).mn - 1 = p := ⟨_, rfl⟩
      have lo := (hT.2.1 i hi).1.2.1
      obtain ⟨q, eq, ecc, hqb, -, hqc⟩ := own_cellsS lo (by show 1 ≤ (cf i).mn + 1; omega)
      have eq : (cf i).an = some ⟨q, 0, none⟩ := eq
      have HTF : Hid (Tf ((X0.setCell ⟨q, pp * 8 + 6, none⟩ (.int .i64 0)).drew) w0.heap.size G cc M (sn cf i (sp7L (cf i)))) := hid1 (by
        have h := (hT.nset (p := pp) 0 hi (by omega) eq).keep (Below.drew (Below.refl _ _))
        rw [← hpp] at h ⊢
        exact h)
      have hq0 := hqc (pp * 8 + 6) (by show pp * 8 + 6 < ((cf i).mn + 1) * 8; omega)
      have hcs : (X0.cell? ⟨q, pp * 8 + 6, none⟩).isSome = true := by
        rw [hq0, List.getElem?_eq_getElem (by rw [nmL_rl, rl_len (s := 8) (fun _ => rfl)]; show pp * 8 + 6 < ((cf i).mn + 1) * 8; omega)]; rfl
      obtain ⟨x0, hx0⟩ := Option.isSome_iff_exists.1 hcs
      have lo2 := lo
      rw [show (bigL (cf i)).an = some ⟨q, 0, none⟩ from eq] at lo2
      have fz : X0.frozen? ⟨q, pp * 8 + 6, none⟩ = false := lo2.frozenAt _
      have n6q : g6 ≠ q := rowNe h6 lo2 (by decide) rfl
      have n9q : g9 ≠ q := rowNe h9 lo2 (by decide) rfl
      have HR9a := hid1 h9
      have HNGQ : Hid (G ≠ q) := hid1 (fun e => ownNe hT.1 lo2 (by decide) rfl G rfl e)
      have HR6 : Hid (((X0.setCell ⟨q, pp * 8 + 6, none⟩ (.int .i64 0)).drew).rowIs g6 28 5 (netF ⟨#[]⟩ 0 0 0 (.slice none 0 0))) := hid1 (World.rowIs.of_block (h6.setOther n6q _) rfl)
      have HBB : Hid (Below w0.heap.size w0 ((X0.setCell ⟨q, pp * 8 + 6, none⟩ (.int .i64 0)).drew)) := hid1 (Below.drew (bl_set BX hqb _))
      have HMM : Hid (1 ≤ (cf i).mn) := hid1 (by omega)
      rw [eq] at l13
      obtain ⟨mw, hmw⟩ : ∃ x, (cf i).mn = x := ⟨_, rfl⟩
      rw [hmw] at l13
      have bmw := (hT.2.1 i hi).2.2.1
      have wP : IntKind.i64.wrap ((mw : Int) - 1) = (pp : Int) := by rw [IntKind.wrap_i64]; omega
      have p0 : (0 : Int) ≤ (pp : Int) := by omega
      have p1 : (pp : Int) < (mw : Int) := by omega
      clear hT TF h9 h6 h69 BX lo lo2 hq0 hqc hcs eq hmw hm hpp bmw ecc
      go_upto_region 42 with fail
      refine so_r42 _ _ _ _ _ _ _ _ _ _ _ _ _ _ _ _ _ _ _ _ _ _ _ _ _ _ _ _ _ _ _ _ _ _ _ _ _ _ _ _ _ _ _ _ _ _ _ _ _ _ _ _ _ _ _ _ _ _ _ _ _ _ _ _ _ _ _ _ _ _ _ _ _ _ _ _ _ _ _ _ _ _ _ _ _ _ _ _ _ _ _ _ _ _ _ _ _ _ _ _ _ _ _ _ _ _ _ _ _ _ _ _ _ _ _ _ _ _ _ _ _ _ _ _ _ _ _ _ _ _ _ _ _ _ _ _ _ _ _ _ _ _ _ _ _ _ _ _ _ _ _ _ _ _ _ _ _ _ _ _ _ _ _ _ _ _ _ _ _ _ _ _ _ _ _ _ _ _ _ _ _ _ _ _ _ _ _ G i q mw pp (cf i).cn x0 X0 _ l13 hx0 fz wP p0 p1 HNGQ.out (hid1 ?_)
      intro v123 v124 v125 v126 v127 v128 v129 v130 v131 v132 v133 v134 v135
      generalize hW : ((X0.setCell ⟨q, pp * 8 + 6, none⟩ (.int .i64 0)).drew) = Y at HTF HR6 HBB ⊢
      have HR9 : Hid (Y.rowIs g9 28 5 (netF nm H V C (.slice (some ⟨G, 0, none⟩) M cc))) := hid1 (by rw [← hW]; exact World.rowIs.of_block (HR9a.out.setOther n9q _) rfl)
      clear hW l13 hx0 fz wP p0 p1 n0 n1 n2 n3 n4 r0 r1 r2 r3 r4 f0 f1 f2 f3 f4
      have n0 : Y.cell? ⟨g9, 0, none⟩ = some (.string nm) := HR9.out.cell (i := 0) (by decide)
      have n1 : Y.cell? ⟨g9, 1, none⟩ = some (.int .i64 H) := HR9.out.cell (i := 1) (by decide)
      have n2 : Y.cell? ⟨g9, 2, none⟩ = some (.int .i64 V) := HR9.out.cell (i := 2) (by decide)
      have n3 : Y.cell? ⟨g9, 3, none⟩ = some (.int .i64 C) := HR9.out.cell (i := 3) (by decide)
      have n4 : Y.cell? ⟨g9, 4, none⟩ = some (.slice (some ⟨G, 0, none⟩) M cc) := HR9.out.cell (i := 4) (by decide)
      have r0 : Y.cell? ⟨g6, 0, none⟩ = some (.string ⟨#[]⟩) := HR6.out.cell (i := 0) (by decide)
      have r1 : Y.cell? ⟨g6, 1, none⟩ = some (.int .i64 0) := HR6.out.cell (i := 1) (by decide)
      have r2 : Y.cell? ⟨g6, 2, none⟩ = some (.int .i64 0) := HR6.out.cell (i := 2) (by decide)
      have r3 : Y.cell? ⟨g6, 3, none⟩ = some (.int .i64 0) := HR6.out.cell (i := 3) (by decide)
      have r4 : Y.cell? ⟨g6, 4, none⟩ = some (.slice none 0 0) := HR6.out.cell (i := 4) (by decide)
      have f0 := HR6.out.frozen 0
      have f1 := HR6.out.frozen 1
      have f2 := HR6.out.frozen 2
      have f3 := HR6.out.frozen 3
      have f4 := HR6.out.frozen 4
      go_wp2_with fail
      refine hQ.out _ 53 true _ _ _ _ _ _ _ _ _ _ _ _ _ _ _ _ _ _ _ _ _ _ _ _ _ _ _ _ _ _ _ _ _ _ _ _ _ _ _ _ _ _ _ _ _ _ _ _ _ _ _ _ _ _ _ _ _ _ _ _ _ _ _ _ _ _ _ _ _ _ _ _ _ _ _ _ _ _ _ _ _ _ _ _ _ _ _ _ _ _ _ _ _ _ _ _ _ _ _ _ _ _ _ _ _ _ _ _ _ _ _ _ _ _ _ _ _ _ _ _ _ _ _ _ _ _ _ _ _ _ _ _ _ _ _ _ _ _ _ _ _ _ _ _ _ _ _ _ _ _ _ _ _ _ _ _ _ ?_
      exact sr_end HR6.out b6 HTF.out (fun _ S q _ hl _ => ⟨sp_7 q HE3.out hl HMM.out, by decide⟩) HBB.out
    · clear l13
      have HTF : Hid (Tf X0 w0.heap.size G cc M (sn cf i (cf i))) := hid1 (by rw [sn_id]; exact TF)
      have HR6 := hid1 h6
      have HBB := hid1 BX
      clear hT TF h9 h6 h69 BX
      go_wp2_with fail
      refine hQ.out _ 0 false _ _ _ _ _ _ _ _ _ _ _ _ _ _ _ _ _ _ _ _ _ _ _ _ _ _ _ _ _ _ _ _ _ _ _ _ _ _ _ _ _ _ _ _ _ _ _ _ _ _ _ _ _ _ _ _ _ _ _ _ _ _ _ _ _ _ _ _ _ _ _ _ _ _ _ _ _ _ _ _ _ _ _ _ _ _ _ _ _ _ _ _ _ _ _ _ _ _ _ _ _ _ _ _ _ _ _ _ _ _ _ _ _ _ _ _ _ _ _ _ _ _ _ _ _ _ _ _ _ _ _ _ _ _ _ _ _ _ _ _ _ _ _ _ _ _ _ _ _ _ _ _ _ _ _ _ _ ?_
      exact sr_end HR6.out b6 HTF.out (fun q => by cases q) HBB.out
  · clear l13
    have HTF : Hid (Tf X0 w0.heap.size G cc M (sn cf i (cf i))) := hid1 (by rw [sn_id]; exact TF)
    have HR6 := hid1 h6
    have HBB := hid1 BX
    clear hT TF h9 h6 h69 BX
    go_wp2_with fail
    refine hQ.out _ 0 false _ _ _ _ _ _ _ _ _ _ _ _ _ _ _ _ _ _ _ _ _ _ _ _ _ _ _ _ _ _ _ _ _ _ _ _ _ _ _ _ _ _ _ _ _ _ _ _ _ _ _ _ _ _ _ _ _ _ _ _ _ _ _ _ _ _ _ _ _ _ _ _ _ _ _ _ _ _ _ _ _ _ _ _ _ _ _ _ _ _ _ _ _ _ _ _ _ _ _ _ _ _ _ _ _ _ _ _ _ _ _ _ _ _ _ _ _ _ _ _ _ _ _ _ _ _ _ _ _ _ _ _ _ _ _ _ _ _ _ _ _ _ _ _ _ _ _ _ _ _ _ _ _ _ _ _ _ ?_
    exact sr_end HR6.out b6 HTF.out (fun q => by cases q) HBB.out

end Go.Proofs.Ytkodihmjjiadnaa.Nn
/- NETSPOILT: spoilt's cases as one. -/
namespace Go.Proofs.Ytkodihmjjiadnaa.Nn
open Go.RowKit

attribute [local go_sem ↓] Go.wp_at_zero Go.wp_at_succ
set_option maxHeartbeats 64000000 in
set_option maxRecDepth 100000 in
theorem so_all (u0 u1 u2 u3 u4 u5 u7 u8 u13 u14 u15 u16 u17 u18 u19 u20 u21 u22 u23 u24 u25 u26 u27 u28 u29 u31 u32 u33 u34 u35 u36 u37 u38 u39 u40 u41 u42 u43 u44 u45 u46 u47 u48 u49 u50 u51 u52 u53 u54 u55 u56 u57 u58 u59 u60 u61 u62 u63 u64 u65 u66 u67 u68 u69 u70 u71 u72 u73 u74 u75 u76 u77 u78 u79 u80 u81 u82 u83 u84 u85 u86 u87 u88 u89 u90 u91 u92 u93 u94 u95 u96 u97 u98 u99 u100 u101 u102 u103 u104 u105 u106 u107 u108 u109 u110 u111 u112 u113 u114 u115 u116 u117 u118 u119 u120 u121 u122 u123 u124 u125 u126 u127 u128 u129 u130 u131 u132 u133 u134 u135 u136 u137 u138 u139 u140 u141 u142 u143 u144 u145 u146 u147 u148 u149 u150 u151 u152 u153 u154 u155 u156 u157 u158 u159 u160 u161 u162 u163 u164 u165 u166 u167 u168 u169 u170 u171 u172 u173 u174 u175 u176 u177 u178 u179 u180 u181 u182 u183 u184 u185 u186 u187 : Value) (g6 g9 G cc M i : Nat) (nm : ByteArray) (H V C : Int) (cf : Nat → Ly) (la pb : Bool) (w0 X0 : World) (t : Int) (Q : Exit → Act → World → Prop)
    (HSB : Hid (Sb X0 w0 g6 g9 G cc M i nm H V C cf)) (HPB : Hid (((cf i).kd == 3) = pb)) (HMB : Hid (la = true → 1 ≤ (cf i).mb)) (HMN : Hid (¬ (cf i).kd = 3 → la = false → 1 ≤ (cf i).mn)) (hN : Hid (∀ (v31 v32 v33 v34 v35 v36 v37 v38 v39 v40 v41 v42 v43 v44 v45 v46 v47 v48 v49 v50 v51 v52 v53 v54 v55 v56 v57 v58 v59 v60 v61 v62 v63 v64 v65 v66 v67 v68 v69 v70 v71 v72 v73 v74 v75 v76 v77 v78 v79 v80 v81 v82 v83 v84 v85 v86 v87 v88 v89 v90 v91 v92 v93 v94 v95 v96 v97 v98 v99 v100 v101 v102 v103 v104 v105 v106 v107 v108 v109 v110 v111 v112 v113 v114 v115 v116 v117 v118 v119 v120 v121 v122 v123 v124 v125 v126 v127 v128 v129 v130 v131 v132 v133 v134 v135 v136 v137 v138 v139 v140 v141 v142 v143 v144 v145 v146 v147 v148 v149 v150 v151 v152 v153 v154 v155 v156 v157 v158 v159 v160 v161 v162 v163 v164 v165 v166 v167 v168 v169 v170 v171 v172 v173 v174 v175 v176 v177 v178 v179 v180 v181 v182 v183 v184 v185 v186 v187 : Value), Q .normal ⟨#[u0, u1, u2, u3, u4, u5, .pointer (some ⟨g6, 0, none⟩), u7, u8, .pointer (some ⟨g9, 0, none⟩), .pointer (some ⟨G, i * 15, none⟩), .bool pb, .bool la, u13, u14, u15, u16, u17, u18, u19, u20, u21, u22, u23, u24, u25, u26, u27, u28, u29, .int .i64 t, v31, v32, v33, v34, v35, v36, v37, v38, v39, v40, v41, v42, v43, v44, v45, v46, v47, v48, v49, v50, v51, v52, v53, v54, v55, v56, v57, v58, v59, v60, v61, v62, v63, v64, v65, v66, v67, v68, v69, v70, v71, v72, v73, v74, v75, v76, v77, v78, v79, v80, v81, v82, v83, v84, v85, v86, v87, v88, v89, v90, v91, v92, v93, v94, v95, v96, v97, v98, v99, v100, v101, v102, v103, v104, v105, v106, v107, v108, v109, v110, v111, v112, v113, v114, v115, v116, v117, v118, v119, v120, v121, v122, v123, v124, v125, v126, v127, v128, v129, v130, v131, v132, v133, v134, v135, v136, v137, v138, v139, v140, v141, v142, v143, v144, v145, v146, v147, v148, v149, v150, v151, v152, v153, v154, v155, v156, v157, v158, v159, v160, v161, v162, v163, v164, v165, v166, v167, v168, v169, v170, v171, v172, v173, v174, v175, v176, v177, v178, v179, v180, v181, v182, v183, v184, v185, v186, v187], []⟩ X0))
    (hQ : Hid (∀ (X : World) (E : Int) (b : Bool) (v31 v32 v33 v34 v35 v36 v37 v38 v39 v40 v41 v42 v43 v44 v45 v46 v47 v48 v49 v50 v51 v52 v53 v54 v55 v56 v57 v58 v59 v60 v61 v62 v63 v64 v65 v66 v67 v68 v69 v70 v71 v72 v73 v74 v75 v76 v77 v78 v79 v80 v81 v82 v83 v84 v85 v86 v87 v88 v89 v90 v91 v92 v93 v94 v95 v96 v97 v98 v99 v100 v101 v102 v103 v104 v105 v106 v107 v108 v109 v110 v111 v112 v113 v114 v115 v116 v117 v118 v119 v120 v121 v122 v123 v124 v125 v126 v127 v128 v129 v130 v131 v132 v133 v134 v135 v136 v137 v138 v139 v140 v141 v142 v143 v144 v145 v146 v147 v148 v149 v150 v151 v152 v153 v154 v155 v156 v157 v158 v159 v160 v161 v162 v163 v164 v165 v166 v167 v168 v169 v170 v171 v172 v173 v174 v175 v176 v177 v178 v179 v180 v181 v182 v183 v184 v185 v186 v187 : Value), Sr X w0 g6 G cc M i nm H V C cf la E b → Q .ret ⟨#[u0, u1, u2, u3, u4, u5, .pointer (some ⟨g6, 0, none⟩), .int .i64 E, .bool b, .pointer (some ⟨g9, 0, none⟩), .pointer (some ⟨G, i * 15, none⟩), .bool pb, .bool la, u13, u14, u15, u16, u17, u18, u19, u20, u21, u22, u23, u24, u25, u26, u27, u28, u29, .int .i64 t, v31, v32, v33, v34, v35, v36, v37, v38, v39, v40, v41, v42, v43, v44, v45, v46, v47, v48, v49, v50, v51, v52, v53, v54, v55, v56, v57, v58, v59, v60, v61, v62, v63, v64, v65, v66, v67, v68, v69, v70, v71, v72, v73, v74, v75, v76, v77, v78, v79, v80, v81, v82, v83, v84, v85, v86, v87, v88, v89, v90, v91, v92, v93, v94, v95, v96, v97, v98, v99, v100, v101, v102, v103, v104, v105, v106, v107, v108, v109, v110, v111, v112, v113, v114, v115, v116, v117, v118, v119, v120, v121, v122, v123, v124, v125, v126, v127, v128, v129, v130, v131, v132, v133, v134, v135, v136, v137, v138, v139, v140, v141, v142, v143, v144, v145, v146, v147, v148, v149, v150, v151, v152, v153, v154, v155, v156, v157, v158, v159, v160, v161, v162, v163, v164, v165, v166, v167, v168, v169, v170, v171, v172, v173, v174, v175, v176, v177, v178, v179, v180, v181, v182, v183, v184, v185, v186, v187], []⟩ X)) :
    Code.wp Try.prog csB0 Q ⟨#[u0, u1, u2, u3, u4, u5, .pointer (some ⟨g6, 0, none⟩), u7, u8, .pointer (some ⟨g9, 0, none⟩), .pointer (some ⟨G, i * 15, none⟩), .bool pb, .bool la, u13, u14, u15, u16, u17, u18, u19, u20, u21, u22, u23, u24, u25, u26, u27, u28, u29, .int .i64 t, u31, u32, u33, u34, u35, u36, u37, u38, u39, u40, u41, u42, u43, u44, u45, u46, u47, u48, u49, u50, u51, u52, u53, u54, u55, u56, u57, u58, u59, u60, u61, u62, u63, u64, u65, u66, u67, u68, u69, u70, u71, u72, u73, u74, u75, u76, u77, u78, u79, u80, u81, u82, u83, u84, u85, u86, u87, u88, u89, u90, u91, u92, u93, u94, u95, u96, u97, u98, u99, u100, u101, u102, u103, u104, u105, u106, u107, u108, u109, u110, u111, u112, u113, u114, u115, u116, u117, u118, u119, u120, u121, u122, u123, u124, u125, u126, u127, u128, u129, u130, u131, u132, u133, u134, u135, u136, u137, u138, u139, u140, u141, u142, u143, u144, u145, u146, u147, u148, u149, u150, u151, u152, u153, u154, u155, u156, u157, u158, u159, u160, u161, u162, u163, u164, u165, u166, u167, u168, u169, u170, u171, u172, u173, u174, u175, u176, u177, u178, u179, u180, u181, u182, u183, u184, u185, u186, u187], []⟩ X0 := by
  by_cases e0 : t = 0
  · subst e0
    exact so_0 u0 u1 u2 u3 u4 u5 u7 u8 u13 u14 u15 u16 u17 u18 u19 u20 u21 u22 u23 u24 u25 u26 u27 u28 u29 u31 u32 u33 u34 u35 u36 u37 u38 u39 u40 u41 u42 u43 u44 u45 u46 u47 u48 u49 u50 u51 u52 u53 u54 u55 u56 u57 u58 u59 u60 u61 u62 u63 u64 u65 u66 u67 u68 u69 u70 u71 u72 u73 u74 u75 u76 u77 u78 u79 u80 u81 u82 u83 u84 u85 u86 u87 u88 u89 u90 u91 u92 u93 u94 u95 u96 u97 u98 u99 u100 u101 u102 u103 u104 u105 u106 u107 u108 u109 u110 u111 u112 u113 u114 u115 u116 u117 u118 u119 u120 u121 u122 u123 u124 u125 u126 u127 u128 u129 u130 u131 u132 u133 u134 u135 u136 u137 u138 u139 u140 u141 u142 u143 u144 u145 u146 u147 u148 u149 u150 u151 u152 u153 u154 u155 u156 u157 u158 u159 u160 u161 u162 u163 u164 u165 u166 u167 u168 u169 u170 u171 u172 u173 u174 u175 u176 u177 u178 u179 u180 u181 u182 u183 u184 u185 u186 u187 g6 g9 G cc M i nm H V C cf la pb w0 X0 Q HSB HPB hQ
  by_cases e1 : t = 1
  · subst e1
    exact so_1 u0 u1 u2 u3 u4 u5 u7 u8 u13 u14 u15 u16 u17 u18 u19 u20 u21 u22 u23 u24 u25 u26 u27 u28 u29 u31 u32 u33 u34 u35 u36 u37 u38 u39 u40 u41 u42 u43 u44 u45 u46 u47 u48 u49 u50 u51 u52 u53 u54 u55 u56 u57 u58 u59 u60 u61 u62 u63 u64 u65 u66 u67 u68 u69 u70 u71 u72 u73 u74 u75 u76 u77 u78 u79 u80 u81 u82 u83 u84 u85 u86 u87 u88 u89 u90 u91 u92 u93 u94 u95 u96 u97 u98 u99 u100 u101 u102 u103 u104 u105 u106 u107 u108 u109 u110 u111 u112 u113 u114 u115 u116 u117 u118 u119 u120 u121 u122 u123 u124 u125 u126 u127 u128 u129 u130 u131 u132 u133 u134 u135 u136 u137 u138 u139 u140 u141 u142 u143 u144 u145 u146 u147 u148 u149 u150 u151 u152 u153 u154 u155 u156 u157 u158 u159 u160 u161 u162 u163 u164 u165 u166 u167 u168 u169 u170 u171 u172 u173 u174 u175 u176 u177 u178 u179 u180 u181 u182 u183 u184 u185 u186 u187 g6 g9 G cc M i nm H V C cf la pb w0 X0 Q HSB HPB hQ
  by_cases e2 : t = 2
  · subst e2
    exact so_2 u0 u1 u2 u3 u4 u5 u7 u8 u13 u14 u15 u16 u17 u18 u19 u20 u21 u22 u23 u24 u25 u26 u27 u28 u29 u31 u32 u33 u34 u35 u36 u37 u38 u39 u40 u41 u42 u43 u44 u45 u46 u47 u48 u49 u50 u51 u52 u53 u54 u55 u56 u57 u58 u59 u60 u61 u62 u63 u64 u65 u66 u67 u68 u69 u70 u71 u72 u73 u74 u75 u76 u77 u78 u79 u80 u81 u82 u83 u84 u85 u86 u87 u88 u89 u90 u91 u92 u93 u94 u95 u96 u97 u98 u99 u100 u101 u102 u103 u104 u105 u106 u107 u108 u109 u110 u111 u112 u113 u114 u115 u116 u117 u118 u119 u120 u121 u122 u123 u124 u125 u126 u127 u128 u129 u130 u131 u132 u133 u134 u135 u136 u137 u138 u139 u140 u141 u142 u143 u144 u145 u146 u147 u148 u149 u150 u151 u152 u153 u154 u155 u156 u157 u158 u159 u160 u161 u162 u163 u164 u165 u166 u167 u168 u169 u170 u171 u172 u173 u174 u175 u176 u177 u178 u179 u180 u181 u182 u183 u184 u185 u186 u187 g6 g9 G cc M i nm H V C cf la pb w0 X0 Q HSB HPB hQ
  by_cases e3 : t = 3
  · subst e3
    exact so_3 u0 u1 u2 u3 u4 u5 u7 u8 u13 u14 u15 u16 u17 u18 u19 u20 u21 u22 u23 u24 u25 u26 u27 u28 u29 u31 u32 u33 u34 u35 u36 u37 u38 u39 u40 u41 u42 u43 u44 u45 u46 u47 u48 u49 u50 u51 u52 u53 u54 u55 u56 u57 u58 u59 u60 u61 u62 u63 u64 u65 u66 u67 u68 u69 u70 u71 u72 u73 u74 u75 u76 u77 u78 u79 u80 u81 u82 u83 u84 u85 u86 u87 u88 u89 u90 u91 u92 u93 u94 u95 u96 u97 u98 u99 u100 u101 u102 u103 u104 u105 u106 u107 u108 u109 u110 u111 u112 u113 u114 u115 u116 u117 u118 u119 u120 u121 u122 u123 u124 u125 u126 u127 u128 u129 u130 u131 u132 u133 u134 u135 u136 u137 u138 u139 u140 u141 u142 u143 u144 u145 u146 u147 u148 u149 u150 u151 u152 u153 u154 u155 u156 u157 u158 u159 u160 u161 u162 u163 u164 u165 u166 u167 u168 u169 u170 u171 u172 u173 u174 u175 u176 u177 u178 u179 u180 u181 u182 u183 u184 u185 u186 u187 g6 g9 G cc M i nm H V C cf la pb w0 X0 Q HSB HPB hQ
  by_cases e4 : t = 4
  · subst e4
    exact so_4 u0 u1 u2 u3 u4 u5 u7 u8 u13 u14 u15 u16 u17 u18 u19 u20 u21 u22 u23 u24 u25 u26 u27 u28 u29 u31 u32 u33 u34 u35 u36 u37 u38 u39 u40 u41 u42 u43 u44 u45 u46 u47 u48 u49 u50 u51 u52 u53 u54 u55 u56 u57 u58 u59 u60 u61 u62 u63 u64 u65 u66 u67 u68 u69 u70 u71 u72 u73 u74 u75 u76 u77 u78 u79 u80 u81 u82 u83 u84 u85 u86 u87 u88 u89 u90 u91 u92 u93 u94 u95 u96 u97 u98 u99 u100 u101 u102 u103 u104 u105 u106 u107 u108 u109 u110 u111 u112 u113 u114 u115 u116 u117 u118 u119 u120 u121 u122 u123 u124 u125 u126 u127 u128 u129 u130 u131 u132 u133 u134 u135 u136 u137 u138 u139 u140 u141 u142 u143 u144 u145 u146 u147 u148 u149 u150 u151 u152 u153 u154 u155 u156 u157 u158 u159 u160 u161 u162 u163 u164 u165 u166 u167 u168 u169 u170 u171 u172 u173 u174 u175 u176 u177 u178 u179 u180 u181 u182 u183 u184 u185 u186 u187 g6 g9 G cc M i nm H V C cf la pb w0 X0 Q HSB HPB hQ
  by_cases e5 : t = 5
  · subst e5
    exact so_5 u0 u1 u2 u3 u4 u5 u7 u8 u13 u14 u15 u16 u17 u18 u19 u20 u21 u22 u23 u24 u25 u26 u27 u28 u29 u31 u32 u33 u34 u35 u36 u37 u38 u39 u40 u41 u42 u43 u44 u45 u46 u47 u48 u49 u50 u51 u52 u53 u54 u55 u56 u57 u58 u59 u60 u61 u62 u63 u64 u65 u66 u67 u68 u69 u70 u71 u72 u73 u74 u75 u76 u77 u78 u79 u80 u81 u82 u83 u84 u85 u86 u87 u88 u89 u90 u91 u92 u93 u94 u95 u96 u97 u98 u99 u100 u101 u102 u103 u104 u105 u106 u107 u108 u109 u110 u111 u112 u113 u114 u115 u116 u117 u118 u119 u120 u121 u122 u123 u124 u125 u126 u127 u128 u129 u130 u131 u132 u133 u134 u135 u136 u137 u138 u139 u140 u141 u142 u143 u144 u145 u146 u147 u148 u149 u150 u151 u152 u153 u154 u155 u156 u157 u158 u159 u160 u161 u162 u163 u164 u165 u166 u167 u168 u169 u170 u171 u172 u173 u174 u175 u176 u177 u178 u179 u180 u181 u182 u183 u184 u185 u186 u187 g6 g9 G cc M i nm H V C cf la pb w0 X0 Q HSB HPB hQ
  by_cases e6 : t = 6
  · subst e6
    exact so_6 u0 u1 u2 u3 u4 u5 u7 u8 u13 u14 u15 u16 u17 u18 u19 u20 u21 u22 u23 u24 u25 u26 u27 u28 u29 u31 u32 u33 u34 u35 u36 u37 u38 u39 u40 u41 u42 u43 u44 u45 u46 u47 u48 u49 u50 u51 u52 u53 u54 u55 u56 u57 u58 u59 u60 u61 u62 u63 u64 u65 u66 u67 u68 u69 u70 u71 u72 u73 u74 u75 u76 u77 u78 u79 u80 u81 u82 u83 u84 u85 u86 u87 u88 u89 u90 u91 u92 u93 u94 u95 u96 u97 u98 u99 u100 u101 u102 u103 u104 u105 u106 u107 u108 u109 u110 u111 u112 u113 u114 u115 u116 u117 u118 u119 u120 u121 u122 u123 u124 u125 u126 u127 u128 u129 u130 u131 u132 u133 u134 u135 u136 u137 u138 u139 u140 u141 u142 u143 u144 u145 u146 u147 u148 u149 u150 u151 u152 u153 u154 u155 u156 u157 u158 u159 u160 u161 u162 u163 u164 u165 u166 u167 u168 u169 u170 u171 u172 u173 u174 u175 u176 u177 u178 u179 u180 u181 u182 u183 u184 u185 u186 u187 g6 g9 G cc M i nm H V C cf la pb w0 X0 Q HSB HPB hQ
  by_cases e7 : t = 7
  · subst e7
    exact so_7 u0 u1 u2 u3 u4 u5 u7 u8 u13 u14 u15 u16 u17 u18 u19 u20 u21 u22 u23 u24 u25 u26 u27 u28 u29 u31 u32 u33 u34 u35 u36 u37 u38 u39 u40 u41 u42 u43 u44 u45 u46 u47 u48 u49 u50 u51 u52 u53 u54 u55 u56 u57 u58 u59 u60 u61 u62 u63 u64 u65 u66 u67 u68 u69 u70 u71 u72 u73 u74 u75 u76 u77 u78 u79 u80 u81 u82 u83 u84 u85 u86 u87 u88 u89 u90 u91 u92 u93 u94 u95 u96 u97 u98 u99 u100 u101 u102 u103 u104 u105 u106 u107 u108 u109 u110 u111 u112 u113 u114 u115 u116 u117 u118 u119 u120 u121 u122 u123 u124 u125 u126 u127 u128 u129 u130 u131 u132 u133 u134 u135 u136 u137 u138 u139 u140 u141 u142 u143 u144 u145 u146 u147 u148 u149 u150 u151 u152 u153 u154 u155 u156 u157 u158 u159 u160 u161 u162 u163 u164 u165 u166 u167 u168 u169 u170 u171 u172 u173 u174 u175 u176 u177 u178 u179 u180 u181 u182 u183 u184 u185 u186 u187 g6 g9 G cc M i nm H V C cf la pb w0 X0 Q HSB HPB HMN hQ
  by_cases e8 : t = 8
  · subst e8
    exact so_8 u0 u1 u2 u3 u4 u5 u7 u8 u13 u14 u15 u16 u17 u18 u19 u20 u21 u22 u23 u24 u25 u26 u27 u28 u29 u31 u32 u33 u34 u35 u36 u37 u38 u39 u40 u41 u42 u43 u44 u45 u46 u47 u48 u49 u50 u51 u52 u53 u54 u55 u56 u57 u58 u59 u60 u61 u62 u63 u64 u65 u66 u67 u68 u69 u70 u71 u72 u73 u74 u75 u76 u77 u78 u79 u80 u81 u82 u83 u84 u85 u86 u87 u88 u89 u90 u91 u92 u93 u94 u95 u96 u97 u98 u99 u100 u101 u102 u103 u104 u105 u106 u107 u108 u109 u110 u111 u112 u113 u114 u115 u116 u117 u118 u119 u120 u121 u122 u123 u124 u125 u126 u127 u128 u129 u130 u131 u132 u133 u134 u135 u136 u137 u138 u139 u140 u141 u142 u143 u144 u145 u146 u147 u148 u149 u150 u151 u152 u153 u154 u155 u156 u157 u158 u159 u160 u161 u162 u163 u164 u165 u166 u167 u168 u169 u170 u171 u172 u173 u174 u175 u176 u177 u178 u179 u180 u181 u182 u183 u184 u185 u186 u187 g6 g9 G cc M i nm H V C cf la pb w0 X0 Q HSB HPB hQ
  by_cases e9 : t = 9
  · subst e9
    exact so_9 u0 u1 u2 u3 u4 u5 u7 u8 u13 u14 u15 u16 u17 u18 u19 u20 u21 u22 u23 u24 u25 u26 u27 u28 u29 u31 u32 u33 u34 u35 u36 u37 u38 u39 u40 u41 u42 u43 u44 u45 u46 u47 u48 u49 u50 u51 u52 u53 u54 u55 u56 u57 u58 u59 u60 u61 u62 u63 u64 u65 u66 u67 u68 u69 u70 u71 u72 u73 u74 u75 u76 u77 u78 u79 u80 u81 u82 u83 u84 u85 u86 u87 u88 u89 u90 u91 u92 u93 u94 u95 u96 u97 u98 u99 u100 u101 u102 u103 u104 u105 u106 u107 u108 u109 u110 u111 u112 u113 u114 u115 u116 u117 u118 u119 u120 u121 u122 u123 u124 u125 u126 u127 u128 u129 u130 u131 u132 u133 u134 u135 u136 u137 u138 u139 u140 u141 u142 u143 u144 u145 u146 u147 u148 u149 u150 u151 u152 u153 u154 u155 u156 u157 u158 u159 u160 u161 u162 u163 u164 u165 u166 u167 u168 u169 u170 u171 u172 u173 u174 u175 u176 u177 u178 u179 u180 u181 u182 u183 u184 u185 u186 u187 g6 g9 G cc M i nm H V C cf la pb w0 X0 Q HSB HPB HMB hQ
  by_cases e10 : t = 10
  · subst e10
    exact so_10 u0 u1 u2 u3 u4 u5 u7 u8 u13 u14 u15 u16 u17 u18 u19 u20 u21 u22 u23 u24 u25 u26 u27 u28 u29 u31 u32 u33 u34 u35 u36 u37 u38 u39 u40 u41 u42 u43 u44 u45 u46 u47 u48 u49 u50 u51 u52 u53 u54 u55 u56 u57 u58 u59 u60 u61 u62 u63 u64 u65 u66 u67 u68 u69 u70 u71 u72 u73 u74 u75 u76 u77 u78 u79 u80 u81 u82 u83 u84 u85 u86 u87 u88 u89 u90 u91 u92 u93 u94 u95 u96 u97 u98 u99 u100 u101 u102 u103 u104 u105 u106 u107 u108 u109 u110 u111 u112 u113 u114 u115 u116 u117 u118 u119 u120 u121 u122 u123 u124 u125 u126 u127 u128 u129 u130 u131 u132 u133 u134 u135 u136 u137 u138 u139 u140 u141 u142 u143 u144 u145 u146 u147 u148 u149 u150 u151 u152 u153 u154 u155 u156 u157 u158 u159 u160 u161 u162 u163 u164 u165 u166 u167 u168 u169 u170 u171 u172 u173 u174 u175 u176 u177 u178 u179 u180 u181 u182 u183 u184 u185 u186 u187 g6 g9 G cc M i nm H V C cf la pb w0 X0 Q HSB HPB hQ
  exact so_n u0 u1 u2 u3 u4 u5 u7 u8 u13 u14 u15 u16 u17 u18 u19 u20 u21 u22 u23 u24 u25 u26 u27 u28 u29 u31 u32 u33 u34 u35 u36 u37 u38 u39 u40 u41 u42 u43 u44 u45 u46 u47 u48 u49 u50 u51 u52 u53 u54 u55 u56 u57 u58 u59 u60 u61 u62 u63 u64 u65 u66 u67 u68 u69 u70 u71 u72 u73 u74 u75 u76 u77 u78 u79 u80 u81 u82 u83 u84 u85 u86 u87 u88 u89 u90 u91 u92 u93 u94 u95 u96 u97 u98 u99 u100 u101 u102 u103 u104 u105 u106 u107 u108 u109 u110 u111 u112 u113 u114 u115 u116 u117 u118 u119 u120 u121 u122 u123 u124 u125 u126 u127 u128 u129 u130 u131 u132 u133 u134 u135 u136 u137 u138 u139 u140 u141 u142 u143 u144 u145 u146 u147 u148 u149 u150 u151 u152 u153 u154 u155 u156 u157 u158 u159 u160 u161 u162 u163 u164 u165 u166 u167 u168 u169 u170 u171 u172 u173 u174 u175 u176 u177 u178 u179 u180 u181 u182 u183 u184 u185 u186 u187 g6 g9 G cc M i nm H V C cf la pb w0 X0 t Q HSB HPB (by simpa using e0) (by simpa using e1) (by simpa using e2) (by simpa using e3) (by simpa using e4) (by simpa using e5) (by simpa using e6) (by simpa using e7) (by simpa using e8) (by simpa using e9) (by simpa using e10) hN hQ

end Go.Proofs.Ytkodihmjjiadnaa.Nn
/- NETSPOILT: spoilt, its walk. -/
namespace Go.Proofs.Ytkodihmjjiadnaa.Nn
open Go.RowKit

/-- spoilt's answer. -/
theorem sp_ret {N : Nt} {w X : World} {a : Act} {b G uc M i g6 : Nat} {cf : Nat → Ly} {la bb : Bool} {E : Int}
    (hr : (results Try.f8 a.tmps).run Try.prog X = .ok (.tuple #[.agg #[.string N.nm, .int .i64 N.h, .int .i64 N.v, .int .i64 N.c, .slice (some ⟨G, 0, none⟩) M uc], .int .i64 E, .bool bb]) X) (SR : Sr X w g6 G uc M i N.nm N.h N.v N.c cf la E bb) (HLA : Hid (((i : Int) == (M : Int) - 1) = la)) (HCP : Hid (∀ j, j < M → ∃ a1 c1 a2 c2 a3 c3, cf j = cpy (N.lf j) a1 c1 a2 c2 a3 c3)) (_HB0 : Hid (w.heap.size = b)) (hi : i < M) (hd : a.defers = [] := by rfl) :
    bodyPost Try.prog Try.f8 (fun e w' => ∃ (G cc : Nat) (lf2 : Nat → Ly) (E : Int) (b : Bool), e = .returned (.tuple #[ntv ⟨N.nm, N.h, N.v, N.c, some ⟨G, 0, none⟩, M, cc, lf2⟩, .int .i64 E, .bool b]) ∧ Tf w' w.heap.size G cc M lf2 ∧ (∀ j, j < M → j ≠ i → ∃ a1 c1 a2 c2 a3 c3, lf2 j = cpy (N.lf j) a1 c1 a2 c2 a3 c3) ∧ (b = true → ∀ S, faE (N.lf i) S = 0 → SpOk S → S.la = decide (i + 1 = M) → S.h ≤ 14 → faE (lf2 i) S = E ∧ ¬ E = 0) ∧ (∀ j, j < M → (lf2 j).mw ≤ (N.lf j).mw + 1 ∧ (lf2 j).mn ≤ (N.lf j).mn ∧ (lf2 j).mb ≤ (N.lf j).mb + 1) ∧ Below w.heap.size w w') .ret a X := by
  obtain ⟨-, ⟨L2, TF, hE, hl⟩, BX⟩ := SR
  have hla : la = decide (i + 1 = M) := by
    rw [← HLA.out]
    by_cases e : i + 1 = M
    · rw [decide_eq_true e]; exact beq_iff_eq.2 (by omega)
    · rw [decide_eq_false e]; exact beq_eq_false_iff_ne.2 (by omega)
  have hsi : sn cf i L2 i = L2 := if_pos rfl
  have hsn : ∀ j, j ≠ i → sn cf i L2 j = cf j := fun j hj => if_neg hj
  obtain ⟨a1, c1, a2, c2, a3, c3, ei⟩ := HCP.out i hi
  refine bodyPost_ret hr hd ⟨G, uc, sn cf i L2, E, bb, rfl, TF, fun j hj hne => ?_, fun hb S h1 h2 h3 h4 => ?_, fun j hj => ?_, BX⟩
  · rw [hsn j hne]; exact HCP.out j hj
  · rw [hsi]; exact hE hb S (by rw [ei]; exact h1) h2 (by rw [hla]; exact h3) h4
  · by_cases hne : j = i
    · subst hne
      rw [hsi]
      rw [ei] at hl
      exact hl
    · rw [hsn j hne]
      obtain ⟨b1, d1, b2, d2, b3, d3, e⟩ := HCP.out j hj
      rw [e]
      exact ⟨Nat.le_succ _, Nat.le_refl _, Nat.le_succ _⟩
set_option maxHeartbeats 12800000 in
set_option maxRecDepth 100000 in
theorem spoilt_any (N : Nt) (i : Nat) (how : Int) (w : World) (hN : NtW w N) (hi : i < N.ml) (hM : N.ml ≤ 4) (hL : ∀ j, j < N.ml → ((N.lf j).mw ≤ 1000001 ∧ (N.lf j).mn ≤ 1000001 ∧ (N.lf j).mb ≤ 1000001) ∧ Nl (N.lf j)) (hmb : i + 1 = N.ml → 1 ≤ (N.lf i).mb) (hmn : ¬ (N.lf i).kd = 3 → ¬ i + 1 = N.ml → 1 ≤ (N.lf i).mn) :
    Calls Try.prog 8 #[ntv N, .int .i64 (i : Int), .int .i64 how] w fun e w' => ∃ (G cc : Nat) (lf2 : Nat → Ly) (E : Int) (b : Bool), e = .returned (.tuple #[ntv ⟨N.nm, N.h, N.v, N.c, some ⟨G, 0, none⟩, N.ml, cc, lf2⟩, .int .i64 E, .bool b]) ∧ Tf w' w.heap.size G cc N.ml lf2 ∧ (∀ j, j < N.ml → j ≠ i → ∃ a1 c1 a2 c2 a3 c3, lf2 j = cpy (N.lf j) a1 c1 a2 c2 a3 c3) ∧ (b = true → ∀ S, faE (N.lf i) S = 0 → SpOk S → S.la = decide (i + 1 = N.ml) → S.h ≤ 14 → faE (lf2 i) S = E ∧ ¬ E = 0) ∧ (∀ j, j < N.ml → (lf2 j).mw ≤ (N.lf j).mw + 1 ∧ (lf2 j).mn ≤ (N.lf j).mn ∧ (lf2 j).mb ≤ (N.lf j).mb + 1) ∧ Below w.heap.size w w' := by
  have HL := hid1 hL
  have HN := hid1 hN
  have HMB := hid1 hmb
  have HMN := hid1 hmn
  clear hL hN hmb hmn
  obtain ⟨b, hb0⟩ : ∃ b, w.heap.size = b := ⟨_, rfl⟩
  have HB0 := hid1 hb0
  obtain ⟨M, hMM⟩ : ∃ M, N.ml = M := ⟨_, rfl⟩
  have HM := hid1 hMM
  rw [hMM] at hi hM ⊢
  go_enter Try.func8, Try.ntmps8
  go_upto_region 1 with fail
  refine gen_world (fun X => Below w.heap.size w X ∧ X.rowIs b 28 5 (netF N.nm N.h N.v N.c (.slice N.al M N.cl)) ∧ X.rowIs (b + 1) 28 5 (netF ⟨#[]⟩ 0 0 0 (.slice none 0 0)) ∧ b + 2 ≤ X.heap.size) ?gw ?_
  case gw =>
    subst hb0
    exact ⟨by repeat (first | (with_reducible exact Below.refl _ _) | (with_reducible refine bl_alloc ?_ _) | (with_reducible refine Below.drew ?_)), (net_newF w N.nm N.h N.v N.c (.slice N.al M N.cl) _).alloc _, by
      have := net_newF (w.alloc (.cells #[.string N.nm, .int .i64 N.h, .int .i64 N.v, .int .i64 N.c, .slice N.al M N.cl] 28)) ⟨#[]⟩ 0 0 0 (.slice none 0 0) 28
      simpa using this, by simp⟩
  rintro X ⟨BX, R0, R1, zX⟩
  have n0 : X.cell? ⟨b, 0, none⟩ = some (.string N.nm) := R0.cell (i := 0) (by decide)
  have n1 : X.cell? ⟨b, 1, none⟩ = some (.int .i64 N.h) := R0.cell (i := 1) (by decide)
  have n2 : X.cell? ⟨b, 2, none⟩ = some (.int .i64 N.v) := R0.cell (i := 2) (by decide)
  have n3 : X.cell? ⟨b, 3, none⟩ = some (.int .i64 N.c) := R0.cell (i := 3) (by decide)
  have n4 : X.cell? ⟨b, 4, none⟩ = some (.slice N.al M N.cl) := R0.cell (i := 4) (by decide)
  have HR0 := hid1 R0
  have HR1 := hid1 R1
  have CT := hid1 (twin_any N X (HN.out.keep BX) (by rw [HM.out]; omega) (fun j hj => by have := (HL.out j hj).1; omega) (fun j hj => (HL.out j hj).2))
  dsimp only [ntv] at CT
  rw [hMM] at CT
  clear R0 R1
  go_wp2_with fail
  refine CT.out.mono ?_
  rintro e z ⟨ua, uc, cf, rfl, own, lo, dis, hb⟩
  obtain ⟨G, rfl, -, -, -, -⟩ := own_cellsS own (by omega)
  have HCP := hid1 (fun j (hj : j < M) => (lo j hj).2)
  obtain ⟨g9, hg9⟩ : ∃ g, z.heap.size = g := ⟨_, rfl⟩
  clear n0 n1 n2 n3 n4 CT
  go_upto_region 2 with fail
  refine gen_world (fun Y => Sb Y w (b + 1) g9 G uc M i N.nm N.h N.v N.c cf ∧ Y.rowIs b 28 5 (netF N.nm N.h N.v N.c (.slice N.al M N.cl))) ?gw2 ?_
  case gw2 =>
    have hs := HB0.out
    have hbx := BX.size
    have hbz := hb.size
    refine ⟨⟨⟨(own.mono hbx).alloc _, fun j hj => ⟨((lo j hj).1.mono hbx).bl (bl_alloc (Below.refl _ _) _), ?_⟩, dis⟩, by rw [← hg9]; exact net_newF z N.nm N.h N.v N.c (.slice (some ⟨G, 0, none⟩) M uc) _, (World.rowIs.of_block HR1.out (hb.block _ HR1.out.lt)).alloc _, by omega, by omega, by omega, hi, hM, bl_alloc (bl_step BX hb) _⟩, (World.rowIs.of_block HR0.out (hb.block _ HR0.out.lt)).alloc _⟩
    obtain ⟨a1, c1, a2, c2, a3, c3, e⟩ := (lo j hj).2
    rw [e]
    exact (HL.out j (by rw [HM.out]; exact hj)).1
  clear own lo dis hb hg9 BX zX HR0 HR1
  rintro Y ⟨SB, R0⟩
  have HSB := hid1 SB
  have TF := SB.1.tf
  have n4 : Y.cell? ⟨b, 4, none⟩ = some (.slice N.al M N.cl) := R0.cell (i := 4) (by decide)
  have m4 : Y.cell? ⟨g9, 4, none⟩ = some (.slice (some ⟨G, 0, none⟩) M uc) := SB.2.1.cell (i := 4) (by decide)
  have ck : Y.cell? ⟨G, i * 15, none⟩ = some (.int .i64 (cf i).kd) := TF.cells (c := 0) hi (by decide)
  have ii0 : (0 : Int) ≤ (i : Int) := by omega
  have ii : (i : Int) < (M : Int) := by omega
  have wM : IntKind.i64.wrap ((M : Int) - 1) = (M : Int) - 1 := by rw [IntKind.wrap_i64]; omega
  obtain ⟨pb, hpb⟩ : ∃ pb, ((cf i).kd == 3) = pb := ⟨_, rfl⟩
  obtain ⟨la, hla⟩ : ∃ la, ((i : Int) == (M : Int) - 1) = la := ⟨_, rfl⟩
  have HPB := hid1 hpb
  have HLA := hid1 hla
  clear SB TF R0
  go_upto_block 0 with fail
  have HMB' : Hid (la = true → 1 ≤ (cf i).mb) := hid1 fun e => by
    obtain ⟨a1, c1, a2, c2, a3, c3, ee⟩ := HCP.out i hi
    rw [ee]
    exact HMB.out (by rw [HM.out]; have := HLA.out; rw [e] at this; have := eq_of_beq this; omega)
  have HMN' : Hid (¬ (cf i).kd = 3 → la = false → 1 ≤ (cf i).mn) := hid1 fun e e' => by
    obtain ⟨a1, c1, a2, c2, a3, c3, ee⟩ := HCP.out i hi
    rw [ee] at e ⊢
    exact HMN.out e (by rw [HM.out]; have := HLA.out; rw [e'] at this; have := ne_of_beq_false this; omega)
  refine so_all _ _ _ _ _ _ _ _ _ _ _ _ _ _ _ _ _ _ _ _ _ _ _ _ _ _ _ _ _ _ _ _ _ _ _ _ _ _ _ _ _ _ _ _ _ _ _ _ _ _ _ _ _ _ _ _ _ _ _ _ _ _ _ _ _ _ _ _ _ _ _ _ _ _ _ _ _ _ _ _ _ _ _ _ _ _ _ _ _ _ _ _ _ _ _ _ _ _ _ _ _ _ _ _ _ _ _ _ _ _ _ _ _ _ _ _ _ _ _ _ _ _ _ _ _ _ _ _ _ _ _ _ _ _ _ _ _ _ _ _ _ _ _ _ _ _ _ _ _ _ _ _ _ _ _ _ _ _ _ _ _ _ _ _ _ _ _ _ _ _ _ _ _ _ _ _ _ _ _ _ _ _ (b + 1) g9 G uc M i N.nm N.h N.v N.c cf la pb w Y how _ HSB HPB HMB' HMN' (hid1 ?_) (hid1 ?_)
  · intro v31 v32 v33 v34 v35 v36 v37 v38 v39 v40 v41 v42 v43 v44 v45 v46 v47 v48 v49 v50 v51 v52 v53 v54 v55 v56 v57 v58 v59 v60 v61 v62 v63 v64 v65 v66 v67 v68 v69 v70 v71 v72 v73 v74 v75 v76 v77 v78 v79 v80 v81 v82 v83 v84 v85 v86 v87 v88 v89 v90 v91 v92 v93 v94 v95 v96 v97 v98 v99 v100 v101 v102 v103 v104 v105 v106 v107 v108 v109 v110 v111 v112 v113 v114 v115 v116 v117 v118 v119 v120 v121 v122 v123 v124 v125 v126 v127 v128 v129 v130 v131 v132 v133 v134 v135 v136 v137 v138 v139 v140 v141 v142 v143 v144 v145 v146 v147 v148 v149 v150 v151 v152 v153 v154 v155 v156 v157 v158 v159 v160 v161 v162 v163 v164 v165 v166 v167 v168 v169 v170 v171 v172 v173 v174 v175 v176 v177 v178 v179 v180 v181 v182 v183 v184 v185 v186 v187
    obtain ⟨hT, h9, h6, b6, b9, h69, -, -, BX⟩ := HSB.out
    have nG6 : ¬ G = b + 1 := fun e => rowNe h6 hT.1 (by decide) rfl e.symm
    have n0 : Y.cell? ⟨g9, 0, none⟩ = some (.string N.nm) := h9.cell (i := 0) (by decide)
    have n1 : Y.cell? ⟨g9, 1, none⟩ = some (.int .i64 N.h) := h9.cell (i := 1) (by decide)
    have n2 : Y.cell? ⟨g9, 2, none⟩ = some (.int .i64 N.v) := h9.cell (i := 2) (by decide)
    have n3 : Y.cell? ⟨g9, 3, none⟩ = some (.int .i64 N.c) := h9.cell (i := 3) (by decide)
    have r0 : Y.cell? ⟨b + 1, 0, none⟩ = some (.string ⟨#[]⟩) := h6.cell (i := 0) (by decide)
    have r1 : Y.cell? ⟨b + 1, 1, none⟩ = some (.int .i64 0) := h6.cell (i := 1) (by decide)
    have r2 : Y.cell? ⟨b + 1, 2, none⟩ = some (.int .i64 0) := h6.cell (i := 2) (by decide)
    have r3 : Y.cell? ⟨b + 1, 3, none⟩ = some (.int .i64 0) := h6.cell (i := 3) (by decide)
    have r4 : Y.cell? ⟨b + 1, 4, none⟩ = some (.slice none 0 0) := h6.cell (i := 4) (by decide)
    have f0 := h6.frozen 0
    have f1 := h6.frozen 1
    have f2 := h6.frozen 2
    have f3 := h6.frozen 3
    have f4 := h6.frozen 4
    have SR := hid1 (sr_end (L2 := cf i) (la := la) (E := 0) (b := false) (nm := N.nm) (H := N.h) (V := N.v) (C := N.c) h6 b6 (by rw [sn_id]; exact hT.tf) (fun q => by cases q) BX)
    clear hT h9 h6 b6 b9 BX
    go_wp2_with fail
    clear n0 n1 n2 n3 r0 r1 r2 r3 r4 f0 f1 f2 f3 f4
    generalize ((((Y.setCell ⟨b + 1, 0, none⟩ (.string N.nm)).setCell ⟨b + 1, 1, none⟩ (.int .i64 N.h)).setCell ⟨b + 1, 2, none⟩ (.int .i64 N.v)).setCell ⟨b + 1, 3, none⟩ (.int .i64 N.c)).setCell ⟨b + 1, 4, none⟩ (.slice (some ⟨G, 0, none⟩) M uc) = X at SR ⊢
    have R6 := SR.out.1
    have r0 : X.cell? ⟨b + 1, 0, none⟩ = some (.string N.nm) := R6.cell (i := 0) (by decide)
    have r1 : X.cell? ⟨b + 1, 1, none⟩ = some (.int .i64 N.h) := R6.cell (i := 1) (by decide)
    have r2 : X.cell? ⟨b + 1, 2, none⟩ = some (.int .i64 N.v) := R6.cell (i := 2) (by decide)
    have r3 : X.cell? ⟨b + 1, 3, none⟩ = some (.int .i64 N.c) := R6.cell (i := 3) (by decide)
    have r4 : X.cell? ⟨b + 1, 4, none⟩ = some (.slice (some ⟨G, 0, none⟩) M uc) := R6.cell (i := 4) (by decide)
    clear R6
    exact sp_ret (by simp [results, Try.results8, go_sem, r0, r1, r2, r3, r4]) SR.out HLA HCP HB0 hi
  · intro X E bb v31 v32 v33 v34 v35 v36 v37 v38 v39 v40 v41 v42 v43 v44 v45 v46 v47 v48 v49 v50 v51 v52 v53 v54 v55 v56 v57 v58 v59 v60 v61 v62 v63 v64 v65 v66 v67 v68 v69 v70 v71 v72 v73 v74 v75 v76 v77 v78 v79 v80 v81 v82 v83 v84 v85 v86 v87 v88 v89 v90 v91 v92 v93 v94 v95 v96 v97 v98 v99 v100 v101 v102 v103 v104 v105 v106 v107 v108 v109 v110 v111 v112 v113 v114 v115 v116 v117 v118 v119 v120 v121 v122 v123 v124 v125 v126 v127 v128 v129 v130 v131 v132 v133 v134 v135 v136 v137 v138 v139 v140 v141 v142 v143 v144 v145 v146 v147 v148 v149 v150 v151 v152 v153 v154 v155 v156 v157 v158 v159 v160 v161 v162 v163 v164 v165 v166 v167 v168 v169 v170 v171 v172 v173 v174 v175 v176 v177 v178 v179 v180 v181 v182 v183 v184 v185 v186 v187 SR
    have HSR := hid1 SR
    obtain ⟨R6, -, -⟩ := SR
    have r0 : X.cell? ⟨b + 1, 0, none⟩ = some (.string N.nm) := R6.cell (i := 0) (by decide)
    have r1 : X.cell? ⟨b + 1, 1, none⟩ = some (.int .i64 N.h) := R6.cell (i := 1) (by decide)
    have r2 : X.cell? ⟨b + 1, 2, none⟩ = some (.int .i64 N.v) := R6.cell (i := 2) (by decide)
    have r3 : X.cell? ⟨b + 1, 3, none⟩ = some (.int .i64 N.c) := R6.cell (i := 3) (by decide)
    have r4 : X.cell? ⟨b + 1, 4, none⟩ = some (.slice (some ⟨G, 0, none⟩) M uc) := R6.cell (i := 4) (by decide)
    clear R6
    go_wp2_with fail
    exact sp_ret (by simp [results, Try.results8, go_sem, r0, r1, r2, r3, r4]) HSR.out HLA HCP HB0 hi
end Go.Proofs.Ytkodihmjjiadnaa.Nn
/- NETSPOILT: what a spoilt network is told. -/
namespace Go.Proofs.Ytkodihmjjiadnaa.Nn
open Go.RowKit

theorem own_nil0 {W : World} {b e s n mm cw : Nat} {aw : Option Addr} {xs : List Value} (h : W.ownsRow b e s (.slice aw mm cw) n xs) (hn : aw = none) : cw = 0 := by
  subst hn
  rcases h.2 with ⟨e, -⟩ | ⟨g, cap, cur, e, -⟩
  · injection e
  · cases e
theorem Lo.nl {W : World} {b : Nat} {L : Ly} (h : Lo W b L) : Nl L := ⟨fun e => own_nil0 h.1 e, fun e => own_nil0 h.2.1 e, fun e => own_nil0 h.2.2 e⟩
theorem sp_cpy {N T : Nt} (hh : T.h = N.h) (hv : T.v = N.v) (hc : T.c = N.c) (hm : T.ml = N.ml) : ∀ i, (∀ j, j < i → ∃ a1 c1 a2 c2 a3 c3, T.lf j = cpy (N.lf j) a1 c1 a2 c2 a3 c3) → sp T i = sp N i
  | 0, _ => by simp only [sp, hh, hv, hc, hm]
  | i + 1, h => by
    have ih := sp_cpy hh hv hc hm i fun j hj => h j (by omega)
    obtain ⟨a1, c1, a2, c2, a3, c3, e⟩ := h i (by omega)
    simp only [sp]
    rw [ih, e, hm]
    rfl
theorem fl_cpy {N T : Nt} (hh : T.h = N.h) (hv : T.v = N.v) (hc : T.c = N.c) (hm : T.ml = N.ml) {i : Nat} (h : ∀ j, j ≤ i → ∃ a1 c1 a2 c2 a3 c3, T.lf j = cpy (N.lf j) a1 c1 a2 c2 a3 c3) : fl T i = fl N i := by
  unfold fl
  rw [sp_cpy hh hv hc hm i fun j hj => h j (by omega)]
  obtain ⟨a1, c1, a2, c2, a3, c3, e⟩ := h i (Nat.le_refl _)
  rw [e]
  rfl
/-- Layers of a network that may be: biases in the last one, norms elsewhere. -/
theorem lay_ends {N : Nt} (hz : chE N = 0) {i : Nat} (hi : i < N.ml) : (i + 1 = N.ml → 1 ≤ (N.lf i).mb) ∧ (¬ (N.lf i).kd = 3 → ¬ i + 1 = N.ml → 1 ≤ (N.lf i).mn) := by
  refine ⟨fun e => ?_, fun h3 hl => ?_⟩
  · obtain ⟨-, hb, -, -, hk, -⟩ := last_ok hz e.symm
    omega
  · obtain ⟨-, hf⟩ := fl_all hz
    have h0 := hf i hi
    have hs := sp_all hz i (Nat.le_of_lt hi)
    obtain ⟨-, -, K, F, hk, -, h1, -⟩ := lay_w hs h0 h3
    rcases (lay_ws h0 h3).2 with ⟨hb, hn⟩ | ⟨-, hn⟩
    · exfalso
      have hla : (sp N i).la = false := by rw [(la_sp N i).1]; simp; omega
      have h0' : faE (N.lf i) (sp N i) = 0 := h0
      unfold faE at h0'
      by_cases e1 : (N.lf i).kd = 1
      · rw [if_pos e1] at h0'
        have e8 : nmE (N.lf i) = 0 := frF_z h0' 8 (by decide)
        have e8 := (zero_else (by decide) e8).1
        omega
      · rw [if_neg e1] at h0'
        by_cases e2 : (N.lf i).kd = 2
        · rw [if_pos e2] at h0'
          have e5 : enE (N.lf i) (sp N i) = 0 := frF_z h0' 5 (by decide)
          unfold enE at e5
          rw [if_neg (by rw [hla]; decide)] at e5
          have e5 := (zero_else (by decide) e5).1
          omega
        · rw [if_neg e2, if_neg h3] at h0'; cases h0'
    · omega
/-- All but the layer i as they were, the layer i with the fault E: that is told. -/
theorem spoilt_ch {N T : Nt} (hz : chE N = 0) (hn : T.nm = N.nm) (hh : T.h = N.h) (hv : T.v = N.v) (hc : T.c = N.c) (hm : T.ml = N.ml) {i : Nat} (hi : i < N.ml) (hl : ∀ j, j < i → ∃ a1 c1 a2 c2 a3 c3, T.lf j = cpy (N.lf j) a1 c1 a2 c2 a3 c3) {E : Int} (hE : faE (T.lf i) (sp N i) = E ∧ ¬ E = 0) : chE T = E ∧ chA T = i := by
  obtain ⟨hw0, hf⟩ := fl_all hz
  have hw : whE T = 0 := by rw [← hw0]; unfold whE; rw [hn, hh, hv, hc, hm]
  have e : fl T i = E := by
    unfold fl
    rw [sp_cpy hh hv hc hm i fun j hj => hl j hj]
    exact hE.1
  have := ch_at hw (k := i) (by omega) (fun j hj => by rw [fl_cpy hh hv hc hm fun q hq => hl q (by omega)]; exact hf j (by omega)) (by rw [e]; exact hE.2)
  rw [e] at this
  exact this
/-- A fault in a later layer changes nothing. -/
theorem spoilt_ch2 {N T U : Nt} (hz : chE N = 0) (hn : T.nm = N.nm) (hh : T.h = N.h) (hv : T.v = N.v) (hc : T.c = N.c) (hm : T.ml = N.ml) {i : Nat} (hi : i < N.ml) (hl : ∀ j, j < i → ∃ a1 c1 a2 c2 a3 c3, T.lf j = cpy (N.lf j) a1 c1 a2 c2 a3 c3) {E : Int} (hE : faE (T.lf i) (sp N i) = E ∧ ¬ E = 0)
    (kn : U.nm = T.nm) (kh : U.h = T.h) (kv : U.v = T.v) (kc : U.c = T.c) (km : U.ml = T.ml) (kl : ∀ j, j < T.ml → j ≠ i + 1 → ∃ a1 c1 a2 c2 a3 c3, U.lf j = cpy (T.lf j) a1 c1 a2 c2 a3 c3) : chE U = E ∧ chA U = i := by
  refine spoilt_ch hz (kn.trans hn) (kh.trans hh) (kv.trans hv) (kc.trans hc) (km.trans hm) hi ?_ ?_
  · intro j hj
    obtain ⟨a1, c1, a2, c2, a3, c3, e⟩ := kl j (by omega) (by omega)
    obtain ⟨b1, d1, b2, d2, b3, d3, e'⟩ := hl j hj
    exact ⟨a1, c1, a2, c2, a3, c3, by rw [e, e']⟩
  · obtain ⟨a1, c1, a2, c2, a3, c3, e⟩ := kl i (by omega) (by omega)
    rw [e]
    exact hE
theorem wh_name (N : Nt) (h : N.nm = ⟨#[97, 32, 98]⟩) : chE N = 50 ∧ chA N = -1 := by
  have e : whE N = 50 := by unfold whE; rw [h, if_pos (by decide)]
  have := ch_whole (N := N) (by rw [e]; decide)
  rw [e] at this
  exact this
theorem wh_high (N : Nt) (h : N.nm = ⟨#[97]⟩) (hh : N.h = 4097) : chE N = 30 ∧ chA N = -1 := by
  have e : whE N = 30 := by
    unfold whE
    rw [h, if_neg (by decide), hh]
    have : chk 4097 N.v N.c = 30 := by unfold chk; rw [if_neg (by unfold Sides; omega)]
    rw [this, if_pos (by decide)]
  have := ch_whole (N := N) (by rw [e]; decide)
  rw [e] at this
  exact this
end Go.Proofs.Ytkodihmjjiadnaa.Nn
/- NETWORKS THAT ARE MADE: the walk's pieces: a layer's outputs, its kind of weights, its norms. -/
namespace Go.Proofs.Ytkodihmjjiadnaa.Nn
open Go.RowKit

noncomputable def cd14 : Code := (Try.f7.body.bind (fromP (isReg 14))).getD .skip
attribute [local go_sem ↓] Go.wp_at_zero Go.wp_at_succ
set_option maxHeartbeats 64000000 in
set_option maxRecDepth 100000 in
theorem md_kinds (u1 u2 u3 u4 u5 u6 u8 u10 u11 u12 u13 u14 u15 u16 u17 u18 u19 u20 u21 u22 u23 u24 u25 u26 u27 u28 u29 u30 u31 u32 u33 u34 u35 u36 u37 u38 u39 u40 u41 u42 u43 u44 u45 u46 u47 u48 u49 u50 u51 u52 u53 u54 u55 u56 u57 u58 u59 u60 u61 u62 u63 u64 u65 u66 u67 u68 u69 u70 u71 u72 u73 u74 u75 u76 u77 u78 u79 u80 u81 u82 u83 u84 u85 u86 u87 u88 u89 u90 u91 u92 u93 u94 u95 u96 u97 u98 u99 u100 u101 u102 u103 u104 u105 u106 u107 u108 u109 u110 u111 u112 u113 u114 u115 u116 u117 u118 u119 u120 u121 u122 u123 u124 u125 u126 u127 u128 u129 u130 u131 u132 u133 u134 u135 u136 u137 u138 u139 u140 u141 u142 u143 u144 u145 u146 u147 u148 u149 u150 u151 u152 u153 u154 u155 u156 u157 u158 u159 u160 u161 u162 u163 u164 u165 u166 u167 u168 u169 u170 u171 u172 u173 u174 u175 u176 u177 u178 u179 u180 u181 u182 u183 u184 u185 u186 u187 u188 u189 u190 u191 u192 u193 u194 u195 u196 u197 u198 u199 u200 u201 u202 u203 u204 u205 u206 u207 u208 u209 u210 u211 u212 u213 u214 : Value) (ao : Option Addr) (m cap : Nat) (f : Nat → Int) (hm : m ≤ 9223372036854775807) (w : World) (hf : RB w ao m f) (b g8 g9 : Nat) (p kd r s sy sx : Int) (wr wc : World) (Q : Exit → Act → World → Prop)
    (hpb : 0 ≤ p ∧ p ≤ 100) (wp5 : IntKind.i64.wrap (p + 5) = p + 5) (wp6 : IntKind.i64.wrap (p + 6) = p + 6) (HXW : Hid (Below w.heap.size w wr)) (bsz : b + 3 ≤ wr.heap.size) (HL9 : Hid (wc.rowIs g9 45 15 (lyf (L0 kd r s sy sx)))) (HW8 : Hid (wc.rowIs g8 40 8 (wnF r s sy sx))) (BR : Below wr.heap.size wr wc) (hg9' : wr.heap.size ≤ g9) (hg89 : g8 ≠ g9)
    (hQ : Hid (∀ (X : World) (s10 : Value) (v81 v82 v83 v84 v85 v86 v87 v88 v89 v90 v91 v92 v93 v94 v95 v96 v97 v98 v99 v100 : Value), (∃ (wt : Int) (K : Nat) (an : Option Addr) (cn : Nat) (ns : Nat → Nat → Int), s10 = .int .i64 (K : Int) ∧ Hid ((wt = 1 ∨ wt = 2) ∧ 1 ≤ K ∧ K ≤ 3 ∧ ∀ j, j < K → noE (ns j 0) (ns j 1) (ns j 2) (ns j 3) (ns j 4) (ns j 5) (ns j 6) (ns j 7) = 0) ∧ Hid (X.rowIs g9 45 15 (lyf (L1 kd wt K r s sy sx an cn ns))) ∧ Hid (X.ownsRow (b + 3) 71 8 (.slice an K cn) K (nmL ns K)) ∧ Hid (X.rowIs g8 40 8 (wnF r s sy sx)) ∧ Below wr.heap.size wr X) → Q .normal ⟨#[.slice ao m cap, u1, u2, u3, u4, u5, u6, .int .i64 p, u8, .pointer (some ⟨g9, 0, none⟩), s10, u11, u12, u13, u14, u15, u16, u17, u18, u19, u20, u21, u22, u23, u24, u25, u26, u27, u28, u29, u30, u31, u32, u33, u34, u35, u36, u37, u38, u39, u40, u41, u42, u43, u44, u45, u46, u47, u48, u49, u50, u51, u52, u53, u54, u55, u56, u57, u58, u59, u60, u61, u62, u63, u64, u65, u66, u67, u68, u69, u70, u71, u72, u73, u74, u75, u76, u77, u78, u79, u80, v81, v82, v83, v84, v85, v86, v87, v88, v89, v90, v91, v92, v93, v94, v95, v96, v97, v98, v99, v100, u101, u102, u103, u104, u105, u106, u107, u108, u109, u110, u111, u112, u113, u114, u115, u116, u117, u118, u119, u120, u121, u122, u123, u124, u125, u126, u127, u128, u129, u130, u131, u132, u133, u134, u135, u136, u137, u138, u139, u140, u141, u142, u143, u144, u145, u146, u147, u148, u149, u150, u151, u152, u153, u154, u155, u156, u157, u158, u159, u160, u161, u162, u163, u164, u165, u166, u167, u168, u169, u170, u171, u172, u173, u174, u175, u176, u177, u178, u179, u180, u181, u182, u183, u184, u185, u186, u187, u188, u189, u190, u191, u192, u193, u194, u195, u196, u197, u198, u199, u200, u201, u202, u203, u204, u205, u206, u207, u208, u209, u210, u211, u212, u213, u214], []⟩ X)) :
    Code.wp Try.prog cd14 Q ⟨#[.slice ao m cap, u1, u2, u3, u4, u5, u6, .int .i64 p, u8, .pointer (some ⟨g9, 0, none⟩), u10, u11, u12, u13, u14, u15, u16, u17, u18, u19, u20, u21, u22, u23, u24, u25, u26, u27, u28, u29, u30, u31, u32, u33, u34, u35, u36, u37, u38, u39, u40, u41, u42, u43, u44, u45, u46, u47, u48, u49, u50, u51, u52, u53, u54, u55, u56, u57, u58, u59, u60, u61, u62, u63, u64, u65, u66, u67, u68, u69, u70, u71, u72, u73, u74, u75, u76, u77, u78, u79, u80, u81, u82, u83, u84, u85, u86, u87, u88, u89, u90, u91, u92, u93, u94, u95, u96, u97, u98, u99, u100, u101, u102, u103, u104, u105, u106, u107, u108, u109, u110, u111, u112, u113, u114, u115, u116, u117, u118, u119, u120, u121, u122, u123, u124, u125, u126, u127, u128, u129, u130, u131, u132, u133, u134, u135, u136, u137, u138, u139, u140, u141, u142, u143, u144, u145, u146, u147, u148, u149, u150, u151, u152, u153, u154, u155, u156, u157, u158, u159, u160, u161, u162, u163, u164, u165, u166, u167, u168, u169, u170, u171, u172, u173, u174, u175, u176, u177, u178, u179, u180, u181, u182, u183, u184, u185, u186, u187, u188, u189, u190, u191, u192, u193, u194, u195, u196, u197, u198, u199, u200, u201, u202, u203, u204, u205, u206, u207, u208, u209, u210, u211, u212, u213, u214], []⟩ wc := by
  conv => arg 2; whnf
  have CP := hid1 (fun i n hi hn W (hW : Below w.heap.size w W) => pick5_any ao m cap f hm i n hi hn W (hf.keep hW))
  have CN := hid1 (fun N at' hN ha W (hW : Below w.heap.size w W) => norms5_any ao m cap f hm N at' hN ha W (hf.keep hW))
  have PB := hid1 (fun i {n : Int} (hn : 1 ≤ n) => pk5_in f m i hn)
  clear hf
  have C5 := hid1 (fun W hW => CP.out (p + 5) 3 (by omega) (by decide) W hW)
  have C6 := hid1 (fun W hW => CP.out (p + 6) 2 (by omega) (by decide) W hW)
  have h5 := PB.out (p + 5) (n := 3) (by decide)
  have h6 := PB.out (p + 6) (n := 2) (by decide)
  generalize pk5 f m (p + 5) 3 = y5 at *
  generalize pk5 f m (p + 6) 2 = y6 at *
  obtain ⟨K, hK⟩ := Int.eq_ofNat_of_zero_le (show 0 ≤ 1 + y5 by omega)
  have a5 : IntKind.i64.wrap (1 + y5) = (K : Int) := by rw [IntKind.wrap_i64]; omega
  obtain ⟨wt, hwt⟩ : ∃ wt, 1 + y6 = wt := ⟨_, rfl⟩
  have a6 : IntKind.i64.wrap (1 + y6) = wt := by rw [IntKind.wrap_i64]; omega
  have bK : 1 ≤ K ∧ K ≤ 3 := by omega
  have bwt : wt = 1 ∨ wt = 2 := by omega
  clear hK hwt h5 h6
  have fz2 := HL9.out.frozen 2
  have l2 : wc.cell? ⟨g9, 2, none⟩ = some (.int .i64 0) := HL9.out.cell (i := 2) (by decide)
  go_wp2_with fail
  refine (C5.out _ (bl_step HXW.out BR)).mono ?_
  rintro e z5 ⟨rfl, rfl⟩
  go_upto_region 16 with fail
  refine gen_world (fun X => X.rowIs g9 45 15 (lyf (LK kd 0 K r s sy sx)) ∧ X.rowIs g8 40 8 (wnF r s sy sx) ∧ Below wr.heap.size wr X) ⟨lyf_set HL9.out _ 2 _ ⟨rfl, rfl, rfl, rfl, rfl, rfl, rfl, rfl, rfl, rfl, rfl, rfl, rfl, rfl, rfl⟩, HW8.out.setOther hg89 _, bl_set BR hg9' _⟩ ?_
  rintro X ⟨RL, RW, BX⟩
  clear HL9 HW8 BR l2 fz2
  have HRW := hid1 RW
  have HRL := hid1 RL
  have fz1 := RL.frozen 1
  have l1 : X.cell? ⟨g9, 1, none⟩ = some (.int .i64 0) := RL.cell (i := 1) (by decide)
  clear RW RL
  go_wp2_with fail
  refine (C6.out _ (bl_step HXW.out BX)).mono ?_
  rintro e z6 ⟨rfl, rfl⟩
  go_upto_region 17 with fail
  refine gen_world (fun X => X.rowIs g9 45 15 (lyf (LK kd wt K r s sy sx)) ∧ X.rowIs g8 40 8 (wnF r s sy sx) ∧ Below wr.heap.size wr X) ⟨lyf_set HRL.out _ 1 _ ⟨rfl, rfl, rfl, rfl, rfl, rfl, rfl, rfl, rfl, rfl, rfl, rfl, rfl, rfl, rfl⟩, HRW.out.setOther hg89 _, bl_set BX hg9' _⟩ ?_
  clear HRL HRW BX l1 fz1
  rintro X ⟨RL, RW, BX⟩
  have HRW := hid1 RW
  have HRL := hid1 RL
  have l2 : X.cell? ⟨g9, 2, none⟩ = some (.int .i64 K) := RL.cell (i := 2) (by decide)
  have hXb : b + 3 ≤ X.heap.size := Nat.le_trans bsz BX.size
  clear RW RL
  go_wp2_with fail
  refine (CN.out K p (by omega) (by omega) _ (bl_step HXW.out BX)).mono ?_
  rintro e z7 ⟨vn, rfl, own, hb⟩
  obtain ⟨an, cn, rfl⟩ := own_isP own
  have HON := hid1 (own.mono (Nat.le_trans bsz BX.size))
  replace HRL := hid1 (World.rowIs.of_block HRL.out (hb.block _ HRL.out.lt))
  replace HRW := hid1 (World.rowIs.of_block HRW.out (hb.block _ HRW.out.lt))
  replace BX := bl_step BX hb
  clear own hb l2
  have fz13 := HRL.out.frozen 13
  have l13 : z7.cell? ⟨g9, 13, none⟩ = some (.slice none 0 0) := HRL.out.cell (i := 13) (by decide)
  go_wp2_with fail
  refine hQ.out _ _ _ _ _ _ _ _ _ _ _ _ _ _ _ _ _ _ _ _ _ _ ?_
  exact ⟨wt, K, an, cn, nsV f m p, rfl, hid1 ⟨bwt, bK.1, bK.2, fun j hj => nsV_ok f m p j (by omega)⟩, hid1 (lyf_set HRL.out _ 13 _ ⟨rfl, rfl, rfl, rfl, rfl, rfl, rfl, rfl, rfl, rfl, rfl, rfl, rfl, rfl, rfl⟩), hid1 (own_setHi HON.out HRL.out.lt HRL.out (by decide)), hid1 (HRW.out.setOther hg89 _), bl_set BX hg9' _⟩
end Go.Proofs.Ytkodihmjjiadnaa.Nn
/- NETWORKS THAT ARE MADE: the walk's pieces: the window's borders and the weights of a convolution. -/
namespace Go.Proofs.Ytkodihmjjiadnaa.Nn
open Go.RowKit

noncomputable def cdB2 : Code := (Try.f7.body.bind (blockOf 2)).getD .skip
attribute [local go_sem ↓] Go.wp_at_zero Go.wp_at_succ
set_option maxHeartbeats 64000000 in
set_option maxRecDepth 100000 in
theorem md_sw1 (u1 u2 u3 u5 u6 u10 u11 u12 u13 u14 u15 u16 u17 u18 u19 u20 u21 u22 u23 u24 u25 u26 u27 u28 u29 u30 u31 u32 u33 u34 u35 u36 u37 u38 u39 u40 u41 u42 u43 u44 u45 u46 u47 u48 u49 u50 u51 u52 u53 u54 u55 u56 u57 u58 u59 u60 u61 u62 u63 u64 u65 u66 u67 u68 u69 u70 u71 u72 u73 u74 u75 u76 u77 u78 u79 u80 u81 u82 u83 u84 u85 u86 u87 u88 u89 u90 u91 u92 u93 u94 u95 u96 u97 u98 u99 u100 u101 u103 u104 u105 u106 u107 u108 u109 u110 u111 u112 u113 u114 u115 u116 u117 u118 u119 u120 u121 u122 u123 u124 u125 u126 u127 u128 u129 u130 u131 u132 u133 u134 u135 u136 u137 u138 u139 u140 u141 u142 u143 u144 u145 u146 u147 u148 u149 u150 u151 u152 u153 u154 u155 u156 u157 u158 u159 u160 u161 u162 u163 u164 u165 u166 u167 u168 u169 u170 u171 u172 u173 u174 u175 u176 u177 u178 u179 u180 u181 u182 u183 u184 u185 u186 u187 u188 u189 u190 u191 u192 u193 u194 u195 u196 u197 u198 u199 u200 u201 u202 u203 u204 u205 u206 u207 u208 u209 u210 u211 u212 u213 u214 : Value) (ao : Option Addr) (m cap : Nat) (f : Nat → Int) (hm : m ≤ 9223372036854775807) (w : World) (hf : RB w ao m f) (b g8 g9 K cn i uc : Nat) (ua an : Option Addr) (ns : Nat → Nat → Int) (lf : Nat → Ly) (p kd wt r s sy sx h v c c' ah H V C : Int) (fs la : Bool) (wr wc : World) (Q : Exit → Act → World → Prop)
    (hpb : 0 ≤ p ∧ p ≤ 100) (wp6 : IntKind.i64.wrap (p + 6) = p + 6) (wp7 : IntKind.i64.wrap (p + 7) = p + 7) (HXW : Hid (Below w.heap.size w wr)) (bsz : b + 3 ≤ wr.heap.size) (HMS : Hid (MS wr b H V C h v c lf i ua uc)) (HSM : Hid (SmS ⟨h, v, c, ah, fs, la⟩)) (HLA : Hid (la = false ∧ fs = decide (i = 0))) (sm1 : 1 ≤ h ∧ h ≤ 15) (sm2 : 1 ≤ v ∧ v ≤ 15) (sm3 : 1 ≤ c ∧ c ≤ 4) (br : 1 ≤ r ∧ r ≤ h) (bs : 1 ≤ s ∧ s ≤ v) (bsy : 1 ≤ sy ∧ sy ≤ 3) (bsx : 1 ≤ sx ∧ sx ≤ 3) (HL9 : Hid (wc.rowIs g9 45 15 (lyf (L1 kd wt K r s sy sx an cn ns)))) (HON : Hid (wc.ownsRow (b + 3) 71 8 (.slice an K cn) K (nmL ns K))) (HW8 : Hid (wc.rowIs g8 40 8 (wnF r s sy sx))) (BR : Below wr.heap.size wr wc) (hg9' : wr.heap.size ≤ g9) (hg89 : g8 ≠ g9) (HKD : Hid ((wt = 1 ∨ wt = 2) ∧ 1 ≤ K ∧ K ≤ 3 ∧ c' = (K : Int) ∧ ∀ j, j < K → noE (ns j 0) (ns j 1) (ns j 2) (ns j 3) (ns j 4) (ns j 5) (ns j 6) (ns j 7) = 0)) (h1 : kd = 1)
    (hQ : Hid (∀ (X : World) (v103 v104 v105 v106 v107 v108 v109 v110 v111 v112 v113 v114 v115 v116 v117 v118 v119 v120 v121 v122 v123 v124 v125 v126 v127 v128 v129 v130 v131 v132 v133 v134 v135 v136 v137 v138 v139 v140 v141 v142 v143 v144 v145 v146 v147 v148 v149 v150 v151 v152 v153 v154 v155 v156 v157 v158 v159 v160 v161 v162 v163 v164 v165 v166 : Value), (∃ L, Ld L ⟨h, v, c, ah, fs, la⟩ c' ∧ X.rowIs g9 45 15 (lyf L) ∧ Lo X (b + 3) L ∧ Below wr.heap.size wr X) → Q .normal ⟨#[.slice ao m cap, u1, u2, u3, .pointer (some ⟨b + 1 + 1, 0, none⟩), u5, u6, .int .i64 p, .pointer (some ⟨g8, 0, none⟩), .pointer (some ⟨g9, 0, none⟩), u10, u11, u12, u13, u14, u15, u16, u17, u18, u19, u20, u21, u22, u23, u24, u25, u26, u27, u28, u29, u30, u31, u32, u33, u34, u35, u36, u37, u38, u39, u40, u41, u42, u43, u44, u45, u46, u47, u48, u49, u50, u51, u52, u53, u54, u55, u56, u57, u58, u59, u60, u61, u62, u63, u64, u65, u66, u67, u68, u69, u70, u71, u72, u73, u74, u75, u76, u77, u78, u79, u80, u81, u82, u83, u84, u85, u86, u87, u88, u89, u90, u91, u92, u93, u94, u95, u96, u97, u98, u99, u100, u101, .int .i64 kd, v103, v104, v105, v106, v107, v108, v109, v110, v111, v112, v113, v114, v115, v116, v117, v118, v119, v120, v121, v122, v123, v124, v125, v126, v127, v128, v129, v130, v131, v132, v133, v134, v135, v136, v137, v138, v139, v140, v141, v142, v143, v144, v145, v146, v147, v148, v149, v150, v151, v152, v153, v154, v155, v156, v157, v158, v159, v160, v161, v162, v163, v164, v165, v166, u167, u168, u169, u170, u171, u172, u173, u174, u175, u176, u177, u178, u179, u180, u181, u182, u183, u184, u185, u186, u187, u188, u189, u190, u191, u192, u193, u194, u195, u196, u197, u198, u199, u200, u201, u202, u203, u204, u205, u206, u207, u208, u209, u210, u211, u212, u213, u214], []⟩ X)) :
    Code.wp Try.prog cdB2 Q ⟨#[.slice ao m cap, u1, u2, u3, .pointer (some ⟨b + 1 + 1, 0, none⟩), u5, u6, .int .i64 p, .pointer (some ⟨g8, 0, none⟩), .pointer (some ⟨g9, 0, none⟩), u10, u11, u12, u13, u14, u15, u16, u17, u18, u19, u20, u21, u22, u23, u24, u25, u26, u27, u28, u29, u30, u31, u32, u33, u34, u35, u36, u37, u38, u39, u40, u41, u42, u43, u44, u45, u46, u47, u48, u49, u50, u51, u52, u53, u54, u55, u56, u57, u58, u59, u60, u61, u62, u63, u64, u65, u66, u67, u68, u69, u70, u71, u72, u73, u74, u75, u76, u77, u78, u79, u80, u81, u82, u83, u84, u85, u86, u87, u88, u89, u90, u91, u92, u93, u94, u95, u96, u97, u98, u99, u100, u101, .int .i64 kd, u103, u104, u105, u106, u107, u108, u109, u110, u111, u112, u113, u114, u115, u116, u117, u118, u119, u120, u121, u122, u123, u124, u125, u126, u127, u128, u129, u130, u131, u132, u133, u134, u135, u136, u137, u138, u139, u140, u141, u142, u143, u144, u145, u146, u147, u148, u149, u150, u151, u152, u153, u154, u155, u156, u157, u158, u159, u160, u161, u162, u163, u164, u165, u166, u167, u168, u169, u170, u171, u172, u173, u174, u175, u176, u177, u178, u179, u180, u181, u182, u183, u184, u185, u186, u187, u188, u189, u190, u191, u192, u193, u194, u195, u196, u197, u198, u199, u200, u201, u202, u203, u204, u205, u206, u207, u208, u209, u210, u211, u212, u213, u214], []⟩ wc := by
  conv => arg 2; whnf
  have CP := hid1 (fun i n hi hn W (hW : Below w.heap.size w W) => pick5_any ao m cap f hm i n hi hn W (hf.keep hW))
  have CW := hid1 (fun N kd hN W (hW : Below w.heap.size w W) => weights5_any ao m cap f hm N kd hN W (hf.keep hW))
  have PB := hid1 (fun i {n : Int} (hn : 1 ≤ n) => pk5_in f m i hn)
  clear hf
  obtain ⟨bwt, k1, k2, ec', hns⟩ := HKD.out
  have EC := hid1 ec'
  clear ec'
  have HNS := hid1 hns
  clear hns HKD
  have e1 : (kd == 1) = true := by rw [h1]; rfl
  have H1 := hid1 h1
  clear h1
  have C5 := hid1 (fun W hW => CP.out (p + 5) 3 (by omega) (by decide) W hW)
  have C6 := hid1 (fun W hW => CP.out (p + 6) 2 (by omega) (by decide) W hW)
  have C7 := hid1 (fun W hW => CP.out (p + 7) 3 (by omega) (by decide) W hW)
  have h5 := PB.out (p + 5) (n := 3) (by decide)
  have h6 := PB.out (p + 6) (n := 2) (by decide)
  have h7 := PB.out (p + 7) (n := 3) (by decide)
  generalize pk5 f m (p + 5) 3 = y5 at *
  generalize pk5 f m (p + 6) 2 = y6 at *
  generalize pk5 f m (p + 7) 3 = y7 at *
  have wp5 : IntKind.i64.wrap (p + 5) = p + 5 := by rw [IntKind.wrap_i64]; omega
  have fz7 := HL9.out.frozen 7
  have l7 : wc.cell? ⟨g9, 7, none⟩ = some (.int .i64 0) := HL9.out.cell (i := 7) (by decide)
  go_wp2_with fail
  refine (C7.out _ (bl_step HXW.out BR)).mono ?_
  rintro e z7 ⟨rfl, rfl⟩
  go_upto_region 21 with fail
  refine gen_world (fun X => X.rowIs g9 45 15 (lyf (LV kd wt K r s sy sx y7 0 0 none 0 0 an cn (fun _ => 0) ns)) ∧ X.rowIs g8 40 8 (wnF r s sy sx) ∧ X.ownsRow (b + 3) 71 8 (.slice an K cn) K (nmL ns K) ∧ Below wr.heap.size wr X) ⟨lyf_set HL9.out _ 7 _ ⟨rfl, rfl, rfl, rfl, rfl, rfl, rfl, rfl, rfl, rfl, rfl, rfl, rfl, rfl, rfl⟩, HW8.out.setOther hg89 _, own_setHi HON.out HL9.out.lt HL9.out (by decide), bl_set BR hg9' _⟩ ?_
  clear HL9 HW8 HON BR fz7 l7
  rintro X ⟨RL, RW, RN, BX⟩
  have HRL := hid1 RL
  have HRW := hid1 RW
  have HRN := hid1 RN
  have fz10 := RL.frozen 10
  have l10 : X.cell? ⟨g9, 10, none⟩ = some (.int .i64 0) := RL.cell (i := 10) (by decide)
  clear RL RW RN
  go_wp2_with fail
  refine (C6.out _ (bl_step HXW.out BX)).mono ?_
  rintro e z6 ⟨rfl, rfl⟩
  go_upto_region 22 with fail
  refine gen_world (fun X => X.rowIs g9 45 15 (lyf (LV kd wt K r s sy sx y7 y6 0 none 0 0 an cn (fun _ => 0) ns)) ∧ X.rowIs g8 40 8 (wnF r s sy sx) ∧ X.ownsRow (b + 3) 71 8 (.slice an K cn) K (nmL ns K) ∧ Below wr.heap.size wr X) ⟨lyf_set HRL.out _ 10 _ ⟨rfl, rfl, rfl, rfl, rfl, rfl, rfl, rfl, rfl, rfl, rfl, rfl, rfl, rfl, rfl⟩, HRW.out.setOther hg89 _, own_setHi HRN.out HRL.out.lt HRL.out (by decide), bl_set BX hg9' _⟩ ?_
  clear HRL HRW HRN BX fz10 l10
  rintro X ⟨RL, RW, RN, BX⟩
  have HRL := hid1 RL
  have HRW := hid1 RW
  have HRN := hid1 RN
  have fz11 := RL.frozen 11
  have l7 : X.cell? ⟨g9, 7, none⟩ = some (.int .i64 y7) := RL.cell (i := 7) (by decide)
  have l10 : X.cell? ⟨g9, 10, none⟩ = some (.int .i64 y6) := RL.cell (i := 10) (by decide)
  have l11 : X.cell? ⟨g9, 11, none⟩ = some (.int .i64 0) := RL.cell (i := 11) (by decide)
  clear RL RW RN
  have a8 : IntKind.i64.wrap (y7 + y6) = y7 + y6 := by rw [IntKind.wrap_i64]; omega
  have a9 : IntKind.i64.wrap (y5 - 1) = y5 - 1 := by rw [IntKind.wrap_i64]; omega
  obtain ⟨tb, htb⟩ : ∃ tb, decide (0 < y7 + y6) = tb := ⟨_, rfl⟩
  have HTB := hid1 htb
  go_upto_if 124 with fail
  go_cut [] from 125 to 130 (fun wx => ∃ bd, Hid (bd = 0 ∨ (1 ≤ y7 + y6 ∧ -1 ≤ bd ∧ bd ≤ 1)) ∧ Hid (wx.rowIs g9 45 15 (lyf (LV kd wt K r s sy sx y7 y6 bd none 0 0 an cn (fun _ => 0) ns))) ∧ Hid (wx.rowIs g8 40 8 (wnF r s sy sx)) ∧ Hid (wx.ownsRow (b + 3) 71 8 (.slice an K cn) K (nmL ns K)) ∧ Below wr.heap.size wr wx)
  case first =>
    cases tb
    · go_wp2_with fail
      go_meet
      exact ⟨0, hid1 (.inl rfl), HRL, HRW, HRN, BX⟩
    · have hpos : 0 < y7 + y6 := by have := HTB.out; simpa using this
      have HPO := hid1 hpos
      clear hpos
      go_wp2_with fail
      refine (C5.out _ (bl_step HXW.out BX)).mono ?_
      rintro e z5 ⟨rfl, rfl⟩
      go_wp2_with fail
      go_meet
      exact ⟨y5 - 1, hid1 (.inr ⟨by have := HPO.out; omega, by omega, by omega⟩), hid1 (lyf_set HRL.out _ 11 _ ⟨rfl, rfl, rfl, rfl, rfl, rfl, rfl, rfl, rfl, rfl, rfl, rfl, rfl, rfl, rfl⟩), hid1 (HRW.out.setOther hg89 _), hid1 (own_setHi HRN.out HRL.out.lt HRL.out (by decide)), bl_set BX hg9' _⟩
  case rest =>
    clear HRL HRW HRN BX HTB htb fz11 l7 l10 l11 a8 a9 C5 C6 C7
    obtain ⟨bd, HBD, HRL, HRW, HRN, BX⟩ := hcut
    have l1 : wc.cell? ⟨g9, 1, none⟩ = some (.int .i64 wt) := HRL.out.cell (i := 1) (by decide)
    have l2 : wc.cell? ⟨g9, 2, none⟩ = some (.int .i64 K) := HRL.out.cell (i := 2) (by decide)
    have q0 : wc.cell? ⟨g8, 0, none⟩ = some (.int .i64 r) := HRW.out.cell (i := 0) (by decide)
    have q1 : wc.cell? ⟨g8, 1, none⟩ = some (.int .i64 s) := HRW.out.cell (i := 1) (by decide)
    have s2 : wc.cell? ⟨b + 1 + 1, 2, none⟩ = some (.int .i64 c) := (HMS.out.keep BX).2.2.1.cell (i := 2) (by decide)
    have m1 := mul3_le (a := K) (b := r) (c := 1) (A := 3) (B := 15) (C := 1) (by omega) (by omega) (by omega)
    have m2 := mul3_le (a := K) (b := r) (c := s) (A := 3) (B := 15) (C := 15) (by omega) (by omega) (by omega)
    have m3 := mul3_le (a := (K : Int) * r) (b := s) (c := c) (A := 45) (B := 15) (C := 4) (by omega) (by omega) (by omega)
    obtain ⟨N, hN⟩ := Int.eq_ofNat_of_zero_le m3.1
    have HNE : Hid ((N : Int) = K * (r * s * c)) := hid1 (by rw [← hN, Int.mul_assoc, Int.mul_assoc, Int.mul_assoc])
    have p1 : IntKind.i64.wrap ((K : Int) * r) = K * r := by rw [IntKind.wrap_i64]; omega
    have p2 : IntKind.i64.wrap ((K : Int) * r * s) = K * r * s := by rw [IntKind.wrap_i64]; omega
    have p3 : IntKind.i64.wrap ((K : Int) * r * s * c) = N := by rw [IntKind.wrap_i64, hN]; omega
    have hNb : N ≤ 10000 := by omega
    clear m1 m2 m3 hN
    go_wp2_with fail
    refine (CW.out N wt (by omega) _ (bl_step HXW.out BX)).mono ?_
    rintro e z8 ⟨vw, rfl, own, hb⟩
    obtain ⟨aw, cw, rfl⟩ := own_isP own
    have HOW := hid1 (own.mono (Nat.le_trans bsz BX.size))
    replace HRL := hid1 (World.rowIs.of_block HRL.out (hb.block _ HRL.out.lt))
    replace HRN := hid1 (own_bl HRN.out hb)
    replace BX := bl_step BX hb
    clear own hb l1 l2 q0 q1 s2
    have fz12 := HRL.out.frozen 12
    have l12 : z8.cell? ⟨g9, 12, none⟩ = some (.slice none 0 0) := HRL.out.cell (i := 12) (by decide)
    go_wp2_with fail
    refine hQ.out _ _ _ _ _ _ _ _ _ _ _ _ _ _ _ _ _ _ _ _ _ _ _ _ _ _ _ _ _ _ _ _ _ _ _ _ _ _ _ _ _ _ _ _ _ _ _ _ _ _ _ _ _ _ _ _ _ _ _ _ _ _ _ _ _ ?_
    have h1 := H1.out
    refine ⟨LV kd wt K r s sy sx y7 y6 bd aw N cw an cn (wgV f m wt) ns, ?_, lyf_set HRL.out _ 12 _ ⟨rfl, rfl, rfl, rfl, rfl, rfl, rfl, rfl, rfl, rfl, rfl, rfl, rfl, rfl, rfl⟩, ⟨own_setHi HOW.out HRL.out.lt HRL.out (by decide), own_setHi HRN.out HRL.out.lt HRL.out (by decide), World.ownsRow_nil _ _ _ _⟩, bl_set BX hg9' _⟩
    refine ⟨made_conv HSM.out HLA.out.1 h1 bwt (by show 1 ≤ (K : Int) ∧ (K : Int) ≤ 3; omega) br bs bsy bsx (by show 0 ≤ y7 ∧ y7 ≤ 2; omega) rfl rfl (by show 0 ≤ y6 ∧ y6 ≤ 1; omega) HBD.out ⟨HNE.out, fun j _ => wgV_ok f m wt j⟩ ⟨rfl, rfl, fun j hj => HNS.out j hj⟩, own_cap HOW.out, (by show 0 ≤ (K : Int) ∧ (K : Int) ≤ 3; omega), .inr ⟨br, bs, bsy, bsx, by show 0 ≤ y7 ∧ y7 ≤ 2; omega, rfl, rfl, by show 0 ≤ y6 ∧ y6 ≤ 1; omega⟩, ?_, (by show N ≤ 1000000; omega), (by show K ≤ 1000000; omega), (by show 0 ≤ 1000000; omega)⟩
    rw [EC.out, if_neg (by show ¬ kd = 3; omega)]
end Go.Proofs.Ytkodihmjjiadnaa.Nn
/- NETWORKS THAT ARE MADE: the walk's pieces: the weights of a dense layer; a pool's. -/
namespace Go.Proofs.Ytkodihmjjiadnaa.Nn
open Go.RowKit

attribute [local go_sem ↓] Go.wp_at_zero Go.wp_at_succ
set_option maxHeartbeats 64000000 in
set_option maxRecDepth 100000 in
theorem md_sw2 (u1 u2 u3 u5 u6 u10 u11 u12 u13 u14 u15 u16 u17 u18 u19 u20 u21 u22 u23 u24 u25 u26 u27 u28 u29 u30 u31 u32 u33 u34 u35 u36 u37 u38 u39 u40 u41 u42 u43 u44 u45 u46 u47 u48 u49 u50 u51 u52 u53 u54 u55 u56 u57 u58 u59 u60 u61 u62 u63 u64 u65 u66 u67 u68 u69 u70 u71 u72 u73 u74 u75 u76 u77 u78 u79 u80 u81 u82 u83 u84 u85 u86 u87 u88 u89 u90 u91 u92 u93 u94 u95 u96 u97 u98 u99 u100 u101 u103 u104 u105 u106 u107 u108 u109 u110 u111 u112 u113 u114 u115 u116 u117 u118 u119 u120 u121 u122 u123 u124 u125 u126 u127 u128 u129 u130 u131 u132 u133 u134 u135 u136 u137 u138 u139 u140 u141 u142 u143 u144 u145 u146 u147 u148 u149 u150 u151 u152 u153 u154 u155 u156 u157 u158 u159 u160 u161 u162 u163 u164 u165 u166 u167 u168 u169 u170 u171 u172 u173 u174 u175 u176 u177 u178 u179 u180 u181 u182 u183 u184 u185 u186 u187 u188 u189 u190 u191 u192 u193 u194 u195 u196 u197 u198 u199 u200 u201 u202 u203 u204 u205 u206 u207 u208 u209 u210 u211 u212 u213 u214 : Value) (ao : Option Addr) (m cap : Nat) (f : Nat → Int) (hm : m ≤ 9223372036854775807) (w : World) (hf : RB w ao m f) (b g8 g9 K cn i uc : Nat) (ua an : Option Addr) (ns : Nat → Nat → Int) (lf : Nat → Ly) (p kd wt r s sy sx h v c c' ah H V C : Int) (fs la : Bool) (wr wc : World) (Q : Exit → Act → World → Prop)
    (_hpb : 0 ≤ p ∧ p ≤ 100) (_wp6 : IntKind.i64.wrap (p + 6) = p + 6) (_wp7 : IntKind.i64.wrap (p + 7) = p + 7) (HXW : Hid (Below w.heap.size w wr)) (bsz : b + 3 ≤ wr.heap.size) (HMS : Hid (MS wr b H V C h v c lf i ua uc)) (HSM : Hid (SmS ⟨h, v, c, ah, fs, la⟩)) (HLA : Hid (la = false ∧ fs = decide (i = 0))) (sm1 : 1 ≤ h ∧ h ≤ 15) (sm2 : 1 ≤ v ∧ v ≤ 15) (sm3 : 1 ≤ c ∧ c ≤ 4) (_br : 1 ≤ r ∧ r ≤ h) (_bs : 1 ≤ s ∧ s ≤ v) (_bsy : 1 ≤ sy ∧ sy ≤ 3) (_bsx : 1 ≤ sx ∧ sx ≤ 3) (HL9 : Hid (wc.rowIs g9 45 15 (lyf (L1 kd wt K r s sy sx an cn ns)))) (HON : Hid (wc.ownsRow (b + 3) 71 8 (.slice an K cn) K (nmL ns K))) (_HW8 : Hid (wc.rowIs g8 40 8 (wnF r s sy sx))) (BR : Below wr.heap.size wr wc) (hg9' : wr.heap.size ≤ g9) (_hg89 : g8 ≠ g9) (HKD : Hid ((wt = 1 ∨ wt = 2) ∧ 1 ≤ K ∧ K ≤ 3 ∧ c' = (K : Int) ∧ ∀ j, j < K → noE (ns j 0) (ns j 1) (ns j 2) (ns j 3) (ns j 4) (ns j 5) (ns j 6) (ns j 7) = 0)) (h2 : kd = 2)
    (hQ : Hid (∀ (X : World) (v103 v104 v105 v106 v107 v108 v109 v110 v111 v112 v113 v114 v115 v116 v117 v118 v119 v120 v121 v122 v123 v124 v125 v126 v127 v128 v129 v130 v131 v132 v133 v134 v135 v136 v137 v138 v139 v140 v141 v142 v143 v144 v145 v146 v147 v148 v149 v150 v151 v152 v153 v154 v155 v156 v157 v158 v159 v160 v161 v162 v163 v164 v165 v166 : Value), (∃ L, Ld L ⟨h, v, c, ah, fs, la⟩ c' ∧ X.rowIs g9 45 15 (lyf L) ∧ Lo X (b + 3) L ∧ Below wr.heap.size wr X) → Q .normal ⟨#[.slice ao m cap, u1, u2, u3, .pointer (some ⟨b + 1 + 1, 0, none⟩), u5, u6, .int .i64 p, .pointer (some ⟨g8, 0, none⟩), .pointer (some ⟨g9, 0, none⟩), u10, u11, u12, u13, u14, u15, u16, u17, u18, u19, u20, u21, u22, u23, u24, u25, u26, u27, u28, u29, u30, u31, u32, u33, u34, u35, u36, u37, u38, u39, u40, u41, u42, u43, u44, u45, u46, u47, u48, u49, u50, u51, u52, u53, u54, u55, u56, u57, u58, u59, u60, u61, u62, u63, u64, u65, u66, u67, u68, u69, u70, u71, u72, u73, u74, u75, u76, u77, u78, u79, u80, u81, u82, u83, u84, u85, u86, u87, u88, u89, u90, u91, u92, u93, u94, u95, u96, u97, u98, u99, u100, u101, .int .i64 kd, v103, v104, v105, v106, v107, v108, v109, v110, v111, v112, v113, v114, v115, v116, v117, v118, v119, v120, v121, v122, v123, v124, v125, v126, v127, v128, v129, v130, v131, v132, v133, v134, v135, v136, v137, v138, v139, v140, v141, v142, v143, v144, v145, v146, v147, v148, v149, v150, v151, v152, v153, v154, v155, v156, v157, v158, v159, v160, v161, v162, v163, v164, v165, v166, u167, u168, u169, u170, u171, u172, u173, u174, u175, u176, u177, u178, u179, u180, u181, u182, u183, u184, u185, u186, u187, u188, u189, u190, u191, u192, u193, u194, u195, u196, u197, u198, u199, u200, u201, u202, u203, u204, u205, u206, u207, u208, u209, u210, u211, u212, u213, u214], []⟩ X)) :
    Code.wp Try.prog cdB2 Q ⟨#[.slice ao m cap, u1, u2, u3, .pointer (some ⟨b + 1 + 1, 0, none⟩), u5, u6, .int .i64 p, .pointer (some ⟨g8, 0, none⟩), .pointer (some ⟨g9, 0, none⟩), u10, u11, u12, u13, u14, u15, u16, u17, u18, u19, u20, u21, u22, u23, u24, u25, u26, u27, u28, u29, u30, u31, u32, u33, u34, u35, u36, u37, u38, u39, u40, u41, u42, u43, u44, u45, u46, u47, u48, u49, u50, u51, u52, u53, u54, u55, u56, u57, u58, u59, u60, u61, u62, u63, u64, u65, u66, u67, u68, u69, u70, u71, u72, u73, u74, u75, u76, u77, u78, u79, u80, u81, u82, u83, u84, u85, u86, u87, u88, u89, u90, u91, u92, u93, u94, u95, u96, u97, u98, u99, u100, u101, .int .i64 kd, u103, u104, u105, u106, u107, u108, u109, u110, u111, u112, u113, u114, u115, u116, u117, u118, u119, u120, u121, u122, u123, u124, u125, u126, u127, u128, u129, u130, u131, u132, u133, u134, u135, u136, u137, u138, u139, u140, u141, u142, u143, u144, u145, u146, u147, u148, u149, u150, u151, u152, u153, u154, u155, u156, u157, u158, u159, u160, u161, u162, u163, u164, u165, u166, u167, u168, u169, u170, u171, u172, u173, u174, u175, u176, u177, u178, u179, u180, u181, u182, u183, u184, u185, u186, u187, u188, u189, u190, u191, u192, u193, u194, u195, u196, u197, u198, u199, u200, u201, u202, u203, u204, u205, u206, u207, u208, u209, u210, u211, u212, u213, u214], []⟩ wc := by
  conv => arg 2; whnf
  have CW := hid1 (fun N kd hN W (hW : Below w.heap.size w W) => weights5_any ao m cap f hm N kd hN W (hf.keep hW))
  clear hf
  obtain ⟨bwt, k1, k2, ec', hns⟩ := HKD.out
  have EC := hid1 ec'
  clear ec'
  have HNS := hid1 hns
  clear hns HKD
  have e1 : (kd == 1) = false := by rw [h2]; rfl
  have e2 : (kd == 2) = true := by rw [h2]; rfl
  have H2 := hid1 h2
  clear h2
  have f3 := HL9.out.frozen 3
  have f4 := HL9.out.frozen 4
  have f5 := HL9.out.frozen 5
  have f6 := HL9.out.frozen 6
  have f7 := HL9.out.frozen 7
  have f8 := HL9.out.frozen 8
  have f9 := HL9.out.frozen 9
  have f10 := HL9.out.frozen 10
  obtain ⟨l0, l1, l2, l3, l4, l5, l6, l7, l8, l9, l10, l11, l12, l13, l14⟩ := lyf_cells HL9.out
  have HNN := hid1 (own_ne_row HON.out HL9.out (by decide))
  go_upto_region 27 with fail
  refine gen_world (fun X => X.rowIs g9 45 15 (lyf (LV kd wt K 0 0 0 0 0 0 0 none 0 0 an cn (fun _ => 0) ns)) ∧ X.ownsRow (b + 3) 71 8 (.slice an K cn) K (nmL ns K) ∧ Below wr.heap.size wr X) ⟨((((((((HL9.out.set 3 (.int .i64 0)).set 4 (.int .i64 0)).set 5 (.int .i64 0)).set 6 (.int .i64 0)).set 7 (.int .i64 0)).set 8 (.int .i64 0)).set 9 (.int .i64 0)).set 10 (.int .i64 0)).congr fun i hi => (by rcases (show i = 0 ∨ i = 1 ∨ i = 2 ∨ i = 3 ∨ i = 4 ∨ i = 5 ∨ i = 6 ∨ i = 7 ∨ i = 8 ∨ i = 9 ∨ i = 10 ∨ i = 11 ∨ i = 12 ∨ i = 13 ∨ i = 14 by omega) with rfl | rfl | rfl | rfl | rfl | rfl | rfl | rfl | rfl | rfl | rfl | rfl | rfl | rfl | rfl <;> rfl), (own_setNe (own_setNe (own_setNe (own_setNe (own_setNe (own_setNe (own_setNe (own_setNe HON.out HNN.out) HNN.out) HNN.out) HNN.out) HNN.out) HNN.out) HNN.out) HNN.out), (bl_set (bl_set (bl_set (bl_set (bl_set (bl_set (bl_set (bl_set BR hg9' _) hg9' _) hg9' _) hg9' _) hg9' _) hg9' _) hg9' _) hg9' _)⟩ ?_
  clear HL9 HON HNN BR f3 f4 f5 f6 f7 f8 f9 f10 l0 l1 l2 l3 l4 l5 l6 l7 l8 l9 l10 l11 l12 l13 l14
  rintro Z ⟨RL, RN, BX⟩
  have HRL := hid1 RL
  have HRN := hid1 RN
  have MZ := HMS.out.keep BX
  have l1 : Z.cell? ⟨g9, 1, none⟩ = some (.int .i64 wt) := RL.cell (i := 1) (by decide)
  have l2 : Z.cell? ⟨g9, 2, none⟩ = some (.int .i64 K) := RL.cell (i := 2) (by decide)
  have s0 : Z.cell? ⟨b + 1 + 1, 0, none⟩ = some (.int .i64 h) := MZ.2.2.1.cell (i := 0) (by decide)
  have s1 : Z.cell? ⟨b + 1 + 1, 1, none⟩ = some (.int .i64 v) := MZ.2.2.1.cell (i := 1) (by decide)
  have s2 : Z.cell? ⟨b + 1 + 1, 2, none⟩ = some (.int .i64 c) := MZ.2.2.1.cell (i := 2) (by decide)
  clear RL RN MZ
  have m1 := mul3_le (a := K) (b := h) (c := 1) (A := 3) (B := 15) (C := 1) (by omega) (by omega) (by omega)
  have m2 := mul3_le (a := K) (b := h) (c := v) (A := 3) (B := 15) (C := 15) (by omega) (by omega) (by omega)
  have m3 := mul3_le (a := (K : Int) * h) (b := v) (c := c) (A := 45) (B := 15) (C := 4) (by omega) (by omega) (by omega)
  obtain ⟨N, hN⟩ := Int.eq_ofNat_of_zero_le m3.1
  have HNE : Hid ((N : Int) = K * (h * v * c)) := hid1 (by rw [← hN, Int.mul_assoc, Int.mul_assoc, Int.mul_assoc])
  have p1 : IntKind.i64.wrap ((K : Int) * h) = K * h := by rw [IntKind.wrap_i64]; omega
  have p2 : IntKind.i64.wrap ((K : Int) * h * v) = K * h * v := by rw [IntKind.wrap_i64]; omega
  have p3 : IntKind.i64.wrap ((K : Int) * h * v * c) = N := by rw [IntKind.wrap_i64, hN]; omega
  have hNb : N ≤ 10000 := by omega
  clear m1 m2 m3 hN
  go_wp2_with fail
  refine (CW.out N wt (by omega) _ (bl_step HXW.out BX)).mono ?_
  rintro e z8 ⟨vw, rfl, own, hb⟩
  obtain ⟨aw, cw, rfl⟩ := own_isP own
  have HOW := hid1 (own.mono (Nat.le_trans bsz BX.size))
  replace HRL := hid1 (World.rowIs.of_block HRL.out (hb.block _ HRL.out.lt))
  replace HRN := hid1 (own_bl HRN.out hb)
  replace BX := bl_step BX hb
  clear own hb l1 l2 s0 s1 s2
  have fz12 := HRL.out.frozen 12
  have l12 : z8.cell? ⟨g9, 12, none⟩ = some (.slice none 0 0) := HRL.out.cell (i := 12) (by decide)
  go_wp2_with fail
  refine hQ.out _ _ _ _ _ _ _ _ _ _ _ _ _ _ _ _ _ _ _ _ _ _ _ _ _ _ _ _ _ _ _ _ _ _ _ _ _ _ _ _ _ _ _ _ _ _ _ _ _ _ _ _ _ _ _ _ _ _ _ _ _ _ _ _ _ ?_
  have h2 := H2.out
  refine ⟨LV kd wt K 0 0 0 0 0 0 0 aw N cw an cn (wgV f m wt) ns, ?_, lyf_set HRL.out _ 12 _ ⟨rfl, rfl, rfl, rfl, rfl, rfl, rfl, rfl, rfl, rfl, rfl, rfl, rfl, rfl, rfl⟩, ⟨own_setHi HOW.out HRL.out.lt HRL.out (by decide), own_setHi HRN.out HRL.out.lt HRL.out (by decide), World.ownsRow_nil _ _ _ _⟩, bl_set BX hg9' _⟩
  refine ⟨made_dense HSM.out h2 bwt (by show 1 ≤ (K : Int) ∧ (K : Int) ≤ 3; omega) ⟨rfl, rfl, rfl, rfl, rfl, rfl, rfl, rfl⟩ rfl ⟨HNE.out, fun j _ => wgV_ok f m wt j⟩ (.inl ⟨HLA.out.1, ⟨rfl, rfl, fun j hj => HNS.out j hj⟩⟩), own_cap HOW.out, (by show 0 ≤ (K : Int) ∧ (K : Int) ≤ 3; omega), .inl h2, ?_, (by show N ≤ 1000000; omega), (by show K ≤ 1000000; omega), (by show 0 ≤ 1000000; omega)⟩
  rw [EC.out, if_neg (by show ¬ kd = 3; omega)]
attribute [local go_sem ↓] Go.wp_at_zero Go.wp_at_succ
set_option maxHeartbeats 64000000 in
set_option maxRecDepth 100000 in
theorem md_sw3 (u1 u2 u3 u5 u6 u10 u11 u12 u13 u14 u15 u16 u17 u18 u19 u20 u21 u22 u23 u24 u25 u26 u27 u28 u29 u30 u31 u32 u33 u34 u35 u36 u37 u38 u39 u40 u41 u42 u43 u44 u45 u46 u47 u48 u49 u50 u51 u52 u53 u54 u55 u56 u57 u58 u59 u60 u61 u62 u63 u64 u65 u66 u67 u68 u69 u70 u71 u72 u73 u74 u75 u76 u77 u78 u79 u80 u81 u82 u83 u84 u85 u86 u87 u88 u89 u90 u91 u92 u93 u94 u95 u96 u97 u98 u99 u100 u101 u103 u104 u105 u106 u107 u108 u109 u110 u111 u112 u113 u114 u115 u116 u117 u118 u119 u120 u121 u122 u123 u124 u125 u126 u127 u128 u129 u130 u131 u132 u133 u134 u135 u136 u137 u138 u139 u140 u141 u142 u143 u144 u145 u146 u147 u148 u149 u150 u151 u152 u153 u154 u155 u156 u157 u158 u159 u160 u161 u162 u163 u164 u165 u166 u167 u168 u169 u170 u171 u172 u173 u174 u175 u176 u177 u178 u179 u180 u181 u182 u183 u184 u185 u186 u187 u188 u189 u190 u191 u192 u193 u194 u195 u196 u197 u198 u199 u200 u201 u202 u203 u204 u205 u206 u207 u208 u209 u210 u211 u212 u213 u214 : Value) (ao : Option Addr) (m cap : Nat) (f : Nat → Int) (_hm : m ≤ 9223372036854775807) (w : World) (_hf : RB w ao m f) (b g8 g9 K cn i uc : Nat) (ua an : Option Addr) (ns : Nat → Nat → Int) (lf : Nat → Ly) (p kd wt r s sy sx h v c c' ah H V C : Int) (fs la : Bool) (wr wc : World) (Q : Exit → Act → World → Prop)
    (_hpb : 0 ≤ p ∧ p ≤ 100) (_wp6 : IntKind.i64.wrap (p + 6) = p + 6) (_wp7 : IntKind.i64.wrap (p + 7) = p + 7) (_HXW : Hid (Below w.heap.size w wr)) (_bsz : b + 3 ≤ wr.heap.size) (_HMS : Hid (MS wr b H V C h v c lf i ua uc)) (HSM : Hid (SmS ⟨h, v, c, ah, fs, la⟩)) (HLA : Hid (la = false ∧ fs = decide (i = 0))) (_sm1 : 1 ≤ h ∧ h ≤ 15) (_sm2 : 1 ≤ v ∧ v ≤ 15) (_sm3 : 1 ≤ c ∧ c ≤ 4) (br : 1 ≤ r ∧ r ≤ h) (bs : 1 ≤ s ∧ s ≤ v) (bsy : 1 ≤ sy ∧ sy ≤ 3) (bsx : 1 ≤ sx ∧ sx ≤ 3) (HL9 : Hid (wc.rowIs g9 45 15 (lyf (L1 kd wt K r s sy sx an cn ns)))) (HON : Hid (wc.ownsRow (b + 3) 71 8 (.slice an K cn) K (nmL ns K))) (_HW8 : Hid (wc.rowIs g8 40 8 (wnF r s sy sx))) (BR : Below wr.heap.size wr wc) (_hg9' : wr.heap.size ≤ g9) (_hg89 : g8 ≠ g9) (HKD : Hid (wt = 0 ∧ K = 0 ∧ c' = c)) (HNZ : Hid (i = 0 → kd ≠ 3)) (h3 : kd = 3)
    (hQ : Hid (∀ (X : World) (v103 v104 v105 v106 v107 v108 v109 v110 v111 v112 v113 v114 v115 v116 v117 v118 v119 v120 v121 v122 v123 v124 v125 v126 v127 v128 v129 v130 v131 v132 v133 v134 v135 v136 v137 v138 v139 v140 v141 v142 v143 v144 v145 v146 v147 v148 v149 v150 v151 v152 v153 v154 v155 v156 v157 v158 v159 v160 v161 v162 v163 v164 v165 v166 : Value), (∃ L, Ld L ⟨h, v, c, ah, fs, la⟩ c' ∧ X.rowIs g9 45 15 (lyf L) ∧ Lo X (b + 3) L ∧ Below wr.heap.size wr X) → Q .normal ⟨#[.slice ao m cap, u1, u2, u3, .pointer (some ⟨b + 1 + 1, 0, none⟩), u5, u6, .int .i64 p, .pointer (some ⟨g8, 0, none⟩), .pointer (some ⟨g9, 0, none⟩), u10, u11, u12, u13, u14, u15, u16, u17, u18, u19, u20, u21, u22, u23, u24, u25, u26, u27, u28, u29, u30, u31, u32, u33, u34, u35, u36, u37, u38, u39, u40, u41, u42, u43, u44, u45, u46, u47, u48, u49, u50, u51, u52, u53, u54, u55, u56, u57, u58, u59, u60, u61, u62, u63, u64, u65, u66, u67, u68, u69, u70, u71, u72, u73, u74, u75, u76, u77, u78, u79, u80, u81, u82, u83, u84, u85, u86, u87, u88, u89, u90, u91, u92, u93, u94, u95, u96, u97, u98, u99, u100, u101, .int .i64 kd, v103, v104, v105, v106, v107, v108, v109, v110, v111, v112, v113, v114, v115, v116, v117, v118, v119, v120, v121, v122, v123, v124, v125, v126, v127, v128, v129, v130, v131, v132, v133, v134, v135, v136, v137, v138, v139, v140, v141, v142, v143, v144, v145, v146, v147, v148, v149, v150, v151, v152, v153, v154, v155, v156, v157, v158, v159, v160, v161, v162, v163, v164, v165, v166, u167, u168, u169, u170, u171, u172, u173, u174, u175, u176, u177, u178, u179, u180, u181, u182, u183, u184, u185, u186, u187, u188, u189, u190, u191, u192, u193, u194, u195, u196, u197, u198, u199, u200, u201, u202, u203, u204, u205, u206, u207, u208, u209, u210, u211, u212, u213, u214], []⟩ X)) :
    Code.wp Try.prog cdB2 Q ⟨#[.slice ao m cap, u1, u2, u3, .pointer (some ⟨b + 1 + 1, 0, none⟩), u5, u6, .int .i64 p, .pointer (some ⟨g8, 0, none⟩), .pointer (some ⟨g9, 0, none⟩), u10, u11, u12, u13, u14, u15, u16, u17, u18, u19, u20, u21, u22, u23, u24, u25, u26, u27, u28, u29, u30, u31, u32, u33, u34, u35, u36, u37, u38, u39, u40, u41, u42, u43, u44, u45, u46, u47, u48, u49, u50, u51, u52, u53, u54, u55, u56, u57, u58, u59, u60, u61, u62, u63, u64, u65, u66, u67, u68, u69, u70, u71, u72, u73, u74, u75, u76, u77, u78, u79, u80, u81, u82, u83, u84, u85, u86, u87, u88, u89, u90, u91, u92, u93, u94, u95, u96, u97, u98, u99, u100, u101, .int .i64 kd, u103, u104, u105, u106, u107, u108, u109, u110, u111, u112, u113, u114, u115, u116, u117, u118, u119, u120, u121, u122, u123, u124, u125, u126, u127, u128, u129, u130, u131, u132, u133, u134, u135, u136, u137, u138, u139, u140, u141, u142, u143, u144, u145, u146, u147, u148, u149, u150, u151, u152, u153, u154, u155, u156, u157, u158, u159, u160, u161, u162, u163, u164, u165, u166, u167, u168, u169, u170, u171, u172, u173, u174, u175, u176, u177, u178, u179, u180, u181, u182, u183, u184, u185, u186, u187, u188, u189, u190, u191, u192, u193, u194, u195, u196, u197, u198, u199, u200, u201, u202, u203, u204, u205, u206, u207, u208, u209, u210, u211, u212, u213, u214], []⟩ wc := by
  conv => arg 2; whnf
  have e1 : (kd == 1) = false := by rw [h3]; rfl
  have e2 : (kd == 2) = false := by rw [h3]; rfl
  have H3 := hid1 h3
  clear h3
  go_wp2_with fail
  refine hQ.out _ _ _ _ _ _ _ _ _ _ _ _ _ _ _ _ _ _ _ _ _ _ _ _ _ _ _ _ _ _ _ _ _ _ _ _ _ _ _ _ _ _ _ _ _ _ _ _ _ _ _ _ _ _ _ _ _ _ _ _ _ _ _ _ _ ?_
  have h3 := H3.out
  obtain ⟨rfl, rfl, ec'⟩ := HKD.out
  have EC := hid1 ec'
  clear ec' HKD
  refine ⟨L1 kd 0 0 r s sy sx an cn ns, ?_, HL9.out, ⟨World.ownsRow_nil _ _ _ _, HON.out, World.ownsRow_nil _ _ _ _⟩, BR⟩
  have hfs : fs = false := by
    have := HLA.out.2
    rw [this]
    have hn := HNZ.out
    simp only [decide_eq_false_iff_not]
    exact fun h0 => hn h0 h3
  refine ⟨made_pool HSM.out HLA.out.1 hfs h3 ⟨⟨rfl, rfl, rfl⟩, rfl, rfl, rfl⟩ br bs bsy bsx ⟨rfl, rfl, rfl, rfl⟩, Nat.zero_le _, (by show (0 : Int) ≤ ((0 : Nat) : Int) ∧ ((0 : Nat) : Int) ≤ 3; omega), .inr ⟨br, bs, bsy, bsx, (by show (0 : Int) ≤ 0 ∧ (0 : Int) ≤ 2; omega), rfl, rfl, (by show (0 : Int) ≤ 0 ∧ (0 : Int) ≤ 1; omega)⟩, ?_, (by show 0 ≤ 1000000; omega), (by show 0 ≤ 1000000; omega), (by show 0 ≤ 1000000; omega)⟩
  rw [EC.out, if_pos h3]
end Go.Proofs.Ytkodihmjjiadnaa.Nn
/- NETWORKS THAT ARE MADE: the walk's pieces: a layer more. -/
namespace Go.Proofs.Ytkodihmjjiadnaa.Nn
open Go.RowKit

noncomputable def cd28 : Code := (Try.f7.body.bind (fromP (isReg 28))).getD .skip
attribute [local go_sem ↓] Go.wp_at_zero Go.wp_at_succ
set_option maxHeartbeats 64000000 in
set_option maxRecDepth 100000 in
theorem md_tail (u0 u1 u2 u5 u6 u7 u8 u11 u12 u13 u14 u15 u16 u17 u18 u19 u20 u21 u22 u23 u24 u25 u26 u27 u28 u29 u30 u31 u32 u33 u34 u35 u36 u37 u38 u39 u40 u41 u42 u43 u44 u45 u46 u47 u48 u49 u50 u51 u52 u53 u54 u55 u56 u57 u58 u59 u60 u61 u62 u63 u64 u65 u66 u67 u68 u69 u70 u71 u72 u73 u74 u75 u76 u77 u78 u79 u80 u81 u82 u83 u84 u85 u86 u87 u88 u89 u90 u91 u92 u93 u94 u95 u96 u97 u98 u99 u100 u101 u102 u103 u104 u105 u106 u107 u108 u109 u110 u111 u112 u113 u114 u115 u116 u117 u118 u119 u120 u121 u122 u123 u124 u125 u126 u127 u128 u129 u130 u131 u132 u133 u134 u135 u136 u137 u138 u139 u140 u141 u142 u143 u144 u145 u146 u147 u148 u149 u150 u151 u152 u153 u154 u155 u156 u157 u158 u159 u160 u161 u162 u163 u164 u165 u166 u167 u168 u169 u170 u171 u172 u173 u174 u175 u176 u177 u178 u179 u180 u181 u182 u183 u184 u185 u186 u187 u188 u189 u190 u191 u192 u193 u194 u195 u196 u197 u198 u199 u200 u201 u202 u203 u204 u205 u206 u207 u208 u209 u210 u211 u212 u213 u214 : Value) (b g9 i uc : Nat) (ua : Option Addr) (lf : Nat → Ly) (L : Ly) (h v c c' ah H V C : Int) (fs la : Bool) (w wr X : World) (Q : Exit → Act → World → Prop)
    (HXW : Hid (Below w.heap.size w wr)) (hwb : w.heap.size ≤ b) (bsz : b + 3 ≤ wr.heap.size) (hg9' : wr.heap.size ≤ g9) (HMS : Hid (MS wr b H V C h v c lf i ua uc)) (HSM : Hid (SmS ⟨h, v, c, ah, fs, la⟩)) (sm1 : 1 ≤ h ∧ h ≤ 15) (sm2 : 1 ≤ v ∧ v ≤ 15) (hi4 : i ≤ 4) (LD : Ld L ⟨h, v, c, ah, fs, la⟩ c') (RL : X.rowIs g9 45 15 (lyf L)) (LO : Lo X (b + 3) L) (BX : Below wr.heap.size wr X)
    (hQ : Hid (∀ (Y : World) (a3 : Option Addr) (c3 : Nat) (v167 v168 v169 v170 v171 v172 v173 v174 v175 v176 : Value), MS Y b H V C (afH L h) (afV L v) c' (sn lf i L) (i + 1) a3 c3 → Below w.heap.size w Y → Q .normal ⟨#[u0, u1, u2, .pointer (some ⟨b + 1, 0, none⟩), .pointer (some ⟨b + 1 + 1, 0, none⟩), u5, u6, u7, u8, .pointer (some ⟨g9, 0, none⟩), .int .i64 c', u11, u12, u13, u14, u15, u16, u17, u18, u19, u20, u21, u22, u23, u24, u25, u26, u27, u28, u29, u30, u31, u32, u33, u34, u35, u36, u37, u38, u39, u40, u41, u42, u43, u44, u45, u46, u47, u48, u49, u50, u51, u52, u53, u54, u55, u56, u57, u58, u59, u60, u61, u62, u63, u64, u65, u66, u67, u68, u69, u70, u71, u72, u73, u74, u75, u76, u77, u78, u79, u80, u81, u82, u83, u84, u85, u86, u87, u88, u89, u90, u91, u92, u93, u94, u95, u96, u97, u98, u99, u100, u101, u102, u103, u104, u105, u106, u107, u108, u109, u110, u111, u112, u113, u114, u115, u116, u117, u118, u119, u120, u121, u122, u123, u124, u125, u126, u127, u128, u129, u130, u131, u132, u133, u134, u135, u136, u137, u138, u139, u140, u141, u142, u143, u144, u145, u146, u147, u148, u149, u150, u151, u152, u153, u154, u155, u156, u157, u158, u159, u160, u161, u162, u163, u164, u165, u166, v167, v168, v169, v170, v171, v172, v173, v174, v175, v176, u177, u178, u179, u180, u181, u182, u183, u184, u185, u186, u187, u188, u189, u190, u191, u192, u193, u194, u195, u196, u197, u198, u199, u200, u201, u202, u203, u204, u205, u206, u207, u208, u209, u210, u211, u212, u213, u214], []⟩ Y)) :
    Code.wp Try.prog cd28 Q ⟨#[u0, u1, u2, .pointer (some ⟨b + 1, 0, none⟩), .pointer (some ⟨b + 1 + 1, 0, none⟩), u5, u6, u7, u8, .pointer (some ⟨g9, 0, none⟩), .int .i64 c', u11, u12, u13, u14, u15, u16, u17, u18, u19, u20, u21, u22, u23, u24, u25, u26, u27, u28, u29, u30, u31, u32, u33, u34, u35, u36, u37, u38, u39, u40, u41, u42, u43, u44, u45, u46, u47, u48, u49, u50, u51, u52, u53, u54, u55, u56, u57, u58, u59, u60, u61, u62, u63, u64, u65, u66, u67, u68, u69, u70, u71, u72, u73, u74, u75, u76, u77, u78, u79, u80, u81, u82, u83, u84, u85, u86, u87, u88, u89, u90, u91, u92, u93, u94, u95, u96, u97, u98, u99, u100, u101, u102, u103, u104, u105, u106, u107, u108, u109, u110, u111, u112, u113, u114, u115, u116, u117, u118, u119, u120, u121, u122, u123, u124, u125, u126, u127, u128, u129, u130, u131, u132, u133, u134, u135, u136, u137, u138, u139, u140, u141, u142, u143, u144, u145, u146, u147, u148, u149, u150, u151, u152, u153, u154, u155, u156, u157, u158, u159, u160, u161, u162, u163, u164, u165, u166, u167, u168, u169, u170, u171, u172, u173, u174, u175, u176, u177, u178, u179, u180, u181, u182, u183, u184, u185, u186, u187, u188, u189, u190, u191, u192, u193, u194, u195, u196, u197, u198, u199, u200, u201, u202, u203, u204, u205, u206, u207, u208, u209, u210, u211, u212, u213, u214], []⟩ X := by
  conv => arg 2; whnf
  have HLD := hid1 LD
  have HLO := hid1 LO
  have MX := HMS.out.keep BX
  have HMX := hid1 MX
  have n4 : X.cell? ⟨b + 1, 4, none⟩ = some (.slice ua i uc) := MX.2.1.cell (i := 4) (by decide)
  have HRW := hid1 MX.2.2.2.1
  have HUO := hid1 (fun q (hq : (Value.slice ua i uc).ownBlock = some q) => (HMS.out.2.2.2.1.lt q hq))
  have HRL := hid1 RL
  obtain ⟨l0, l1, l2, l3, l4, l5, l6, l7, l8, l9, l10, l11, l12, l13, l14⟩ := lyf_cells RL
  have hXb : b + 3 ≤ X.heap.size := Nat.le_trans bsz BX.size
  have HBX := hid1 BX
  have hgX := RL.lt
  clear LD RL LO BX MX
  go_upto_region 29 with (at_builtin; refine app_lyD rfl _ _ rfl (b + 3) (.slice ua i uc) (lyLs lf i) i (by go_simp) (own_bl HRW.out (bl_alloc (Below.refl _ _) _)) X.heap.size L 1 (by go_simp) (lp_new' rfl L _) (by omega) (by simp; omega) ?_; intro v3 y3 own3 gr3; obtain ⟨a3, c3, rfl⟩ := own_isP own3; have RN3 := World.rowIs.of_block HMX.out.2.1 ((gr3.block (b + 1) (by simp; omega) (fun e => by have := HUO.out (b + 1) e.symm; omega)).trans ((bl_alloc (Below.refl X.heap.size X) (lyo L)).block (b + 1) (by omega))); have m4 : y3.cell? ⟨b + 1, 4, none⟩ = some (.slice ua i uc) := RN3.cell (i := 4) (by decide); have fz4 := RN3.frozen 4; have HL3 := hid1 (World.rowIs.of_block HRL.out ((gr3.block g9 (by simp; omega) (fun e => by have := HUO.out g9 e.symm; omega)).trans ((bl_alloc (Below.refl X.heap.size X) (lyo L)).block g9 hgX))); have HM3 := hid1 (HMX.out.snoc HLO.out HLD.out.2.2.2.2.2 own3 gr3); have HB3 := hid1 (gr_bel gr3 (show Below w.heap.size w _ from bl_step HXW.out (bl_alloc HBX.out _)) (fun q hq => by have := (HUO.out q hq).1; omega)); clear own3 gr3 RN3)
  refine gen_world (fun Y => MS Y b H V C h v c (sn lf i L) (i + 1) a3 c3 ∧ Y.rowIs g9 45 15 (lyf L) ∧ Below w.heap.size w Y) ⟨HM3.out, HL3.out.setOther (by show g9 ≠ b + 1; omega) _, bl_set HB3.out (by omega) _⟩ ?_
  clear HM3 HL3 HB3 m4 fz4 l0 l1 l2 l3 l4 l5 l6 l7 l8 l9 l10 l11 l12 l13 l14 n4 hgX HRL HRW HMX
  rintro Y ⟨MY, RL, BY⟩
  have HMY := hid1 MY
  obtain ⟨l0, l1, l2, l3, l4, l5, l6, l7, l8, l9, l10, l11, l12, l13, l14⟩ := lyf_cells RL
  have s0 : Y.cell? ⟨b + 1 + 1, 0, none⟩ = some (.int .i64 h) := MY.2.2.1.cell (i := 0) (by decide)
  have s1 : Y.cell? ⟨b + 1 + 1, 1, none⟩ = some (.int .i64 v) := MY.2.2.1.cell (i := 1) (by decide)
  have s2 : Y.cell? ⟨b + 1 + 1, 2, none⟩ = some (.int .i64 c) := MY.2.2.1.cell (i := 2) (by decide)
  have CA := hid1 (fun W => after_any2 L h v c c' (by omega) (by omega) (made_out HSM.out HLD.out.1 HLD.out.2.2.2.1).1 W)
  clear MY RL
  go_wp2_with fail
  refine (CA.out _).mono ?_
  rintro e z ⟨rfl, hb⟩
  replace HMY := hid1 (HMY.out.keep hb)
  replace BY := bl_step BY hb
  clear hb l0 l1 l2 l3 l4 l5 l6 l7 l8 l9 l10 l11 l12 l13 l14 s0 s1 s2 CA
  have s0 : z.cell? ⟨b + 1 + 1, 0, none⟩ = some (.int .i64 h) := HMY.out.2.2.1.cell (i := 0) (by decide)
  have s1 : z.cell? ⟨b + 1 + 1, 1, none⟩ = some (.int .i64 v) := HMY.out.2.2.1.cell (i := 1) (by decide)
  have s2 : z.cell? ⟨b + 1 + 1, 2, none⟩ = some (.int .i64 c) := HMY.out.2.2.1.cell (i := 2) (by decide)
  have f0 := HMY.out.2.2.1.frozen 0
  have f1 := HMY.out.2.2.1.frozen 1
  have f2 := HMY.out.2.2.1.frozen 2
  obtain ⟨hh, ehh⟩ : ∃ x, afH L h = x := ⟨_, rfl⟩
  obtain ⟨vv, evv⟩ : ∃ x, afV L v = x := ⟨_, rfl⟩
  have HQ2 := hQ
  clear hQ
  rw [ehh, evv] at HQ2 ⊢
  clear ehh evv
  go_wp2_with fail
  exact HQ2.out _ a3 c3 _ _ _ _ _ _ _ _ _ _ (HMY.out.shape hh vv c') (by with_reducible refine bl_set (bl_set (bl_set BY ?_ _) ?_ _) ?_ _ <;> omega)
end Go.Proofs.Ytkodihmjjiadnaa.Nn
/- NETWORKS THAT ARE MADE: the walk's pieces: the last layer's biases, and the end. -/
namespace Go.Proofs.Ytkodihmjjiadnaa.Nn
open Go.RowKit

noncomputable def cdB3 : Code := (Try.f7.body.bind (blockOf 3)).getD .skip
noncomputable def cd36 : Code := (Try.f7.body.bind (fromP (isReg 36))).getD .skip
attribute [local go_sem ↓] Go.wp_at_zero Go.wp_at_succ
set_option maxHeartbeats 64000000 in
set_option maxRecDepth 100000 in
theorem md_b3 (u1 u2 u3 u4 u5 u6 u7 u8 u9 u10 u14 u15 u16 u17 u18 u19 u20 u21 u22 u23 u24 u25 u26 u27 u28 u29 u30 u31 u32 u33 u34 u35 u36 u37 u38 u39 u40 u41 u42 u43 u44 u45 u46 u47 u48 u49 u50 u51 u52 u53 u54 u55 u56 u57 u58 u59 u60 u61 u62 u63 u64 u65 u66 u67 u68 u69 u70 u71 u72 u73 u74 u75 u76 u77 u78 u79 u80 u81 u82 u83 u84 u85 u86 u87 u88 u89 u90 u91 u92 u93 u94 u95 u96 u97 u98 u99 u100 u101 u102 u103 u104 u105 u106 u107 u108 u109 u110 u111 u112 u113 u114 u115 u116 u117 u118 u119 u120 u121 u122 u123 u124 u125 u126 u127 u128 u129 u130 u131 u132 u133 u134 u135 u136 u137 u138 u139 u140 u141 u142 u143 u144 u145 u146 u147 u148 u149 u150 u151 u152 u153 u154 u155 u156 u157 u158 u159 u160 u161 u162 u163 u164 u165 u166 u167 u168 u169 u170 u171 u172 u173 u174 u175 u176 u177 u178 u179 u180 u181 u182 u183 u184 u185 u186 u187 u188 u189 u190 u191 u192 u193 u194 u195 u196 u197 u198 u199 u200 u201 u202 u203 u204 u205 u206 u207 u208 u209 u210 u211 u212 u213 u214 : Value) (ao : Option Addr) (m cap : Nat) (f : Nat → Int) (hm : m ≤ 9223372036854775807) (w : World) (hf : RB w ao m f) (b K N cw g12 : Nat) (aw : Option Addr) (h v c ah : Int) (fs la : Bool) (z1 X : World) (Q : Exit → Act → World → Prop)
    (bK : 1 ≤ K ∧ K ≤ 3) (hNb : N ≤ 10000) (HNE : Hid ((N : Int) = K * (h * v * c))) (HSM : Hid (SmS ⟨h, v, c, ah, fs, la⟩)) (HLA : Hid (la = true)) (HXW : Hid (Below w.heap.size w z1)) (bsz : b + 3 ≤ z1.heap.size) (HRL : Hid (X.rowIs g12 45 15 (lyf (LE f m K aw N cw none 0 0)))) (HOW : Hid (X.ownsRow (b + 3) 49 1 (.slice aw N cw) N (i8L (wgL f m 2 N)))) (BR : Below z1.heap.size z1 X) (hg12 : z1.heap.size ≤ g12)
    (hQ : Hid (∀ (X : World) (v13 v194 v195 v196 v197 v198 v199 v200 v201 v202 v203 v204 v205 v206 v207 : Value), (∃ L, (faE L ⟨h, v, c, ah, fs, la⟩ = 0 ∧ L.kd = 2 ∧ L.mw ≤ L.cw ∧ (0 ≤ L.k ∧ L.k ≤ 3) ∧ L.mw ≤ 1000000 ∧ L.mn ≤ 1000000 ∧ L.mb ≤ 1000000) ∧ X.rowIs g12 45 15 (lyf L) ∧ Lo X (b + 3) L ∧ Below z1.heap.size z1 X) → Q .normal ⟨#[.slice ao m cap, u1, u2, u3, u4, u5, u6, u7, u8, u9, u10, .int .i64 (K : Int), .pointer (some ⟨g12, 0, none⟩), v13, u14, u15, u16, u17, u18, u19, u20, u21, u22, u23, u24, u25, u26, u27, u28, u29, u30, u31, u32, u33, u34, u35, u36, u37, u38, u39, u40, u41, u42, u43, u44, u45, u46, u47, u48, u49, u50, u51, u52, u53, u54, u55, u56, u57, u58, u59, u60, u61, u62, u63, u64, u65, u66, u67, u68, u69, u70, u71, u72, u73, u74, u75, u76, u77, u78, u79, u80, u81, u82, u83, u84, u85, u86, u87, u88, u89, u90, u91, u92, u93, u94, u95, u96, u97, u98, u99, u100, u101, u102, u103, u104, u105, u106, u107, u108, u109, u110, u111, u112, u113, u114, u115, u116, u117, u118, u119, u120, u121, u122, u123, u124, u125, u126, u127, u128, u129, u130, u131, u132, u133, u134, u135, u136, u137, u138, u139, u140, u141, u142, u143, u144, u145, u146, u147, u148, u149, u150, u151, u152, u153, u154, u155, u156, u157, u158, u159, u160, u161, u162, u163, u164, u165, u166, u167, u168, u169, u170, u171, u172, u173, u174, u175, u176, u177, u178, u179, u180, u181, u182, u183, u184, u185, u186, u187, u188, u189, u190, u191, u192, u193, v194, v195, v196, v197, v198, v199, v200, v201, v202, v203, v204, v205, v206, v207, u208, u209, u210, u211, u212, u213, u214], []⟩ X)) :
    Code.wp Try.prog cdB3 Q ⟨#[.slice ao m cap, u1, u2, u3, u4, u5, u6, u7, u8, u9, u10, .int .i64 (K : Int), .pointer (some ⟨g12, 0, none⟩), .int .i64 0, u14, u15, u16, u17, u18, u19, u20, u21, u22, u23, u24, u25, u26, u27, u28, u29, u30, u31, u32, u33, u34, u35, u36, u37, u38, u39, u40, u41, u42, u43, u44, u45, u46, u47, u48, u49, u50, u51, u52, u53, u54, u55, u56, u57, u58, u59, u60, u61, u62, u63, u64, u65, u66, u67, u68, u69, u70, u71, u72, u73, u74, u75, u76, u77, u78, u79, u80, u81, u82, u83, u84, u85, u86, u87, u88, u89, u90, u91, u92, u93, u94, u95, u96, u97, u98, u99, u100, u101, u102, u103, u104, u105, u106, u107, u108, u109, u110, u111, u112, u113, u114, u115, u116, u117, u118, u119, u120, u121, u122, u123, u124, u125, u126, u127, u128, u129, u130, u131, u132, u133, u134, u135, u136, u137, u138, u139, u140, u141, u142, u143, u144, u145, u146, u147, u148, u149, u150, u151, u152, u153, u154, u155, u156, u157, u158, u159, u160, u161, u162, u163, u164, u165, u166, u167, u168, u169, u170, u171, u172, u173, u174, u175, u176, u177, u178, u179, u180, u181, u182, u183, u184, u185, u186, u187, u188, u189, u190, u191, u192, u193, u194, u195, u196, u197, u198, u199, u200, u201, u202, u203, u204, u205, u206, u207, u208, u209, u210, u211, u212, u213, u214], []⟩ X := by
  conv => arg 2; whnf
  have CP := hid1 (fun i n hi hn W (hW : Below w.heap.size w W) => pick5_any ao m cap f hm i n hi hn W (hf.keep hW))
  have PB := hid1 (fun i {n : Int} (hn : 1 ≤ n) => pk5_in f m i hn)
  clear hf
  go_wp2_with fail
  go_loopw [13] (fun jv wy => ∃ (j : Nat) (za : Option Addr) (zc : Nat), j ≤ K ∧ jv = .int .i64 j ∧ Below z1.heap.size z1 wy ∧ Hid (wy.rowIs g12 45 15 (lyf (LE f m K aw N cw za j zc))) ∧ Hid (wy.ownsRow (b + 3) 49 1 (.slice aw N cw) N (i8L (wgL f m 2 N))) ∧ Hid (wy.ownsRow z1.heap.size 2 1 (.slice za j zc) j (i64L (bsLL f m j)))) (fun jv _ => K - (intOf jv).toNat)
  case atStart => exact ⟨0, none, 0, Nat.zero_le _, rfl, BR, HRL, HOW, hid1 (World.ownsRow_nil _ _ _ _)⟩
  case round =>
    clear BR HRL HOW X
    obtain ⟨j, za, zc, hj, rfl, BR, HRL, HOW, HO⟩ := hrel
    have ij0 : (0 : Int) ≤ (j : Int) := by omega
    by_cases hlt : j < K
    · skip
      have ij : (j : Int) < (K : Int) := by omega
      have CP2 := hid1 (fun W hW => CP.out j 200 (by omega) (by decide) W hW)
      have hpk := PB.out j (n := 200) (by decide)
      have HSU := hid1 (bsLL_succ f m j)
      have HBM : Hid (bsV f m j = pk5 f m j 200 - 100) := hid1 rfl
      obtain ⟨y, hy⟩ : ∃ y, pk5 f m j 200 = y := ⟨_, rfl⟩
      rw [hy] at CP2 hpk HBM
      rw [HBM.out] at HSU
      clear hy HBM
      have wI : IntKind.i64.wrap (y - 100) = y - 100 := by rw [IntKind.wrap_i64]; omega
      have l14 : wr.cell? ⟨g12, 14, none⟩ = some (.slice za j zc) := HRL.out.cell (i := 14) (by decide)
      have lb1 := HRL.out.lt
      have HUO := hid1 (own_ne_row HO.out HRL.out (by decide))
      have HUG := hid1 (fun q (hq : (Value.slice za j zc).ownBlock = some q) => (HO.out.lt q hq).1)
      have HBX := hid1 BR
      clear BR
      go_upto_region 35 with fail
      refine wp_region_noPanic ?_
      go_region_law (first
        | (refine step_appP rfl (.tmp 200) (.tmp 205) rfl z1.heap.size (.slice za j zc) (bsLL f m j) j (by go_simp) (own_bl HO.out (by repeat (first | (with_reducible exact Below.refl _ _) | (with_reducible refine Below.drew ?_) | (with_reducible refine bl_alloc ?_ _)))) wr.heap.size (y - 100) 1 (by go_simp) (by simp [go_sem]) (by omega) (by have := HBX.out.size; simp; omega) ?_; intro v3 y3 own3 gr3 _; obtain ⟨a3, c3, rfl⟩ := own_isP own3; have RL3 := World.rowIs.of_block HRL.out ((gr3.block g12 (by simp; omega) (fun e => HUO.out g12 e.symm rfl)).trans ((show Below wr.heap.size wr _ from (by repeat (first | (with_reducible exact Below.refl _ _) | (with_reducible refine Below.drew ?_) | (with_reducible refine bl_alloc ?_ _)))).block g12 lb1)); have m14 : y3.cell? ⟨g12, 14, none⟩ = some (.slice za j zc) := RL3.cell (i := 14) (by decide); have fz := RL3.frozen 14; have HRL3 := hid1 RL3; have HW3 := hid1 ((own_bl HOW.out (show Below wr.heap.size wr _ from (by repeat (first | (with_reducible exact Below.refl _ _) | (with_reducible refine Below.drew ?_) | (with_reducible refine bl_alloc ?_ _))))).kept gr3 (own_neD (own_bl HOW.out (show Below wr.heap.size wr _ from (by repeat (first | (with_reducible exact Below.refl _ _) | (with_reducible refine Below.drew ?_) | (with_reducible refine bl_alloc ?_ _))))) (own_bl HO.out (show Below wr.heap.size wr _ from (by repeat (first | (with_reducible exact Below.refl _ _) | (with_reducible refine Below.drew ?_) | (with_reducible refine bl_alloc ?_ _))))) (by decide))); have BW3 := hid1 (gr_bel gr3 (show Below z1.heap.size z1 _ from bl_step HBX.out (by repeat (first | (with_reducible exact Below.refl _ _) | (with_reducible refine Below.drew ?_) | (with_reducible refine bl_alloc ?_ _)))) (fun q hq => HUG.out q hq)); have z3 := gr3.size; have O3 := hid1 own3; clear own3 gr3 RL3)
        | (go_simp; go_at_call 20; refine (CP2.out _ (bl_step HXW.out (bl_step HBX.out (by repeat (first | (with_reducible exact Below.refl _ _) | (with_reducible refine Below.drew ?_) | (with_reducible refine bl_alloc ?_ _)))))).mono ?_; rintro e y0 ⟨rfl, rfl⟩))
      all_goals
        have E1 : Hid ((y3.setCell ⟨g12, 14, none⟩ (.slice a3 (j + 1) c3)).ownsRow z1.heap.size 2 1 (.slice a3 (j + 1) c3) (j + 1) (i64L (bsLL f m (j + 1)))) := hid1 (own_setHi (by rw [HSU.out]; exact O3.out) HRL3.out.lt HRL3.out (by decide))
        have E2 : Hid ((y3.setCell ⟨g12, 14, none⟩ (.slice a3 (j + 1) c3)).rowIs g12 45 15 (lyf (LE f m K aw N cw a3 (j + 1) c3))) := hid1 (lyf_set HRL3.out _ 14 _ ⟨rfl, rfl, rfl, rfl, rfl, rfl, rfl, rfl, rfl, rfl, rfl, rfl, rfl, rfl, rfl⟩)
        have E3 : Hid ((y3.setCell ⟨g12, 14, none⟩ (.slice a3 (j + 1) c3)).ownsRow (b + 3) 49 1 (.slice aw N cw) N (i8L (wgL f m 2 N))) := hid1 (own_setHi HW3.out HRL3.out.lt HRL3.out (by decide))
        have E4 : Below z1.heap.size z1 (y3.setCell ⟨g12, 14, none⟩ (.slice a3 (j + 1) c3)) := bl_set BW3.out hg12 _
        refine NoPanic.normal ?_
        go_wp2
        exact ⟨⟨j + 1, a3, c3, by omega, by go_num, E4, E2, E3, E1⟩, by simp [intOf]; omega⟩
    · have hjK : j = K := by omega
      subst hjK
      have L2 : Hid (LE f m j aw N cw za j zc = LE f m j aw N cw za j zc) := hid1 rfl
      obtain ⟨L, hL⟩ : ∃ L, LE f m j aw N cw za j zc = L := ⟨_, rfl⟩
      have HLD : Hid (faE L ⟨h, v, c, ah, fs, la⟩ = 0 ∧ L.kd = 2 ∧ L.mw ≤ L.cw ∧ (0 ≤ L.k ∧ L.k ≤ 3) ∧ L.mw ≤ 1000000 ∧ L.mn ≤ 1000000 ∧ L.mb ≤ 1000000) := hid1 (by
        rw [← hL]
        refine ⟨made_dense HSM.out rfl (.inr rfl) (by show 1 ≤ (j : Int) ∧ (j : Int) ≤ 3; omega) ⟨rfl, rfl, rfl, rfl, rfl, rfl, rfl, rfl⟩ rfl ⟨HNE.out, fun q _ => wgV_ok f m 2 q⟩ (.inr ⟨HLA.out, rfl, rfl, fun q _ => ?_⟩), rfl, own_cap HOW.out, (by show 0 ≤ (j : Int) ∧ (j : Int) ≤ 3; omega), (by show N ≤ 1000000; omega), (by show 0 ≤ 1000000; omega), (by show j ≤ 1000000; omega)⟩
        have := PB.out q (n := 200) (by decide)
        show -100 ≤ pk5 f m q 200 - 100 ∧ pk5 f m q 200 - 100 ≤ 100
        omega)
      have HLO : Hid (Lo wr (b + 3) L) := hid1 (by
        rw [← hL]
        exact ⟨HOW.out, World.ownsRow_nil _ _ _ _, HO.out.mono bsz⟩)
      rw [hL] at HRL
      clear hL L2
      go_wp2_with fail
      refine hQ.out _ _ _ _ _ _ _ _ _ _ _ _ _ _ _ _ ?_
      exact ⟨L, HLD.out, HRL.out, HLO.out, BR⟩
attribute [local go_sem ↓] Go.wp_at_zero Go.wp_at_succ
set_option maxHeartbeats 64000000 in
set_option maxRecDepth 100000 in
theorem md_ret (u0 u1 u4 u5 u6 u7 u8 u9 u10 u11 u13 u14 u15 u16 u17 u18 u19 u20 u21 u22 u23 u24 u25 u26 u27 u28 u29 u30 u31 u32 u33 u34 u35 u36 u37 u38 u39 u40 u41 u42 u43 u44 u45 u46 u47 u48 u49 u50 u51 u52 u53 u54 u55 u56 u57 u58 u59 u60 u61 u62 u63 u64 u65 u66 u67 u68 u69 u70 u71 u72 u73 u74 u75 u76 u77 u78 u79 u80 u81 u82 u83 u84 u85 u86 u87 u88 u89 u90 u91 u92 u93 u94 u95 u96 u97 u98 u99 u100 u101 u102 u103 u104 u105 u106 u107 u108 u109 u110 u111 u112 u113 u114 u115 u116 u117 u118 u119 u120 u121 u122 u123 u124 u125 u126 u127 u128 u129 u130 u131 u132 u133 u134 u135 u136 u137 u138 u139 u140 u141 u142 u143 u144 u145 u146 u147 u148 u149 u150 u151 u152 u153 u154 u155 u156 u157 u158 u159 u160 u161 u162 u163 u164 u165 u166 u167 u168 u169 u170 u171 u172 u173 u174 u175 u176 u177 u178 u179 u180 u181 u182 u183 u184 u185 u186 u187 u188 u189 u190 u191 u192 u193 u194 u195 u196 u197 u198 u199 u200 u201 u202 u203 u204 u205 u206 u207 u208 u209 u210 u211 u212 u213 u214 : Value) (b i uc g12 : Nat) (ua : Option Addr) (lf : Nat → Ly) (L : Ly) (h v c ah H V C : Int) (fs la : Bool) (w z1 wr : World) (Q : Exit → Act → World → Prop)
    (hb0 : w.heap.size = b) (hi3 : i ≤ 3) (HXW : Hid (Below w.heap.size w z1)) (HMS : Hid (MS z1 b H V C h v c lf i ua uc)) (bsz : b + 3 ≤ z1.heap.size) (HLD : Hid (faE L ⟨h, v, c, ah, fs, la⟩ = 0 ∧ L.kd = 2 ∧ L.mw ≤ L.cw ∧ (0 ≤ L.k ∧ L.k ≤ 3) ∧ L.mw ≤ 1000000 ∧ L.mn ≤ 1000000 ∧ L.mb ≤ 1000000)) (HRL : Hid (wr.rowIs g12 45 15 (lyf L))) (HLO : Hid (Lo wr (b + 3) L)) (BR : Below z1.heap.size z1 wr)
    (hQ : Hid (∀ (X : World) (v208 v209 v210 v211 v212 v213 v214 : Value), (∃ a3 c3, X.rowIs b 28 5 (netF nmX H V C (.slice a3 (i + 1) c3)) ∧ X.ownsRow w.heap.size 45 15 (.slice a3 (i + 1) c3) (i + 1) (lyLs (sn lf i L) (i + 1)) ∧ (∀ q, q < i + 1 → Lo X w.heap.size (sn lf i L q) ∧ (sn lf i L q).mw ≤ 1000000 ∧ (sn lf i L q).mn ≤ 1000000 ∧ (sn lf i L q).mb ≤ 1000000) ∧ Below w.heap.size w X) → Q .ret ⟨#[u0, u1, .pointer (some ⟨b, 0, none⟩), .pointer (some ⟨b + 1, 0, none⟩), u4, u5, u6, u7, u8, u9, u10, u11, .pointer (some ⟨g12, 0, none⟩), u13, u14, u15, u16, u17, u18, u19, u20, u21, u22, u23, u24, u25, u26, u27, u28, u29, u30, u31, u32, u33, u34, u35, u36, u37, u38, u39, u40, u41, u42, u43, u44, u45, u46, u47, u48, u49, u50, u51, u52, u53, u54, u55, u56, u57, u58, u59, u60, u61, u62, u63, u64, u65, u66, u67, u68, u69, u70, u71, u72, u73, u74, u75, u76, u77, u78, u79, u80, u81, u82, u83, u84, u85, u86, u87, u88, u89, u90, u91, u92, u93, u94, u95, u96, u97, u98, u99, u100, u101, u102, u103, u104, u105, u106, u107, u108, u109, u110, u111, u112, u113, u114, u115, u116, u117, u118, u119, u120, u121, u122, u123, u124, u125, u126, u127, u128, u129, u130, u131, u132, u133, u134, u135, u136, u137, u138, u139, u140, u141, u142, u143, u144, u145, u146, u147, u148, u149, u150, u151, u152, u153, u154, u155, u156, u157, u158, u159, u160, u161, u162, u163, u164, u165, u166, u167, u168, u169, u170, u171, u172, u173, u174, u175, u176, u177, u178, u179, u180, u181, u182, u183, u184, u185, u186, u187, u188, u189, u190, u191, u192, u193, u194, u195, u196, u197, u198, u199, u200, u201, u202, u203, u204, u205, u206, u207, v208, v209, v210, v211, v212, v213, v214], []⟩ X)) :
    Code.wp Try.prog cd36 Q ⟨#[u0, u1, .pointer (some ⟨b, 0, none⟩), .pointer (some ⟨b + 1, 0, none⟩), u4, u5, u6, u7, u8, u9, u10, u11, .pointer (some ⟨g12, 0, none⟩), u13, u14, u15, u16, u17, u18, u19, u20, u21, u22, u23, u24, u25, u26, u27, u28, u29, u30, u31, u32, u33, u34, u35, u36, u37, u38, u39, u40, u41, u42, u43, u44, u45, u46, u47, u48, u49, u50, u51, u52, u53, u54, u55, u56, u57, u58, u59, u60, u61, u62, u63, u64, u65, u66, u67, u68, u69, u70, u71, u72, u73, u74, u75, u76, u77, u78, u79, u80, u81, u82, u83, u84, u85, u86, u87, u88, u89, u90, u91, u92, u93, u94, u95, u96, u97, u98, u99, u100, u101, u102, u103, u104, u105, u106, u107, u108, u109, u110, u111, u112, u113, u114, u115, u116, u117, u118, u119, u120, u121, u122, u123, u124, u125, u126, u127, u128, u129, u130, u131, u132, u133, u134, u135, u136, u137, u138, u139, u140, u141, u142, u143, u144, u145, u146, u147, u148, u149, u150, u151, u152, u153, u154, u155, u156, u157, u158, u159, u160, u161, u162, u163, u164, u165, u166, u167, u168, u169, u170, u171, u172, u173, u174, u175, u176, u177, u178, u179, u180, u181, u182, u183, u184, u185, u186, u187, u188, u189, u190, u191, u192, u193, u194, u195, u196, u197, u198, u199, u200, u201, u202, u203, u204, u205, u206, u207, u208, u209, u210, u211, u212, u213, u214], []⟩ wr := by
  conv => arg 2; whnf
  have MX := HMS.out.keep BR
  have HMX := hid1 MX
  have n4 : wr.cell? ⟨b + 1, 4, none⟩ = some (.slice ua i uc) := MX.2.1.cell (i := 4) (by decide)
  have HRW := hid1 MX.2.2.2.1
  have HUO := hid1 (fun q (hq : (Value.slice ua i uc).ownBlock = some q) => (HMS.out.2.2.2.1.lt q hq))
  have hXb : b + 3 ≤ wr.heap.size := Nat.le_trans bsz BR.size
  have HBX := hid1 BR
  obtain ⟨l0, l1, l2, l3, l4, l5, l6, l7, l8, l9, l10, l11, l12, l13, l14⟩ := lyf_cells HRL.out
  clear MX BR
  go_upto_region 37 with (at_builtin; refine app_lyD rfl _ _ rfl (b + 3) (.slice ua i uc) (lyLs lf i) i (by go_simp) (own_bl HRW.out (bl_alloc (Below.refl _ _) _)) wr.heap.size L 1 (by go_simp) (lp_new' rfl L _) (by omega) (by simp; omega) ?_; intro v3 y3 own3 gr3; obtain ⟨a3, c3, rfl⟩ := own_isP own3; have RN3 := World.rowIs.of_block HMX.out.2.1 ((gr3.block (b + 1) (by simp; omega) (fun e => by have := HUO.out (b + 1) e.symm; omega)).trans ((bl_alloc (Below.refl wr.heap.size wr) (lyo L)).block (b + 1) (by omega))); have m4 : y3.cell? ⟨b + 1, 4, none⟩ = some (.slice ua i uc) := RN3.cell (i := 4) (by decide); have fz4 := RN3.frozen 4; have HM3 := hid1 (HMX.out.snoc HLO.out HLD.out.2.2.2.2 own3 gr3); have HB3 := hid1 (gr_bel gr3 (show Below w.heap.size w _ from bl_step HXW.out (bl_alloc HBX.out _)) (fun q hq => by have := (HUO.out q hq).1; omega)); clear own3 gr3 RN3)
  refine gen_world (fun Y => MS Y b H V C h v c (sn lf i L) (i + 1) a3 c3 ∧ Below w.heap.size w Y) ⟨HM3.out, bl_set HB3.out (by omega) _⟩ ?_
  clear HM3 HB3 m4 fz4 l0 l1 l2 l3 l4 l5 l6 l7 l8 l9 l10 l11 l12 l13 l14 n4 HRL HRW HMX
  rintro Y ⟨MY, BY⟩
  have HMY := hid1 MY
  have n0 : Y.cell? ⟨b + 1, 0, none⟩ = some (.string nmX) := MY.2.1.cell (i := 0) (by decide)
  have n1 : Y.cell? ⟨b + 1, 1, none⟩ = some (.int .i64 H) := MY.2.1.cell (i := 1) (by decide)
  have n2 : Y.cell? ⟨b + 1, 2, none⟩ = some (.int .i64 V) := MY.2.1.cell (i := 2) (by decide)
  have n3 : Y.cell? ⟨b + 1, 3, none⟩ = some (.int .i64 C) := MY.2.1.cell (i := 3) (by decide)
  have n4 : Y.cell? ⟨b + 1, 4, none⟩ = some (.slice a3 (i + 1) c3) := MY.2.1.cell (i := 4) (by decide)
  have r0 : Y.cell? ⟨b, 0, none⟩ = some (.string ⟨#[]⟩) := MY.1.cell (i := 0) (by decide)
  have r1 : Y.cell? ⟨b, 1, none⟩ = some (.int .i64 0) := MY.1.cell (i := 1) (by decide)
  have r2 : Y.cell? ⟨b, 2, none⟩ = some (.int .i64 0) := MY.1.cell (i := 2) (by decide)
  have r3 : Y.cell? ⟨b, 3, none⟩ = some (.int .i64 0) := MY.1.cell (i := 3) (by decide)
  have r4 : Y.cell? ⟨b, 4, none⟩ = some (.slice none 0 0) := MY.1.cell (i := 4) (by decide)
  have f0 := MY.1.frozen 0
  have f1 := MY.1.frozen 1
  have f2 := MY.1.frozen 2
  have f3 := MY.1.frozen 3
  have f4 := MY.1.frozen 4
  have hb1 : w.heap.size ≤ b := by omega
  clear MY
  go_wp2_with fail
  refine hQ.out _ _ _ _ _ _ _ _ ?_
  refine ⟨a3, c3, netF_all HMY.out.1, ?_, fun q hq => ?_, ?_⟩
  · have := own_setD (c := b) (u := .slice a3 (i + 1) c3) (j := 4) (own_setD (c := b) (u := .int .i64 C) (j := 3) (own_setD (c := b) (u := .int .i64 V) (j := 2) (own_setD (c := b) (u := .int .i64 H) (j := 1) (own_setD (c := b) (u := .string nmX) (j := 0) HMY.out.2.2.2.1 (by omega)) (by omega)) (by omega)) (by omega)) (by omega)
    exact this.mono (by omega)
  · obtain ⟨q1, q2⟩ := HMY.out.2.2.2.2.1 q hq
    refine ⟨?_, q2⟩
    have := ((((q1.set (c := b) (u := .string nmX) (j := 0) (by omega)).set (c := b) (u := .int .i64 H) (j := 1) (by omega)).set (c := b) (u := .int .i64 V) (j := 2) (by omega)).set (c := b) (u := .int .i64 C) (j := 3) (by omega)).set (c := b) (u := .slice a3 (i + 1) c3) (j := 4) (by omega)
    exact this.mono (by omega)
  · exact bl_set (bl_set (bl_set (bl_set (bl_set BY hb1 _) hb1 _) hb1 _) hb1 _) hb1 _
end Go.Proofs.Ytkodihmjjiadnaa.Nn
/- NETWORKS THAT ARE MADE: the walk. -/
namespace Go.Proofs.Ytkodihmjjiadnaa.Nn
open Go.RowKit

set_option maxHeartbeats 64000000 in
set_option maxRecDepth 100000 in
theorem made5_any (ao : Option Addr) (m cap : Nat) (f : Nat → Int) (hm : m ≤ 9223372036854775807) (w : World) (hf : RB w ao m f) :
    Calls Try.prog 7 #[.slice ao m cap] w fun e w' => ∃ (H V C : Int) (M : Nat) (ua : Option Addr) (uc : Nat) (lf : Nat → Ly), e = .returned (ntv (mkN H V C M ua uc lf)) ∧ (1 ≤ H ∧ H ≤ 5) ∧ (1 ≤ V ∧ V ≤ 5) ∧ (1 ≤ C ∧ C ≤ 4) ∧ (1 ≤ M ∧ M ≤ 4) ∧ Mk H V C M M lf ∧ w'.ownsRow w.heap.size 45 15 (.slice ua M uc) M (lyLs lf M) ∧ (∀ j, j < M → Lo w' w.heap.size (lf j) ∧ (lf j).mw ≤ 1000000 ∧ (lf j).mn ≤ 1000000 ∧ (lf j).mb ≤ 1000000) ∧ Below w.heap.size w w' := by
  have CP := hid1 (fun i n hi hn W (hW : Below w.heap.size w W) => pick5_any ao m cap f hm i n hi hn W (hf.keep hW))
  have CW := hid1 (fun N kd hN W (hW : Below w.heap.size w W) => weights5_any ao m cap f hm N kd hN W (hf.keep hW))
  have CN := hid1 (fun N at' hN ha W (hW : Below w.heap.size w W) => norms5_any ao m cap f hm N at' hN ha W (hf.keep hW))
  have PB := hid1 (fun i {n : Int} (hn : 1 ≤ n) => pk5_in f m i hn)
  have HF := hid1 hf
  clear hf
  obtain ⟨b, hb0⟩ : ∃ b, w.heap.size = b := ⟨_, rfl⟩
  have C1 := hid1 (fun W hW => CP.out 0 5 (by decide) (by decide) W hW)
  have C2 := hid1 (fun W hW => CP.out 1 5 (by decide) (by decide) W hW)
  have C3 := hid1 (fun W hW => CP.out 2 4 (by decide) (by decide) W hW)
  have C4 := hid1 (fun W hW => CP.out 3 4 (by decide) (by decide) W hW)
  have h1 := PB.out 0 (n := 5) (by decide)
  have h2 := PB.out 1 (n := 5) (by decide)
  have h3 := PB.out 2 (n := 4) (by decide)
  have h4 := PB.out 3 (n := 4) (by decide)
  generalize pk5 f m 0 5 = y1 at *
  generalize pk5 f m 1 5 = y2 at *
  generalize pk5 f m 2 4 = y3 at *
  generalize pk5 f m 3 4 = y4 at *
  have a1 : IntKind.i64.wrap (1 + y1) = 1 + y1 := by rw [IntKind.wrap_i64]; omega
  have a2 : IntKind.i64.wrap (1 + y2) = 1 + y2 := by rw [IntKind.wrap_i64]; omega
  have a3 : IntKind.i64.wrap (1 + y3) = 1 + y3 := by rw [IntKind.wrap_i64]; omega
  go_enter Try.func7, Try.ntmps7
  go_wp2_with fail
  refine (C1.out _ (by repeat (first | (with_reducible exact Below.refl _ _) | (with_reducible refine bl_alloc ?_ _) | (with_reducible refine Below.drew ?_) | (with_reducible refine bl_drewN ?_ _) | (with_reducible refine bl_set ?_ (by omega) _) | (with_reducible refine bl_step ?_ (by assumption))))).mono ?_
  rintro e z1 ⟨rfl, rfl⟩
  go_wp2_with fail
  refine (C2.out _ (by repeat (first | (with_reducible exact Below.refl _ _) | (with_reducible refine bl_alloc ?_ _) | (with_reducible refine Below.drew ?_) | (with_reducible refine bl_drewN ?_ _) | (with_reducible refine bl_set ?_ (by omega) _) | (with_reducible refine bl_step ?_ (by assumption))))).mono ?_
  rintro e z1 ⟨rfl, rfl⟩
  go_wp2_with fail
  refine (C3.out _ (by repeat (first | (with_reducible exact Below.refl _ _) | (with_reducible refine bl_alloc ?_ _) | (with_reducible refine Below.drew ?_) | (with_reducible refine bl_drewN ?_ _) | (with_reducible refine bl_set ?_ (by omega) _) | (with_reducible refine bl_step ?_ (by assumption))))).mono ?_
  rintro e z1 ⟨rfl, rfl⟩
  go_wp2_with fail
  refine (C4.out _ (by repeat (first | (with_reducible exact Below.refl _ _) | (with_reducible refine bl_alloc ?_ _) | (with_reducible refine Below.drew ?_) | (with_reducible refine bl_drewN ?_ _) | (with_reducible refine bl_set ?_ (by omega) _) | (with_reducible refine bl_step ?_ (by assumption))))).mono ?_
  rintro e z1 ⟨rfl, rfl⟩
  clear C1 C2 C3 C4
  go_upto_region 4 with fail
  obtain ⟨H, hH⟩ : ∃ H, 1 + y1 = H := ⟨_, rfl⟩
  obtain ⟨V, hV⟩ : ∃ V, 1 + y2 = V := ⟨_, rfl⟩
  obtain ⟨C, hC⟩ : ∃ C, 1 + y3 = C := ⟨_, rfl⟩
  have bH : 1 ≤ H ∧ H ≤ 5 := by omega
  have bV : 1 ≤ V ∧ V ≤ 5 := by omega
  have bC : 1 ≤ C ∧ C ≤ 4 := by omega
  obtain ⟨cnt, hcnt⟩ := Int.eq_ofNat_of_zero_le h4.1
  have hc3 : cnt ≤ 3 := by omega
  subst hcnt
  rw [hH, hV, hC]
  clear a1 a2 a3 hH hV hC h1 h2 h3 h4
  refine gen_world (fun X => Below w.heap.size w X ∧ MS X b H V C H V C (fun _ => L0 0 0 0 0 0) 0 none 0) ⟨by repeat (first | (with_reducible exact Below.refl _ _) | (with_reducible refine bl_alloc ?_ _) | (with_reducible refine Below.drew ?_) | (with_reducible refine bl_drewN ?_ _) | (with_reducible refine bl_set ?_ (by omega) _) | (with_reducible refine bl_step ?_ (by assumption))), ms_new hb0 H V C _⟩ ?_
  rintro X ⟨BX, SX⟩
  have HM0 : Hid (Mk H V C (cnt + 1) 0 (fun _ => L0 0 0 0 0 0)) := hid1 ⟨fun j hj => absurd hj (Nat.not_lt_zero j), ⟨bH.1, by show H ≤ _; omega⟩, ⟨bV.1, by show V ≤ _; omega⟩, bC, by show (0 : Int) ≤ 0 ∧ (0 : Int) ≤ _; omega⟩
  have HS0 := hid1 SX
  clear SX
  go_wp2_with fail
  go_loopw [6] (fun iv wr => ∃ (i : Nat) (lf : Nat → Ly) (ua : Option Addr) (uc : Nat), i ≤ cnt ∧ iv = .int .i64 i ∧ Below w.heap.size w wr ∧ Hid (Mk H V C (cnt + 1) i lf) ∧ Hid (MS wr b H V C (sp (mkN H V C (cnt + 1) none 0 lf) i).h (sp (mkN H V C (cnt + 1) none 0 lf) i).v (sp (mkN H V C (cnt + 1) none 0 lf) i).c lf i ua uc)) (fun iv _ => cnt - (intOf iv).toNat)
  case atStart => exact ⟨0, _, none, 0, Nat.zero_le _, rfl, BX, HM0, HS0⟩
  case round =>
    clear BX HM0 HS0 X
    obtain ⟨i, lf, ua, uc, hi, rfl, BX, HMK, HMS⟩ := hrel
    have ii0 : (0 : Int) ≤ (i : Int) := by omega
    by_cases hlt : i < cnt
    · have ii : (i : Int) < (cnt : Int) := by omega
      have HSM := hid1 (HMK.out.sms (by omega))
      have HLA : Hid ((sp (mkN H V C (cnt + 1) none 0 lf) i).la = false ∧ (sp (mkN H V C (cnt + 1) none 0 lf) i).fs = decide (i = 0)) := hid1 ⟨by rw [(la_sp _ i).1]; simp; omega, (la_sp _ i).2⟩
      have HEND : Hid (∀ (L : Ly) (c' : Int), Ld L (sp (mkN H V C (cnt + 1) none 0 lf) i) c' → Mk H V C (cnt + 1) (i + 1) (sn lf i L) ∧ (sp (mkN H V C (cnt + 1) none 0 (sn lf i L)) (i + 1)).h = afH L (sp (mkN H V C (cnt + 1) none 0 lf) i).h ∧ (sp (mkN H V C (cnt + 1) none 0 (sn lf i L)) (i + 1)).v = afV L (sp (mkN H V C (cnt + 1) none 0 lf) i).v ∧ (sp (mkN H V C (cnt + 1) none 0 (sn lf i L)) (i + 1)).c = c') := hid1 (fun L c' h => by
        obtain ⟨d1, d2, d3, d4, d5, -⟩ := h
        have := HMK.out.snoc (by omega) d1 d2 d3 d4
        rw [d5]; exact this)
      generalize sp (mkN H V C (cnt + 1) none 0 lf) i = S at *
      obtain ⟨h, v, c, ah, fs, la⟩ := S
      dsimp only at HSM HLA HEND HMS
      obtain ⟨sm1, sm2, sm3, sm4⟩ := HSM.out
      dsimp only at sm1 sm2 sm3
      clear HMK sm4
      obtain ⟨p, hp⟩ : ∃ p, 4 + 8 * (i : Int) = p := ⟨_, rfl⟩
      have w1 : IntKind.i64.wrap (8 * (i : Int)) = 8 * (i : Int) := by rw [IntKind.wrap_i64]; omega
      have w2 : IntKind.i64.wrap (4 + 8 * (i : Int)) = p := by rw [IntKind.wrap_i64]; omega
      have hpb : 0 ≤ p ∧ p ≤ 100 := by omega
      have wp1 : IntKind.i64.wrap (p + 1) = p + 1 := by rw [IntKind.wrap_i64]; omega
      have wp2 : IntKind.i64.wrap (p + 2) = p + 2 := by rw [IntKind.wrap_i64]; omega
      have wp3 : IntKind.i64.wrap (p + 3) = p + 3 := by rw [IntKind.wrap_i64]; omega
      have wp4 : IntKind.i64.wrap (p + 4) = p + 4 := by rw [IntKind.wrap_i64]; omega
      have wp5 : IntKind.i64.wrap (p + 5) = p + 5 := by rw [IntKind.wrap_i64]; omega
      have wp6 : IntKind.i64.wrap (p + 6) = p + 6 := by rw [IntKind.wrap_i64]; omega
      have wp7 : IntKind.i64.wrap (p + 7) = p + 7 := by rw [IntKind.wrap_i64]; omega
      clear hp
      have s0 : wr.cell? ⟨b + 1 + 1, 0, none⟩ = some (.int .i64 h) := HMS.out.2.2.1.cell (i := 0) (by decide)
      have s1 : wr.cell? ⟨b + 1 + 1, 1, none⟩ = some (.int .i64 v) := HMS.out.2.2.1.cell (i := 1) (by decide)
      have s2 : wr.cell? ⟨b + 1 + 1, 2, none⟩ = some (.int .i64 c) := HMS.out.2.2.1.cell (i := 2) (by decide)
      have C1 := hid1 (fun W hW => CP.out p h (by omega) (by omega) W hW)
      have C2 := hid1 (fun W hW => CP.out (p + 1) v (by omega) (by omega) W hW)
      have C3 := hid1 (fun W hW => CP.out (p + 2) 3 (by omega) (by decide) W hW)
      have C4 := hid1 (fun W hW => CP.out (p + 3) 3 (by omega) (by decide) W hW)
      have h1 := PB.out p (n := h) (by omega)
      have h2 := PB.out (p + 1) (n := v) (by omega)
      have h3 := PB.out (p + 2) (n := 3) (by decide)
      have h4 := PB.out (p + 3) (n := 3) (by decide)
      generalize pk5 f m p h = y1 at *
      generalize pk5 f m (p + 1) v = y2 at *
      generalize pk5 f m (p + 2) 3 = y3 at *
      generalize pk5 f m (p + 3) 3 = y4 at *
      have a1 : IntKind.i64.wrap (1 + y1) = 1 + y1 := by rw [IntKind.wrap_i64]; omega
      have a2 : IntKind.i64.wrap (1 + y2) = 1 + y2 := by rw [IntKind.wrap_i64]; omega
      have a3 : IntKind.i64.wrap (1 + y3) = 1 + y3 := by rw [IntKind.wrap_i64]; omega
      have a4 : IntKind.i64.wrap (1 + y4) = 1 + y4 := by rw [IntKind.wrap_i64]; omega
      go_upto_region 8 with fail
      have HBX := hid1 BX
      refine md_r8 _ _ _ _ _ _ _ _ _ _ _ _ _ _ _ _ _ _ _ _ _ _ _ _ _ _ _ _ _ _ _ _ _ _ _ _ _ _ _ _ _ _ _ _ _ _ _ _ _ _ _ _ _ _ _ _ _ _ _ _ _ _ _ _ _ _ _ _ _ _ _ _ _ _ _ _ _ _ _ _ _ _ _ _ _ _ _ _ _ _ _ _ _ _ _ _ _ _ _ _ _ _ _ _ _ _ _ _ _ _ _ _ _ _ _ _ _ _ _ _ _ _ _ _ _ _ _ _ _ _ _ _ _ _ _ _ _ _ _ _ _ _ _ _ _ _ _ _ _ _ _ _ _ _ _ _ _ _ _ _ _ _ _ _ _ _ _ _ _ _ _ _ _ _ _ _ _ _ _ _ _ _ _ _ _ _ _ _ _ _ _ _ _ _ _ _ _ _ _ _ _ _ _ _ _ _ _ _ _ _ _ _ ao m cap b p h v y1 y2 y3 y4 w wr _ C1 C2 C3 C4 HBX s0 s1 wp1 wp2 wp3 a1 a2 a3 a4 (hid1 ?_)
      intro wc g8 v37 v38 v39 v40 v41 v42 v43 v44 v45 v46 v47 v48 v49 v50 v51 v52 v53 v54 v55 v56 v57 v58 v59 v60 hg8 RW8 B8
      have HW8 := hid1 RW8
      clear RW8
      have BX8 := bl_step BX B8
      have lg8 := HW8.out.lt
      have bsz : b + 3 ≤ wr.heap.size := HMS.out.2.2.2.2.2
      have HXW := HBX
      clear BX HBX s0 s1 s2 C1 C2 C3 C4 a1 a2 a3 a4 w1 w2 wp1 wp2 wp3
      obtain ⟨r, hr⟩ : ∃ r, 1 + y1 = r := ⟨_, rfl⟩
      obtain ⟨s, hs⟩ : ∃ r, 1 + y2 = r := ⟨_, rfl⟩
      obtain ⟨sy, hsy⟩ : ∃ r, 1 + y3 = r := ⟨_, rfl⟩
      obtain ⟨sx, hsx⟩ : ∃ r, 1 + y4 = r := ⟨_, rfl⟩
      rw [hr, hs, hsy, hsx] at HW8
      have br : 1 ≤ r ∧ r ≤ h := by omega
      have bs : 1 ≤ s ∧ s ≤ v := by omega
      have bsy : 1 ≤ sy ∧ sy ≤ 3 := by omega
      have bsx : 1 ≤ sx ∧ sx ≤ 3 := by omega
      clear hr hs hsy hsx h1 h2 h3 h4
      have C5 := hid1 (fun W hW => CP.out (p + 4) 3 (by omega) (by decide) W hW)
      have h5 := PB.out (p + 4) (n := 3) (by decide)
      generalize pk5 f m (p + 4) 3 = y5 at *
      have a5 : IntKind.i64.wrap (1 + y5) = 1 + y5 := by rw [IntKind.wrap_i64]; omega
      have HBX := hid1 BX8
      go_upto_region 9 with fail
      refine md_r9 _ _ _ _ _ _ _ _ _ _ _ _ _ _ _ _ _ _ _ _ _ _ _ _ _ _ _ _ _ _ _ _ _ _ _ _ _ _ _ _ _ _ _ _ _ _ _ _ _ _ _ _ _ _ _ _ _ _ _ _ _ _ _ _ _ _ _ _ _ _ _ _ _ _ _ _ _ _ _ _ _ _ _ _ _ _ _ _ _ _ _ _ _ _ _ _ _ _ _ _ _ _ _ _ _ _ _ _ _ _ _ _ _ _ _ _ _ _ _ _ _ _ _ _ _ _ _ _ _ _ _ _ _ _ _ _ _ _ _ _ _ _ _ _ _ _ _ _ _ _ _ _ _ _ _ _ _ _ _ _ _ _ _ _ _ _ _ _ _ _ _ _ _ _ _ _ _ _ _ _ _ _ _ _ _ _ _ _ _ _ _ _ _ _ _ _ _ _ _ _ _ _ _ _ _ _ _ _ _ _ _ _ ao m cap g8 p r s sy sx y5 w wc _ C5 HBX HW8 wp4 a5 (hid1 ?_)
      intro wc g9 v61 v62 v63 v64 v65 v66 v67 hg9 RL9 B9
      have HL9 := hid1 RL9
      clear RL9
      obtain ⟨kd0, hk0⟩ : ∃ r, 1 + y5 = r := ⟨_, rfl⟩
      rw [hk0] at HL9
      have bk0 : 1 ≤ kd0 ∧ kd0 ≤ 3 := by omega
      have BR := bl_step B8 B9
      have hg9' : wr.heap.size ≤ g9 := Nat.le_trans B8.size hg9
      replace HW8 := hid1 (World.rowIs.of_block HW8.out (B9.block _ HW8.out.lt))
      have lg9 := HL9.out.lt
      have hg89 : g8 ≠ g9 := by omega
      clear B8 B9 BX8 hk0 h5 C5 a5 HBX hg9
      have l0 : wc.cell? ⟨g9, 0, none⟩ = some (.int .i64 kd0) := HL9.out.cell (i := 0) (by decide)
      obtain ⟨tb, htb⟩ : ∃ tb, decide (i = 0 ∧ kd0 = 3) = tb := ⟨_, rfl⟩
      have HTB := hid1 htb
      clear htb
      go_upto_region 10 with fail
      go_cut [74] from 68 to 74 (fun s74 wx => s74 = .bool tb ∧ wx = wc)
      case first =>
        by_cases hi0 : i = 0
        · have e1 : ((i : Int) == 0) = true := by simp [hi0]
          by_cases hk3 : kd0 = 3
          · have e2 : (kd0 == 3) = true := by simp [hk3]
            have e3 : tb = true := by rw [← HTB.out]; simp [hi0, hk3]
            clear hi0 hk3 HTB
            subst e3
            go_wp2_with fail
            go_meet
            exact ⟨rfl, rfl⟩
          · have e2 : (kd0 == 3) = false := by simp [hk3]
            have e3 : tb = false := by rw [← HTB.out]; simp [hk3]
            clear hi0 hk3 HTB
            subst e3
            go_wp2_with fail
            go_meet
            exact ⟨rfl, rfl⟩
        · have e1 : ((i : Int) == 0) = false := by simp [hi0]
          have e3 : tb = false := by rw [← HTB.out]; simp [hi0]
          clear hi0 HTB
          subst e3
          go_wp2_with fail
          go_meet
          exact ⟨rfl, rfl⟩
      case rest =>
        obtain ⟨rfl, rfl⟩ := hcut
        have fz0 := HL9.out.frozen 0
        go_upto_if 74 with fail
        go_cut [] from 75 to 75 (fun wx => ∃ kd, (1 ≤ kd ∧ kd ≤ 3) ∧ Hid (i = 0 → kd ≠ 3) ∧ Hid (wx.rowIs g9 45 15 (lyf (L0 kd r s sy sx))) ∧ Hid (wx.rowIs g8 40 8 (wnF r s sy sx)) ∧ Below wr.heap.size wr wx)
        case first =>
          cases tb
          · have hne : i = 0 → kd0 ≠ 3 := fun h1 h2 => by have := HTB.out; simp [h1, h2] at this
            go_wp2_with fail
            go_meet
            exact ⟨kd0, bk0, hid1 hne, HL9, HW8, BR⟩
          · go_wp2_with fail
            go_meet
            exact ⟨1, by decide, hid1 (fun _ => by decide), hid1 (lyf_set HL9.out _ 0 _ ⟨rfl, rfl, rfl, rfl, rfl, rfl, rfl, rfl, rfl, rfl, rfl, rfl, rfl, rfl, rfl⟩), hid1 (HW8.out.setOther hg89 _), bl_set BR hg9' _⟩
        case rest =>
          clear HL9 HW8 BR HTB fz0 l0 bk0 kd0
          obtain ⟨kd, bk, HNZ, HL9, HW8, BR⟩ := hcut
          have l0 : wc.cell? ⟨g9, 0, none⟩ = some (.int .i64 kd) := HL9.out.cell (i := 0) (by decide)
          have s2 : wc.cell? ⟨b + 1 + 1, 2, none⟩ = some (.int .i64 c) := (HMS.out.keep BR).2.2.1.cell (i := 2) (by decide)
          obtain ⟨tb, htb⟩ : ∃ tb, (kd != 3) = tb := ⟨_, rfl⟩
          have HTB := hid1 htb
          go_upto_if 80 with fail
          go_cut [10] from 81 to 100 (fun s10 wx => ∃ (wt : Int) (K : Nat) (an : Option Addr) (cn : Nat) (ns : Nat → Nat → Int) (c' : Int), s10 = .int .i64 c' ∧ Hid ((kd = 3 ∧ wt = 0 ∧ K = 0 ∧ c' = c) ∨ (kd ≠ 3 ∧ (wt = 1 ∨ wt = 2) ∧ 1 ≤ K ∧ K ≤ 3 ∧ c' = K ∧ ∀ j, j < K → noE (ns j 0) (ns j 1) (ns j 2) (ns j 3) (ns j 4) (ns j 5) (ns j 6) (ns j 7) = 0)) ∧ Hid (wx.rowIs g9 45 15 (lyf (L1 kd wt K r s sy sx an cn ns))) ∧ Hid (wx.ownsRow (b + 3) 71 8 (.slice an K cn) K (nmL ns K)) ∧ Hid (wx.rowIs g8 40 8 (wnF r s sy sx)) ∧ Below wr.heap.size wr wx)
          case first =>
            cases tb
            · have hk3 : kd = 3 := by simpa using htb
              clear htb
              go_wp2_with fail
              go_meet
              exact ⟨0, 0, none, 0, fun _ _ => 0, c, rfl, hid1 (.inl ⟨hk3, rfl, rfl, rfl⟩), HL9, hid1 (World.ownsRow_nil _ _ _ _), HW8, BR⟩
            · have hk3 : kd ≠ 3 := by simpa using htb
              have HK3 := hid1 hk3
              clear htb hk3
              refine wp_cond_true rfl ?_
              refine md_kinds _ _ _ _ _ _ _ _ _ _ _ _ _ _ _ _ _ _ _ _ _ _ _ _ _ _ _ _ _ _ _ _ _ _ _ _ _ _ _ _ _ _ _ _ _ _ _ _ _ _ _ _ _ _ _ _ _ _ _ _ _ _ _ _ _ _ _ _ _ _ _ _ _ _ _ _ _ _ _ _ _ _ _ _ _ _ _ _ _ _ _ _ _ _ _ _ _ _ _ _ _ _ _ _ _ _ _ _ _ _ _ _ _ _ _ _ _ _ _ _ _ _ _ _ _ _ _ _ _ _ _ _ _ _ _ _ _ _ _ _ _ _ _ _ _ _ _ _ _ _ _ _ _ _ _ _ _ _ _ _ _ _ _ _ _ _ _ _ _ _ _ _ _ _ _ _ _ _ _ _ _ _ _ _ _ _ _ _ _ _ _ _ _ _ _ _ _ _ _ _ _ _ _ _ _ _ _ _ _ _ _ _ ao m cap f hm w HF.out b g8 g9 p kd r s sy sx wr wc _ hpb wp5 wp6 HXW bsz HL9 HW8 BR hg9' hg89 (hid1 ?_)
              rintro X s10 v81 v82 v83 v84 v85 v86 v87 v88 v89 v90 v91 v92 v93 v94 v95 v96 v97 v98 v99 v100 ⟨wt, K, an, cn, ns, rfl, HKD, HRL, HON, HRW, BX⟩
              refine kmeet_p (by assumption) ?_
              go_meet
              exact ⟨wt, K, an, cn, ns, K, rfl, hid1 (.inr ⟨HK3.out, HKD.out.1, HKD.out.2.1, HKD.out.2.2.1, rfl, HKD.out.2.2.2⟩), HRL, HON, HRW, BX⟩
          case rest =>
            clear HL9 HW8 BR HTB htb l0 s2 wp4 wp5
            obtain ⟨wt, K, an, cn, ns, c', rfl, HKD, HL9, HON, HW8, BR⟩ := hcut
            have l0 : wc.cell? ⟨g9, 0, none⟩ = some (.int .i64 kd) := HL9.out.cell (i := 0) (by decide)
            go_upto_block 2 with fail
            go_cut [] from 103 to 166 (fun wx => ∃ L, Ld L ⟨h, v, c, ah, fs, la⟩ c' ∧ wx.rowIs g9 45 15 (lyf L) ∧ Lo wx (b + 3) L ∧ Below wr.heap.size wr wx)
            case first =>
              by_cases h1 : kd = 1
              · have hq := HKD.out.resolve_left (fun h => by omega)
                refine md_sw1 _ _ _ _ _ _ _ _ _ _ _ _ _ _ _ _ _ _ _ _ _ _ _ _ _ _ _ _ _ _ _ _ _ _ _ _ _ _ _ _ _ _ _ _ _ _ _ _ _ _ _ _ _ _ _ _ _ _ _ _ _ _ _ _ _ _ _ _ _ _ _ _ _ _ _ _ _ _ _ _ _ _ _ _ _ _ _ _ _ _ _ _ _ _ _ _ _ _ _ _ _ _ _ _ _ _ _ _ _ _ _ _ _ _ _ _ _ _ _ _ _ _ _ _ _ _ _ _ _ _ _ _ _ _ _ _ _ _ _ _ _ _ _ _ _ _ _ _ _ _ _ _ _ _ _ _ _ _ _ _ _ _ _ _ _ _ _ _ _ _ _ _ _ _ _ _ _ _ _ _ _ _ _ _ _ _ _ _ _ _ _ _ _ _ _ _ _ _ _ _ _ _ _ _ _ _ _ _ _ ao m cap f hm w HF.out b g8 g9 K cn i uc ua an ns lf p kd wt r s sy sx h v c c' ah H V C fs la wr wc _ hpb wp6 wp7 HXW bsz HMS HSM HLA sm1 sm2 sm3 br bs bsy bsx HL9 HON HW8 BR hg9' hg89 (hid1 hq.2) h1 (hid1 ?_)
                intro X v103 v104 v105 v106 v107 v108 v109 v110 v111 v112 v113 v114 v115 v116 v117 v118 v119 v120 v121 v122 v123 v124 v125 v126 v127 v128 v129 v130 v131 v132 v133 v134 v135 v136 v137 v138 v139 v140 v141 v142 v143 v144 v145 v146 v147 v148 v149 v150 v151 v152 v153 v154 v155 v156 v157 v158 v159 v160 v161 v162 v163 v164 v165 v166 hX
                refine kmeet_p (by assumption) ?_
                go_meet
                exact hX
              · by_cases h2 : kd = 2
                · have hq := HKD.out.resolve_left (fun h => by omega)
                  refine md_sw2 _ _ _ _ _ _ _ _ _ _ _ _ _ _ _ _ _ _ _ _ _ _ _ _ _ _ _ _ _ _ _ _ _ _ _ _ _ _ _ _ _ _ _ _ _ _ _ _ _ _ _ _ _ _ _ _ _ _ _ _ _ _ _ _ _ _ _ _ _ _ _ _ _ _ _ _ _ _ _ _ _ _ _ _ _ _ _ _ _ _ _ _ _ _ _ _ _ _ _ _ _ _ _ _ _ _ _ _ _ _ _ _ _ _ _ _ _ _ _ _ _ _ _ _ _ _ _ _ _ _ _ _ _ _ _ _ _ _ _ _ _ _ _ _ _ _ _ _ _ _ _ _ _ _ _ _ _ _ _ _ _ _ _ _ _ _ _ _ _ _ _ _ _ _ _ _ _ _ _ _ _ _ _ _ _ _ _ _ _ _ _ _ _ _ _ _ _ _ _ _ _ _ _ _ _ _ _ _ _ ao m cap f hm w HF.out b g8 g9 K cn i uc ua an ns lf p kd wt r s sy sx h v c c' ah H V C fs la wr wc _ hpb wp6 wp7 HXW bsz HMS HSM HLA sm1 sm2 sm3 br bs bsy bsx HL9 HON HW8 BR hg9' hg89 (hid1 hq.2) h2 (hid1 ?_)
                  intro X v103 v104 v105 v106 v107 v108 v109 v110 v111 v112 v113 v114 v115 v116 v117 v118 v119 v120 v121 v122 v123 v124 v125 v126 v127 v128 v129 v130 v131 v132 v133 v134 v135 v136 v137 v138 v139 v140 v141 v142 v143 v144 v145 v146 v147 v148 v149 v150 v151 v152 v153 v154 v155 v156 v157 v158 v159 v160 v161 v162 v163 v164 v165 v166 hX
                  refine kmeet_p (by assumption) ?_
                  go_meet
                  exact hX
                · have h3 : kd = 3 := by omega
                  have hq := HKD.out.resolve_right (fun h => h.1 h3)
                  refine md_sw3 _ _ _ _ _ _ _ _ _ _ _ _ _ _ _ _ _ _ _ _ _ _ _ _ _ _ _ _ _ _ _ _ _ _ _ _ _ _ _ _ _ _ _ _ _ _ _ _ _ _ _ _ _ _ _ _ _ _ _ _ _ _ _ _ _ _ _ _ _ _ _ _ _ _ _ _ _ _ _ _ _ _ _ _ _ _ _ _ _ _ _ _ _ _ _ _ _ _ _ _ _ _ _ _ _ _ _ _ _ _ _ _ _ _ _ _ _ _ _ _ _ _ _ _ _ _ _ _ _ _ _ _ _ _ _ _ _ _ _ _ _ _ _ _ _ _ _ _ _ _ _ _ _ _ _ _ _ _ _ _ _ _ _ _ _ _ _ _ _ _ _ _ _ _ _ _ _ _ _ _ _ _ _ _ _ _ _ _ _ _ _ _ _ _ _ _ _ _ _ _ _ _ _ _ _ _ _ _ _ ao m cap f hm w HF.out b g8 g9 K cn i uc ua an ns lf p kd wt r s sy sx h v c c' ah H V C fs la wr wc _ hpb wp6 wp7 HXW bsz HMS HSM HLA sm1 sm2 sm3 br bs bsy bsx HL9 HON HW8 BR hg9' hg89 (hid1 hq.2) HNZ h3 (hid1 ?_)
                  intro X v103 v104 v105 v106 v107 v108 v109 v110 v111 v112 v113 v114 v115 v116 v117 v118 v119 v120 v121 v122 v123 v124 v125 v126 v127 v128 v129 v130 v131 v132 v133 v134 v135 v136 v137 v138 v139 v140 v141 v142 v143 v144 v145 v146 v147 v148 v149 v150 v151 v152 v153 v154 v155 v156 v157 v158 v159 v160 v161 v162 v163 v164 v165 v166 hX
                  refine kmeet_p (by assumption) ?_
                  go_meet
                  exact hX
            case rest =>
              obtain ⟨L, LD, RL, LO, BX⟩ := hcut
              refine kgo (by assumption) ?_
              refine md_tail _ _ _ _ _ _ _ _ _ _ _ _ _ _ _ _ _ _ _ _ _ _ _ _ _ _ _ _ _ _ _ _ _ _ _ _ _ _ _ _ _ _ _ _ _ _ _ _ _ _ _ _ _ _ _ _ _ _ _ _ _ _ _ _ _ _ _ _ _ _ _ _ _ _ _ _ _ _ _ _ _ _ _ _ _ _ _ _ _ _ _ _ _ _ _ _ _ _ _ _ _ _ _ _ _ _ _ _ _ _ _ _ _ _ _ _ _ _ _ _ _ _ _ _ _ _ _ _ _ _ _ _ _ _ _ _ _ _ _ _ _ _ _ _ _ _ _ _ _ _ _ _ _ _ _ _ _ _ _ _ _ _ _ _ _ _ _ _ _ _ _ _ _ _ _ _ _ _ _ _ _ _ _ _ _ _ _ _ _ _ _ _ _ _ _ _ _ _ _ _ _ _ _ _ _ _ _ _ _ _ _ b g9 i uc ua lf L h v c c' ah H V C fs la w wr wc _ HXW (by omega) bsz hg9' HMS HSM sm1 sm2 (by omega) LD RL LO BX (hid1 ?_)
              intro Y a3 c3 v167 v168 v169 v170 v171 v172 v173 v174 v175 v176 MY BY
              have HE := hid1 (HEND.out L c' LD)
              have HMY := hid1 MY
              clear LD RL LO BX MY
              go_wp2_with fail
              exact ⟨⟨i + 1, sn lf i L, a3, c3, by omega, by go_num, BY, hid1 HE.out.1, hid1 (by rw [HE.out.2.1, HE.out.2.2.1, HE.out.2.2.2]; exact HMY.out)⟩, by simp [intOf]; omega⟩
    · skip
      have hic : i = cnt := by omega
      subst hic
      have HSM := hid1 (HMK.out.sms (by omega))
      have HLA : Hid ((sp (mkN H V C (i + 1) none 0 lf) i).la = true) := hid1 (by rw [(la_sp _ i).1]; simp)
      have HEND : Hid (∀ (L : Ly), faE L (sp (mkN H V C (i + 1) none 0 lf) i) = 0 → L.kd = 2 → L.mw ≤ L.cw → (0 ≤ L.k ∧ L.k ≤ 3) → Mk H V C (i + 1) (i + 1) (sn lf i L)) := hid1 (fun L d1 d2 d3 d4 => (HMK.out.snoc (by omega) d1 d3 d4 (.inl d2)).1)
      generalize sp (mkN H V C (i + 1) none 0 lf) i = S at *
      obtain ⟨h, v, c, ah, fs, la⟩ := S
      dsimp only at HSM HLA HEND HMS
      obtain ⟨sm1, sm2, sm3, sm4⟩ := HSM.out
      dsimp only at sm1 sm2 sm3
      clear HMK sm4
      have C1 := hid1 (fun W hW => CP.out 1 3 (by decide) (by decide) W hW)
      have h1 := PB.out 1 (n := 3) (by decide)
      generalize pk5 f m 1 3 = y1 at *
      obtain ⟨K, hK⟩ := Int.eq_ofNat_of_zero_le (show 0 ≤ 1 + y1 by omega)
      have a1 : IntKind.i64.wrap (1 + y1) = (K : Int) := by rw [IntKind.wrap_i64]; omega
      have bK : 1 ≤ K ∧ K ≤ 3 := by omega
      clear hK h1 hlt
      go_upto_region 30 with fail
      refine gen_world (fun X => MS X b H V C h v c lf i ua uc ∧ Below w.heap.size w X) ⟨HMS.out, BX⟩ ?_
      clear HMS BX
      rintro W0 ⟨MW, BX⟩
      have HMS := hid1 MW
      have HXW := hid1 BX
      have bsz : b + 3 ≤ W0.heap.size := MW.2.2.2.2.2
      have s0 : W0.cell? ⟨b + 1 + 1, 0, none⟩ = some (.int .i64 h) := MW.2.2.1.cell (i := 0) (by decide)
      have s1 : W0.cell? ⟨b + 1 + 1, 1, none⟩ = some (.int .i64 v) := MW.2.2.1.cell (i := 1) (by decide)
      have s2 : W0.cell? ⟨b + 1 + 1, 2, none⟩ = some (.int .i64 c) := MW.2.2.1.cell (i := 2) (by decide)
      clear MW
      have m1 := mul3_le (a := K) (b := h) (c := 1) (A := 3) (B := 15) (C := 1) (by omega) (by omega) (by omega)
      have m2 := mul3_le (a := K) (b := h) (c := v) (A := 3) (B := 15) (C := 15) (by omega) (by omega) (by omega)
      have m3 := mul3_le (a := (K : Int) * h) (b := v) (c := c) (A := 45) (B := 15) (C := 4) (by omega) (by omega) (by omega)
      obtain ⟨N, hN⟩ := Int.eq_ofNat_of_zero_le m3.1
      have HNE : Hid ((N : Int) = K * (h * v * c)) := hid1 (by rw [← hN, Int.mul_assoc, Int.mul_assoc, Int.mul_assoc])
      have p1 : IntKind.i64.wrap ((K : Int) * h) = K * h := by rw [IntKind.wrap_i64]; omega
      have p2 : IntKind.i64.wrap ((K : Int) * h * v) = K * h * v := by rw [IntKind.wrap_i64]; omega
      have p3 : IntKind.i64.wrap ((K : Int) * h * v * c) = N := by rw [IntKind.wrap_i64, hN]; omega
      have hNb : N ≤ 10000 := by omega
      clear m1 m2 m3 hN
      go_wp2_with fail
      refine (C1.out _ HXW.out).mono ?_
      rintro e z1 ⟨rfl, rfl⟩
      go_wp2_with fail
      refine (CW.out N 2 (by omega) _ HXW.out).mono ?_
      rintro e z8 ⟨vw, rfl, own, hb⟩
      obtain ⟨aw, cw, rfl⟩ := own_isP own
      obtain ⟨g12, hg12⟩ : ∃ g, z8.heap.size = g := ⟨_, rfl⟩
      go_upto_region 32 with fail
      refine gen_world (fun X => X.rowIs g12 45 15 (lyf (LE f m K aw N cw none 0 0)) ∧ X.ownsRow (b + 3) 49 1 (.slice aw N cw) N (i8L (wgL f m 2 N)) ∧ Below z1.heap.size z1 X ∧ z1.heap.size ≤ g12) ⟨by rw [← hg12]; exact lyf_new z8 (LE f m K aw N cw none 0 0) _, (own.mono bsz).alloc _, bl_alloc hb _, by rw [← hg12]; exact hb.size⟩ ?_
      clear own hb hg12 s0 s1 s2 p1 p2 p3 a1
      rintro X ⟨RL, OW, BR, hg12⟩
      have HRL := hid1 RL
      have HOW := hid1 OW
      clear RL OW
      go_cut [13] from 214 to 214 (fun s13 wx => s13 = .int .i64 0 ∧ wx = X)
      case first =>
        go_wp2_with fail
        go_meet
        exact ⟨rfl, rfl⟩
      case rest =>
        obtain ⟨rfl, rfl⟩ := hcut
        refine kgo (by assumption) ?_
        refine md_b3 _ _ _ _ _ _ _ _ _ _ _ _ _ _ _ _ _ _ _ _ _ _ _ _ _ _ _ _ _ _ _ _ _ _ _ _ _ _ _ _ _ _ _ _ _ _ _ _ _ _ _ _ _ _ _ _ _ _ _ _ _ _ _ _ _ _ _ _ _ _ _ _ _ _ _ _ _ _ _ _ _ _ _ _ _ _ _ _ _ _ _ _ _ _ _ _ _ _ _ _ _ _ _ _ _ _ _ _ _ _ _ _ _ _ _ _ _ _ _ _ _ _ _ _ _ _ _ _ _ _ _ _ _ _ _ _ _ _ _ _ _ _ _ _ _ _ _ _ _ _ _ _ _ _ _ _ _ _ _ _ _ _ _ _ _ _ _ _ _ _ _ _ _ _ _ _ _ _ _ _ _ _ _ _ _ _ _ _ _ _ _ _ _ _ _ _ _ _ _ _ _ _ _ _ _ _ _ _ _ _ _ ao m cap f hm w HF.out b K N cw g12 aw h v c ah fs la z1 _ _ bK hNb HNE HSM HLA HXW bsz HRL HOW BR hg12 (hid1 ?_)
        rintro X2 v13 v194 v195 v196 v197 v198 v199 v200 v201 v202 v203 v204 v205 v206 v207 ⟨L, LD, RL2, LO2, BR2⟩
        refine kgo (by assumption) ?_
        refine md_ret _ _ _ _ _ _ _ _ _ _ _ _ _ _ _ _ _ _ _ _ _ _ _ _ _ _ _ _ _ _ _ _ _ _ _ _ _ _ _ _ _ _ _ _ _ _ _ _ _ _ _ _ _ _ _ _ _ _ _ _ _ _ _ _ _ _ _ _ _ _ _ _ _ _ _ _ _ _ _ _ _ _ _ _ _ _ _ _ _ _ _ _ _ _ _ _ _ _ _ _ _ _ _ _ _ _ _ _ _ _ _ _ _ _ _ _ _ _ _ _ _ _ _ _ _ _ _ _ _ _ _ _ _ _ _ _ _ _ _ _ _ _ _ _ _ _ _ _ _ _ _ _ _ _ _ _ _ _ _ _ _ _ _ _ _ _ _ _ _ _ _ _ _ _ _ _ _ _ _ _ _ _ _ _ _ _ _ _ _ _ _ _ _ _ _ _ _ _ _ _ _ _ _ _ _ _ _ _ _ _ _ _ b i uc g12 ua lf L h v c ah H V C fs la w z1 _ _ hb0 (by omega) HXW HMS bsz (hid1 LD) (hid1 RL2) (hid1 LO2) BR2 (hid1 ?_)
        rintro Y v208 v209 v210 v211 v212 v213 v214 ⟨a3, c3, RN, RO, RL, BY⟩
        have HK := HEND.out L LD.1 LD.2.1 LD.2.2.1 LD.2.2.2.1
        refine bodyPost_ret (results_cell_row Try.results7 _ _ b 28 _ (0, 0) _ (by go_simp) (row5 RN) Try.underlying28 rfl (by kernel_rfl)) rfl ?_
        exact ⟨H, V, C, i + 1, a3, c3, sn lf i L, rfl, bH, bV, bC, by omega, HK, RO, RL, BY⟩
end Go.Proofs.Ytkodihmjjiadnaa.Nn
/- NETWORKS: THE CHAPTER'S EXAMPLE, MADE. -/
namespace Go.Proofs.Ytkodihmjjiadnaa.Nn
open Go.RowKit

set_option maxHeartbeats 1600000 in
set_option maxRecDepth 100000 in
theorem example_any (w : World) : Calls Try.prog 18 #[] w fun e w' => e = .returned (ntv (exN w.heap.size 3)) ∧ ExB w' w.heap.size 3 ∧ Below w.heap.size w w' := by
  obtain ⟨B, hB⟩ : ∃ B, w.heap.size = B := ⟨_, rfl⟩
  rw [hB]
  go_enter Try.func18, Try.ntmps18
  go_upto_region 4 with fail
  refine gen_world (fun X => Below w.heap.size w X ∧ X.heap.size = B + 4 ∧ X.heap[B]? = some netZ ∧ X.heap[B + 1]? = some (.cells #[.int .i64 1, .int .i64 1] 69) ∧ X.heap[B + 2]? = some (.cells #[.int .i64 0, .int .i64 1] 69) ∧ X.heap[B + 3]? = some (.cells #[.int .i64 2, .int .i64 2, .int .i64 1, .int .i64 1, .int .i64 1, .int .i64 1, .int .i64 1, .int .i64 1] 40)) ⟨by repeat (first | (with_reducible exact Below.refl _ _) | (with_reducible refine bl_alloc ?_ _) | (with_reducible refine Below.drew ?_) | (with_reducible refine bl_drewN ?_ _) | (with_reducible refine bl_set ?_ (by omega) _) | (with_reducible refine bl_step ?_ (by assumption))), by simp [hB], by repeat (first | exact new_at (by simp [*]) _ | refine old_at ?_ _), by repeat (first | exact new_at (by simp [*]) _ | refine old_at ?_ _), by repeat (first | exact new_at (by simp [*]) _ | refine old_at ?_ _), by repeat (first | exact new_at (by simp [*]) _ | refine old_at ?_ _)⟩ ?_
  rintro X ⟨BX, zX, r0, r1, r2, r3⟩
  have p0 := bcl r1 (j := 0) rfl; have p1 := bcl r1 (j := 1) rfl
  have q0 := bcl r2 (j := 0) rfl; have q1 := bcl r2 (j := 1) rfl
  have w0 := bcl r3 (j := 0) rfl; have w1 := bcl r3 (j := 1) rfl; have w2 := bcl r3 (j := 2) rfl; have w3 := bcl r3 (j := 3) rfl; have w4 := bcl r3 (j := 4) rfl; have w5 := bcl r3 (j := 5) rfl; have w6 := bcl r3 (j := 6) rfl; have w7 := bcl r3 (j := 7) rfl
  have l1 : B + 1 < X.heap.size := by omega
  have l2 : B + 2 < X.heap.size := by omega
  go_upto_region 5 with fail
  clear p0 p1 q0 q1 w0 w1 w2 w3 w4 w5 w6 w7 l1 l2
  refine gen_world (fun Y => Below w.heap.size w Y ∧ Y.heap.size = B + 7 ∧ Y.heap[B]? = some netZ ∧ Y.heap[B + 4]? = some (.cells (i8c [1, -1, -1, 1]) 49) ∧ Y.heap[B + 5]? = some (.cells (i64c [1, 1, 0, 1, 0, 1, 1, 1]) 71) ∧ Y.heap[B + 6]? = some (layO (exA B))) ⟨by repeat (first | (with_reducible exact Below.refl _ _) | (with_reducible refine bl_alloc ?_ _) | (with_reducible refine Below.drew ?_) | (with_reducible refine bl_drewN ?_ _) | (with_reducible refine bl_set ?_ (by omega) _) | (with_reducible refine bl_step ?_ (by assumption))), by simp [zX], old_at (old_at (old_at r0 _) _) _, old_at (old_at (new_at zX _) _) _, old_at (new_at (by simp [zX]) _) _, new_at (by simp [zX]) _⟩ ?_
  clear r0 r1 r2 r3 zX BX X
  rintro Y ⟨BY, zY, r0, r4, r5, r6⟩
  go_upto_region 7 with fail
  refine gen_world (fun Z => Below w.heap.size w Z ∧ Z.heap.size = B + 11 ∧ Z.heap[B]? = some netZ ∧ Z.heap[B + 4]? = some (.cells (i8c [1, -1, -1, 1]) 49) ∧ Z.heap[B + 5]? = some (.cells (i64c [1, 1, 0, 1, 0, 1, 1, 1]) 71) ∧ Z.heap[B + 6]? = some (layO (exA B)) ∧ Z.heap[B + 7]? = some (layO exP) ∧ Z.heap[B + 8]? = some (.cells (i8c [1, 0, -1, 1, 0, 0, 0, 1]) 49) ∧ Z.heap[B + 9]? = some (.cells (i64c [3, -4]) 2) ∧ Z.heap[B + 10]? = some (layO (exD B 3))) ⟨by repeat (first | (with_reducible exact Below.refl _ _) | (with_reducible refine bl_alloc ?_ _) | (with_reducible refine Below.drew ?_) | (with_reducible refine bl_drewN ?_ _) | (with_reducible refine bl_set ?_ (by omega) _) | (with_reducible refine bl_step ?_ (by assumption))), by simp [zY], old_at (old_at (old_at (old_at r0 _) _) _) _, old_at (old_at (old_at (old_at r4 _) _) _) _, old_at (old_at (old_at (old_at r5 _) _) _) _, old_at (old_at (old_at (old_at r6 _) _) _) _, old_at (old_at (old_at (new_at zY _) _) _) _, old_at (old_at (new_at (by simp [zY]) _) _) _, old_at (new_at (by simp [zY]) _) _, new_at (by simp [zY]) _⟩ ?_
  clear r0 r4 r5 r6 zY BY Y
  rintro Z ⟨BZ, zZ, r0, r4, r5, r6, r7, r8, r9, r10⟩
  have lpA : Lp Z (B + 6) (exA B) := ⟨bcl r6 rfl, bcl r6 rfl, bcl r6 rfl, bcl r6 rfl, bcl r6 rfl, bcl r6 rfl, bcl r6 rfl, bcl r6 rfl, bcl r6 rfl, bcl r6 rfl, bcl r6 rfl, bcl r6 rfl, bcl r6 rfl, bcl r6 rfl, bcl r6 rfl⟩
  have lpB : Lp Z (B + 7) exP := ⟨bcl r7 rfl, bcl r7 rfl, bcl r7 rfl, bcl r7 rfl, bcl r7 rfl, bcl r7 rfl, bcl r7 rfl, bcl r7 rfl, bcl r7 rfl, bcl r7 rfl, bcl r7 rfl, bcl r7 rfl, bcl r7 rfl, bcl r7 rfl, bcl r7 rfl⟩
  have lpC : Lp Z (B + 10) (exD B 3) := ⟨bcl r10 rfl, bcl r10 rfl, bcl r10 rfl, bcl r10 rfl, bcl r10 rfl, bcl r10 rfl, bcl r10 rfl, bcl r10 rfl, bcl r10 rfl, bcl r10 rfl, bcl r10 rfl, bcl r10 rfl, bcl r10 rfl, bcl r10 rfl, bcl r10 rfl⟩
  refine ex_seven _ _ _ _ _ _ _ _ _ _ _ _ _ _ _ _ _ _ _ _ _ _ _ _ _ _ B (B + 6) (B + 7) (B + 10) (exA B) exP (exD B 3) Z _ lpA lpB lpC r0 (hid1 ?_)
  intro X EX RX ht
  have zX : X.heap.size = B + 11 := EX.1.trans zZ
  have BX := EX.below BZ (by omega) ht
  have HE := hid1 (show ExB (X.alloc (.cells (row3 (exA B) exP (exD B 3)) 45)) B 3 from ⟨old_at ((EX.2 _ (by omega)).trans r4) _, old_at ((EX.2 _ (by omega)).trans r5) _, old_at ((EX.2 _ (by omega)).trans r8) _, old_at ((EX.2 _ (by omega)).trans r9) _, new_at zX _⟩)
  have HX := hid1 (bl_alloc BX (.cells (row3 (exA B) exP (exD B 3)) 45))
  have HR := hid1 (RX.alloc (.cells (row3 (exA B) exP (exD B 3)) 45))
  rw [zZ]
  rw [zZ] at HR
  clear r0 r4 r5 r6 r7 r8 r9 r10 lpA lpB lpC EX RX ht BX BZ zX zZ Z
  refine gen_then (fun Y => Y = X.alloc (.cells (row3 (exA B) exP (exD B 3)) 45)) rfl ?_
  rintro Y hY
  rw [← hY] at HE HX HR
  clear hY
  have n0 := HR.out.cell (i := 0) (by decide)
  have n1 := HR.out.cell (i := 1) (by decide)
  have n2 := HR.out.cell (i := 2) (by decide)
  have n3 := HR.out.cell (i := 3) (by decide)
  have n4 := HR.out.cell (i := 4) (by decide)
  go_wp2_with fail
  simp [bodyPost, results, Try.results18, go_sem, n0, n1, n2, n3, n4]
  exact ⟨⟨rfl, rfl, rfl, rfl, rfl, rfl, rfl⟩, HE.out, hB ▸ HX.out⟩
end Go.Proofs.Ytkodihmjjiadnaa.Nn
/- NETWORKS: LISTS OF SHAPES HELD AGAINST EACH OTHER. -/
namespace Go.Proofs.Ytkodihmjjiadnaa.Nn
open Go.RowKit

def Lsq (W : World) (ao : Option Addr) (m : Nat) (H V C : Nat → Int) : Prop := ∀ k, k < m → ∃ g o, ao = some ⟨g, o, none⟩ ∧ W.cell? ⟨g, o + k * 3, none⟩ = some (.int .i64 (H k)) ∧ W.cell? ⟨g, o + k * 3 + 1, none⟩ = some (.int .i64 (V k)) ∧ W.cell? ⟨g, o + k * 3 + 2, none⟩ = some (.int .i64 (C k))
theorem Lsq.keep {W w' : World} {ao : Option Addr} {m : Nat} {H V C : Nat → Int} (h : Lsq W ao m H V C) (hb : Below W.heap.size W w') : Lsq w' ao m H V C := fun k hk => by
  obtain ⟨g, o, e, a, b, c⟩ := h k hk
  exact ⟨g, o, e, keepc hb a, keepc hb b, keepc hb c⟩
def sq3 (H V C H' V' C' : Nat → Int) (k : Nat) : Prop := H k = H' k ∧ V k = V' k ∧ C k = C' k
instance (H V C H' V' C' : Nat → Int) (k : Nat) : Decidable (sq3 H V C H' V' C' k) := by unfold sq3; infer_instance
def sqB (m n : Nat) (H V C H' V' C' : Nat → Int) : Bool := decide (m = n ∧ ∀ k, k < m → sq3 H V C H' V' C' k)
theorem sqB_len {m n : Nat} {H V C H' V' C' : Nat → Int} (h : ¬ m = n) : sqB m n H V C H' V' C' = false := decide_eq_false fun k => h k.1
theorem sqB_no {m n k : Nat} {H V C H' V' C' : Nat → Int} (hk : k < m) (h : ¬ sq3 H V C H' V' C' k) : sqB m n H V C H' V' C' = false := decide_eq_false fun x => h (x.2 k hk)
theorem sqB_ok {m n : Nat} {H V C H' V' C' : Nat → Int} (h : m = n) (h2 : ∀ k, k < m → sq3 H V C H' V' C' k) : sqB m n H V C H' V' C' = true := decide_eq_true ⟨h, h2⟩
set_option maxRecDepth 100000 in
theorem eqs_any (ao bo : Option Addr) (m n cm cn : Nat) (hm : m ≤ 9223372036854775807) (H V C H' V' C' : Nat → Int) (w : World) (L1 : Lsq w ao m H V C) (L2 : Lsq w bo n H' V' C') :
    Calls Try.prog 19 #[.slice ao m cm, .slice bo n cn] w fun e w' => e = .returned (.bool (sqB m n H V C H' V' C')) ∧ Below w.heap.size w w' := by
  have K1 := hid1 L1
  have K2 := hid1 L2
  clear L1 L2
  by_cases hmn : m = n
  · have hne : ((m : Int) != (n : Int)) = false := by simp [hmn]
    have HO := hid1 (fun h => sqB_ok (H := H) (V := V) (C := C) (H' := H') (V' := V') (C' := C') hmn h)
    have HN := hid1 (fun k (hk : k < m) h => sqB_no (n := n) (H := H) (V := V) (C := C) (H' := H') (V' := V') (C' := C') hk h)
    have HM := hid1 hmn
    clear hmn
    generalize sqB m n H V C H' V' C' = fin at *
    go_enter Try.func19, Try.ntmps19
    go_wp2_with fail
    go_loopw [5] (fun i wr => ∃ k : Nat, k ≤ m ∧ i = .int .i64 k ∧ Hid (∀ j, j < k → sq3 H V C H' V' C' j) ∧ Below w.heap.size w wr) (fun i _ => m - (intOf i).toNat)
    case atStart => exact ⟨0, Nat.zero_le _, rfl, hid1 fun j hj => absurd hj (by omega), Below.refl _ _⟩
    case round =>
      obtain ⟨k, hk, rfl, HA, BX⟩ := hrel
      have ik0 : (0 : Int) ≤ (k : Int) := by omega
      by_cases hlt : k < m
      · have ik : (k : Int) < (m : Int) := by omega
        have ik2 : (k : Int) < (n : Int) := by have := HM.out; omega
        obtain ⟨g1, o1, ea, a0, a1, a2⟩ := (K1.out.keep BX) k hlt
        obtain ⟨g2, o2, eb, b0, b1, b2⟩ := (K2.out.keep BX) k (by have := HM.out; omega)
        have we := fun w => shp_eql (H k) (V k) (C k) (H' k) (V' k) (C' k) w
        by_cases hq : sq3 H V C H' V' C' k
        · have HQ := hid1 hq
          rw [decide_eq_true (show H k = H' k ∧ V k = V' k ∧ C k = C' k from hq)] at we
          clear hq
          go_wp2_with fail
          go_quiet (fail)
          go_wp2_with fail
          exact ⟨⟨k + 1, by omega, by go_num, hid1 (fun j hj => by
            by_cases e : j = k
            · rw [e]; exact HQ.out
            · exact HA.out j (by omega)), by repeat (first | (with_reducible exact Below.refl _ _) | (with_reducible refine bl_alloc ?_ _) | (with_reducible refine Below.drew ?_) | (with_reducible refine bl_drewN ?_ _) | (with_reducible refine bl_set ?_ (by omega) _) | (with_reducible refine bl_step ?_ (by assumption)))⟩, by simp [intOf]; omega⟩
        · rw [decide_eq_false (show ¬ (H k = H' k ∧ V k = V' k ∧ C k = C' k) from hq)] at we
          have HF := hid1 (HN.out k hlt hq)
          clear hq
          go_wp2_with fail
          go_quiet (fail)
          go_wp2_with fail
          go_ret
          exact ⟨by rw [HF.out]; rfl, by repeat (first | (with_reducible exact Below.refl _ _) | (with_reducible refine bl_alloc ?_ _) | (with_reducible refine Below.drew ?_) | (with_reducible refine bl_drewN ?_ _) | (with_reducible refine bl_set ?_ (by omega) _) | (with_reducible refine bl_step ?_ (by assumption)))⟩
      · have : k = m := by omega
        subst this
        go_wp2_with fail
        go_ret
        exact ⟨by rw [HO.out HA.out]; rfl, BX⟩
  · have hne : ((m : Int) != (n : Int)) = true := by simp; omega
    rw [sqB_len hmn]
    go_enter Try.func19, Try.ntmps19
    go_wp2_with fail
    go_ret
    exact ⟨rfl, Below.refl _ _⟩
end Go.Proofs.Ytkodihmjjiadnaa.Nn
/- NETWORKS: WHAT EVERY STATEMENT ASKS AHEAD. -/
namespace Go.Proofs.Ytkodihmjjiadnaa.Nn
open Go.RowKit

def emB5 : Nt := ⟨⟨#[]⟩, 0, 0, 0, none, 0, 0, fun _ => exP⟩
theorem emB5W (W : World) : NtW W emB5 := ⟨fun i hi => absurd hi (Nat.not_lt_zero i), (show (0 : Nat) ≤ 9223372036854775807 by decide), (show (0 : Nat) ≤ 9223372036854775807 by decide)⟩
theorem emB5_no : chE emB5 = 50 ∧ chA emB5 = -1 := ch_whole (by decide)
def exH (k : Nat) : Int := [3, 2, 1].getD k 0
def exC (k : Nat) : Int := [1, 1, 2].getD k 0
theorem ex_shf (B : Nat) : ∀ k, k < 3 → ((sp (exN B 3) (k + 1)).h = exH k ∧ (sp (exN B 3) (k + 1)).v = exH k ∧ (sp (exN B 3) (k + 1)).c = exC k) := fun k hk => by
  rcases (show k = 0 ∨ k = 1 ∨ k = 2 by omega) with rfl | rfl | rfl <;> exact ⟨by kernel_rfl, by kernel_rfl, by kernel_rfl⟩
theorem shf_at (N : Nt) (m k : Nat) (hk : k < m) : shf N m (k * 3) = .int .i64 (sp N (k + 1)).h ∧ shf N m (k * 3 + 1) = .int .i64 (sp N (k + 1)).v ∧ shf N m (k * 3 + 2) = .int .i64 (sp N (k + 1)).c := by
  unfold shf
  rw [if_pos (by omega), if_pos (by omega), if_pos (by omega), show k * 3 / 3 = k by omega, show (k * 3 + 1) / 3 = k by omega, show (k * 3 + 2) / 3 = k by omega, show k * 3 % 3 = 0 by omega, show (k * 3 + 1) % 3 = 1 by omega, show (k * 3 + 2) % 3 = 2 by omega]
  exact ⟨rfl, rfl, rfl⟩
/-- A list of shapes that walk has made. -/
theorem row_lsq {W : World} {N : Nt} {g m : Nat} {t : TypeId} (h : W.rowIs g t (m * 3) (shf N m)) : Lsq W (some ⟨g, 0, none⟩) m (fun k => (sp N (k + 1)).h) (fun k => (sp N (k + 1)).v) (fun k => (sp N (k + 1)).c) := fun k hk => by
  have e := shf_at N m k hk
  refine ⟨g, 0, rfl, ?_, ?_, ?_⟩
  · rw [Nat.zero_add, h.cell (by omega), e.1]
  · rw [Nat.zero_add, h.cell (by omega), e.2.1]
  · rw [Nat.zero_add, h.cell (by omega), e.2.2]
theorem ExB.bias {W : World} {B : Nat} {x y : Int} (h : ExB W B x) : ExB (W.setCell ⟨B + 9, 0, none⟩ (.int .i64 y)) B y := by
  have o := fun i (hi : i ≠ B + 9) => Below.heap_setCell W ⟨B + 9, 0, none⟩ (.int .i64 y) i hi
  refine ⟨(o _ (by omega)).trans h.1, (o _ (by omega)).trans h.2.1, (o _ (by omega)).trans h.2.2.1, ?_, (o _ (by omega)).trans h.2.2.2.2⟩
  simp [World.setCell, Array.getElem?_modify, h.2.2.2.1]
set_option maxHeartbeats 1600000 in
set_option maxRecDepth 100000 in
theorem nbegun_any (w : World) : Calls Try.prog 6 #[] w fun e w' => e = .returned (.bool true) ∧ Below w.heap.size w w' := by
  go_enter Try.func6, Try.ntmps6
  go_wp2_with fail
  refine (example_any w).mono ?_
  rintro e w1 ⟨rfl, EX, B1⟩
  obtain ⟨B, hB⟩ : ∃ B, w.heap.size = B := ⟨_, rfl⟩
  rw [hB] at EX
  rw [hB]
  have hlB : B + 11 < w1.heap.size := lt_block EX.2.2.2.2
  have HE := hid1 EX
  clear EX
  obtain ⟨bn, hbn⟩ : ∃ b, w1.heap.size = b := ⟨_, rfl⟩
  go_upto_region 2 with fail
  refine gen_world (fun X => Below w.heap.size w X ∧ ExB X B 3 ∧ Nb X bn (exN B 3)) ⟨by repeat (first | (with_reducible exact Below.refl _ _) | (with_reducible refine bl_alloc ?_ _) | (with_reducible refine Below.drew ?_) | (with_reducible refine bl_drewN ?_ _) | (with_reducible refine bl_set ?_ (by omega) _) | (with_reducible refine bl_step ?_ (by assumption))), HE.out.keep (bl_alloc (Below.refl _ _) _), by rw [← hbn]; exact nb_new w1 (exN B 3) _⟩ ?_
  clear HE B1
  rintro X ⟨BX, EX, NX⟩
  have KE := hid1 EX
  have KN := hid1 NX
  clear EX
  obtain ⟨n0, n1, n2, n3, n4⟩ := NX
  go_wp2_with fail
  have C1 := ncheck_any (exN B 3) X (exW KE.out)
  rw [(ex_ok B).1, (ex_ok B).2] at C1
  refine C1.mono ?_
  rintro e x1 ⟨rfl, hb⟩
  replace KE := hid1 (KE.out.keep hb)
  replace KN := hid1 (KN.out.keep hb)
  replace BX := bl_step BX hb
  clear hb C1 n0 n1 n2 n3 n4 X
  obtain ⟨n0, n1, n2, n3, n4⟩ := KN.out
  go_wp2_with fail
  refine (nshapes_any (exN B 3) x1 (exW KE.out)).mono ?_
  rintro e x2 ⟨v, rfl, hb, hv⟩
  rw [(ex_ok B).1]
  obtain ⟨g, hg, rfl, RG⟩ := hv.2 (ex_ok B).1
  have hg1 : B + 11 < g := Nat.lt_of_lt_of_le (lt_block KE.out.2.2.2.2) hg
  have hg2 : bn < g := Nat.lt_of_lt_of_le (lt_of_cell n0) hg
  replace KE := hid1 (KE.out.keep hb)
  replace KN := hid1 (KN.out.keep hb)
  replace BX := bl_step BX hb
  have KR := hid1 RG
  clear hb hv RG hg n0 n1 n2 n3 n4 x1
  have n4 : x2.cell? ⟨bn, 4, none⟩ = some (.slice (some ⟨B + 11, 0, none⟩) 3 3) := KN.out.2.2.2.2
  have l44 : x2.cell? ⟨B + 11, 44, none⟩ = some (.slice (some ⟨B + 9, 0, none⟩) 2 2) := bcl KE.out.2.2.2.2 rfl
  have b0 : x2.cell? ⟨B + 9, 0, none⟩ = some (.int .i64 3) := bcl KE.out.2.2.2.1 rfl
  have z0 := bfz KE.out.2.2.2.1 0
  go_upto_region 5 with fail
  have hbB : B + 11 < bn := by omega
  refine gen_world (fun X => Below w.heap.size w X ∧ ExB X B 2147483644 ∧ Nb X bn (exN B 2147483644) ∧ X.rowIs g 25 (3 * 3) (shf (exN B 3) 3)) ⟨by repeat (first | (with_reducible exact Below.refl _ _) | (with_reducible refine bl_alloc ?_ _) | (with_reducible refine Below.drew ?_) | (with_reducible refine bl_drewN ?_ _) | (with_reducible refine bl_set ?_ (by omega) _) | (with_reducible refine bl_step ?_ (by assumption))), KE.out.bias, Nb.of_block KN.out (Below.heap_setCell _ _ _ _ (by show bn ≠ B + 9; omega)), KR.out.setOther (by show g ≠ B + 9; omega) _⟩ ?_
  clear KE KN KR BX n4 l44 b0 z0 x2
  rintro X ⟨BX, EX, NX, RX⟩
  have KE := hid1 EX
  have KR := hid1 RX
  clear EX RX
  obtain ⟨n0, n1, n2, n3, n4⟩ := NX
  go_wp2_with fail
  have C1 := ncheck_any (exN B 2147483644) X (exW KE.out)
  rw [(ex_no B).1, (ex_no B).2] at C1
  refine C1.mono ?_
  rintro e x1 ⟨rfl, hb⟩
  replace KR := hid1 (rowIs_keep KR.out hb)
  replace BX := bl_step BX hb
  clear hb C1 n0 n1 n2 n3 n4 KE X
  go_wp2_with fail
  have C1 := ncheck_any emB5 x1 (emB5W _)
  rw [emB5_no.1, emB5_no.2] at C1
  refine C1.mono ?_
  rintro e x2 ⟨rfl, hb⟩
  replace KR := hid1 (rowIs_keep KR.out hb)
  replace BX := bl_step BX hb
  clear hb C1 x1
  go_upto_region 8 with fail
  obtain ⟨gw, hgw⟩ : ∃ b, x2.heap.size = b := ⟨_, rfl⟩
  refine gen_world (fun X => Below w.heap.size w X ∧ X.rowIs g 25 (3 * 3) (shf (exN B 3) 3) ∧ Lsq X (some ⟨gw, 0, none⟩) 3 exH exH exC) ⟨by repeat (first | (with_reducible exact Below.refl _ _) | (with_reducible refine bl_alloc ?_ _) | (with_reducible refine Below.drew ?_) | (with_reducible refine bl_drewN ?_ _) | (with_reducible refine bl_set ?_ (by omega) _) | (with_reducible refine bl_step ?_ (by assumption))), KR.out.alloc _, fun k hk => ⟨gw, 0, rfl, by
    have hw := new_at hgw (.cells (i64c [3, 3, 1, 2, 2, 1, 1, 1, 2]) 25)
    rcases (show k = 0 ∨ k = 1 ∨ k = 2 by omega) with rfl | rfl | rfl <;> exact ⟨bcl hw rfl, bcl hw rfl, bcl hw rfl⟩⟩⟩ ?_
  clear KR BX
  rintro X ⟨BX, RX, LX⟩
  have CE := eqs_any (some ⟨g, 0, none⟩) (some ⟨gw, 0, none⟩) 3 3 3 3 (by decide) _ _ _ _ _ _ X (row_lsq RX) LX
  rw [sqB_ok rfl (fun k hk => ex_shf B k hk)] at CE
  clear RX LX
  try rw [hgw]
  go_wp2_with fail
  refine CE.mono ?_
  rintro e x3 ⟨rfl, hb⟩
  replace BX := bl_step BX hb
  clear hb CE
  go_wp2_with fail
  go_ret
  exact ⟨rfl, BX⟩
end Go.Proofs.Ytkodihmjjiadnaa.Nn
/- NETSPOILT: the walk. -/
namespace Go.Proofs.Ytkodihmjjiadnaa.Nn
open Go.RowKit

def SpP (lf : Nat → Ly) (M i base : Nat) (W : World) (G cc : Nat) (lf2 : Nat → Ly) (E : Int) (b : Bool) : Prop := Tf W base G cc M lf2 ∧ (∀ j, j < M → j ≠ i → ∃ a1 c1 a2 c2 a3 c3, lf2 j = cpy (lf j) a1 c1 a2 c2 a3 c3) ∧ (b = true → ∀ S, faE (lf i) S = 0 → SpOk S → S.la = decide (i + 1 = M) → S.h ≤ 14 → faE (lf2 i) S = E ∧ ¬ E = 0) ∧ ∀ j, j < M → (lf2 j).mw ≤ (lf j).mw + 1 ∧ (lf2 j).mn ≤ (lf j).mn ∧ (lf2 j).mb ≤ (lf j).mb + 1
theorem SpP.keep {lf lf2 : Nat → Ly} {M i base G cc : Nat} {W X : World} {E : Int} {b : Bool} (h : SpP lf M i base W G cc lf2 E b) (hb : Below W.heap.size W X) : SpP lf M i base X G cc lf2 E b := ⟨h.1.keep hb, h.2⟩
theorem sp_fault {H V C : Int} {M i base G cc uc : Nat} {ua : Option Addr} {lf lf2 : Nat → Ly} {W : World} {E : Int} (h : SpP lf M i base W G cc lf2 E true) (bM : 1 ≤ M ∧ M ≤ 4) (hk : Mk H V C M M lf) (hz : chE (mkN H V C M ua uc lf) = 0) (hi : i < M) : faE (lf2 i) (sp (mkN H V C M ua uc lf) i) = E ∧ ¬ E = 0 := by
  obtain ⟨-, hf⟩ := fl_all hz
  refine h.2.2.1 rfl _ (hf i hi) (sp_all hz i (Nat.le_of_lt hi)) ?_ ?_
  · rw [(la_sp _ i).1]
    show decide (M = i + 1) = _
    congr 1
    exact propext ⟨fun e => e.symm, fun e => e.symm⟩
  · have := (hk.1 i hi).2.2
    rw [sp_mk H V C M ua none uc 0 lf lf i fun _ _ => rfl]
    omega
theorem nmX_size : nmX.size ≤ 1000 := by decide
theorem netF_nm {W : World} {b : Nat} {t : TypeId} {nm nm' : ByteArray} {H V C : Int} {u : Value} (h : W.rowIs b t 5 (netF nm H V C u)) : (W.setCell ⟨b, 0, none⟩ (.string nm')).rowIs b t 5 (netF nm' H V C u) := by
  refine (h.set 0 (.string nm')).congr fun q hq => ?_
  rcases (show q = 0 ∨ q = 1 ∨ q = 2 ∨ q = 3 ∨ q = 4 by omega) with rfl | rfl | rfl | rfl | rfl <;> rfl
theorem netF_hh {W : World} {b : Nat} {t : TypeId} {nm : ByteArray} {H H' V C : Int} {u : Value} (h : W.rowIs b t 5 (netF nm H V C u)) : (W.setCell ⟨b, 1, none⟩ (.int .i64 H')).rowIs b t 5 (netF nm H' V C u) := by
  refine (h.set 1 (.int .i64 H')).congr fun q hq => ?_
  rcases (show q = 0 ∨ q = 1 ∨ q = 2 ∨ q = 3 ∨ q = 4 by omega) with rfl | rfl | rfl | rfl | rfl <;> rfl

attribute [local go_sem ↓] Go.wp_at_zero Go.wp_at_succ
set_option maxHeartbeats 64000000 in
set_option maxRecDepth 100000 in
theorem netSpoilt_any (ao : Option Addr) (m cap : Nat) (f : Nat → Int) (hm : m ≤ 9223372036854775807) (i0 how oth : Int) (hi0 : -9223372036854775808 ≤ i0 ∧ i0 ≤ 9223372036854775807) (w : World) (hf : RB w ao m f) :
    Calls Try.prog 3 #[.slice ao m cap, .int .i64 i0, .int .i64 how, .int .i64 oth] w fun e w' => e = .returned (.bool true) ∧ Below w.heap.size w w' := by
  have CM := hid1 (fun W (hW : Below w.heap.size w W) => made5_any ao m cap f hm W (hf.keep hW))
  clear hf
  go_enter Try.func3, Try.ntmps3
  go_wp2_with fail
  refine (nbegun_any _).mono ?_
  rintro e z0 ⟨rfl, hb0⟩
  go_wp2_with fail
  refine (CM.out _ hb0).mono ?_
  rintro e z1 ⟨H, V, C, M, ua, uc, lf, rfl, bH, bV, bC, bM, HMk', own, lo, hb1⟩
  clear CM
  obtain ⟨GL, rfl, -⟩ := own_cellsS own bM.1
  have HMk := hid1 HMk'
  have HZ := hid1 (mk_ok (ua := some ⟨GL, 0, none⟩) (uc := uc) bH bV bC bM HMk')
  clear HMk'
  obtain ⟨g9, hg9⟩ : ∃ g, z1.heap.size = g := ⟨_, rfl⟩
  go_upto_region 4 with fail
  refine gen_world (fun X => X.rowIs g9 28 5 (netF nmX H V C (.slice (some ⟨GL, 0, none⟩) M uc)) ∧ NtW X (mkN H V C M (some ⟨GL, 0, none⟩) uc lf) ∧ (∀ j, j < M → ((lf j).mw ≤ 1000000 ∧ (lf j).mn ≤ 1000000 ∧ (lf j).mb ≤ 1000000) ∧ Nl (lf j)) ∧ Below w.heap.size w X) ⟨by rw [← hg9]; exact net_newF z1 nmX H V C (.slice (some ⟨GL, 0, none⟩) M uc) _, (mk_net (H := H) (V := V) (C := C) ⟨bM.1, by omega⟩ own lo).keep (bl_alloc (Below.refl _ _) _), fun j hj => ⟨(lo j hj).2, (lo j hj).1.nl⟩, bl_alloc (bl_step hb0 hb1) _⟩ ?_
  clear own lo hb0 hb1 hg9
  rintro X ⟨RN, NW, LO, BX⟩
  have HNW := hid1 NW
  have HRN := hid1 RN
  have HLO := hid1 LO
  have HBX := hid1 BX
  have a0 : X.cell? ⟨g9, 0, none⟩ = some (.string nmX) := RN.cell (i := 0) (by decide)
  have a1 : X.cell? ⟨g9, 1, none⟩ = some (.int .i64 H) := RN.cell (i := 1) (by decide)
  have a2 : X.cell? ⟨g9, 2, none⟩ = some (.int .i64 V) := RN.cell (i := 2) (by decide)
  have a3 : X.cell? ⟨g9, 3, none⟩ = some (.int .i64 C) := RN.cell (i := 3) (by decide)
  have a4 : X.cell? ⟨g9, 4, none⟩ = some (.slice (some ⟨GL, 0, none⟩) M uc) := RN.cell (i := 4) (by decide)
  clear RN NW LO BX
  have HI0 := hid1 hi0
  clear hi0
  go_upto_if 25 with fail
  go_cut [1] (fun s1 wx => (∃ x : Nat, s1 = .int .i64 (x : Int)) ∧ wx = X)
  case first =>
    by_cases hc : i0 < 0
    · have wi : IntKind.i64.wrap (-1 - i0) = -1 - i0 := by rw [IntKind.wrap_i64]; have := HI0.out; omega
      go_wp2_with fail
      go_meet
      exact ⟨⟨(-1 - i0).toNat, by rw [Int.toNat_of_nonneg (by omega)]⟩, rfl⟩
    · go_wp2_with fail
      go_meet
      exact ⟨⟨i0.toNat, by rw [Int.toNat_of_nonneg (by omega)]⟩, rfl⟩
  case rest =>
    obtain ⟨⟨x, rfl⟩, hwc⟩ := hcut
    replace hwc := hwc.symm
    subst hwc
    obtain ⟨i, hie⟩ : ∃ i, x % M = i := ⟨_, rfl⟩
    have hi : i < M := by rw [← hie]; exact Nat.mod_lt _ (by omega)
    have em : Int.tmod (x : Int) (M : Int) = (i : Int) := by rw [Int.tmod_eq_emod_of_nonneg (by omega), ← hie]; rfl
    have m0 : ¬ (M : Int) = 0 := by omega
    have wi : IntKind.i64.wrap (i : Int) = (i : Int) := by rw [IntKind.wrap_i64]; omega
    clear hie
    have ends := lay_ends HZ.out.1 (N := mkN H V C M (some ⟨GL, 0, none⟩) uc lf) (i := i) hi
    have CSP : Hid (Calls Try.prog 8 #[ntv (mkN H V C M (some ⟨GL, 0, none⟩) uc lf), .int .i64 (i : Int), .int .i64 how] X fun e w' => ∃ (G cc : Nat) (lf2 : Nat → Ly) (E : Int) (b : Bool), e = .returned (.tuple #[ntv ⟨nmX, H, V, C, some ⟨G, 0, none⟩, M, cc, lf2⟩, .int .i64 E, .bool b]) ∧ SpP lf M i X.heap.size w' G cc lf2 E b ∧ Below X.heap.size X w') := hid1 (by
      refine (spoilt_any (mkN H V C M (some ⟨GL, 0, none⟩) uc lf) i how X HNW.out hi bM.2 (fun j hj => ⟨by have := (HLO.out j hj).1; exact ⟨Nat.le_succ_of_le this.1, Nat.le_succ_of_le this.2.1, Nat.le_succ_of_le this.2.2⟩, (HLO.out j hj).2⟩) ends.1 ends.2).mono ?_
      rintro e w' ⟨G, cc, lf2, E, b, rfl, h1, h2, h3, h4, h5⟩
      exact ⟨G, cc, lf2, E, b, rfl, ⟨h1, h2, h3, h4⟩, h5⟩)
    clear ends
    go_upto_region 7 with fail
    go_wp2_with fail
    refine CSP.out.mono ?_
    rintro e y1 ⟨G, cc, lf2, E, b, rfl, SP, h1⟩
    clear CSP a0 a1 a2 a3 a4
    have HEL := hid1 (fun j hj => (HLO.out j hj).1)
    obtain ⟨g10, hg10⟩ : ∃ g, y1.heap.size = g := ⟨_, rfl⟩
    obtain ⟨base, hbase⟩ : ∃ z, X.heap.size = z := ⟨_, rfl⟩
    rw [hbase] at SP
    go_upto_region 8 with fail
    refine gen_world (fun Y => Y.rowIs g10 28 5 (netF nmX H V C (.slice (some ⟨G, 0, none⟩) M cc)) ∧ SpP lf M i base Y G cc lf2 E b ∧ Below w.heap.size w Y) ⟨by rw [← hg10]; exact net_newF y1 nmX H V C (.slice (some ⟨G, 0, none⟩) M cc) _, SP.keep (bl_alloc (Below.refl _ _) _), bl_alloc (bl_step HBX.out h1) _⟩ ?_
    have HG10 : Hid (w.heap.size ≤ g10) := hid1 (by have := HBX.out.size; have := h1.size; omega)
    clear SP h1 hg10 HNW HRN HBX HLO hbase
    rintro Y ⟨RT, SP, BY⟩
    have HSP := hid1 SP
    have HRT := hid1 RT
    have HBY := hid1 BY
    have a0 : Y.cell? ⟨g10, 0, none⟩ = some (.string nmX) := RT.cell (i := 0) (by decide)
    have a1 : Y.cell? ⟨g10, 1, none⟩ = some (.int .i64 H) := RT.cell (i := 1) (by decide)
    have a2 : Y.cell? ⟨g10, 2, none⟩ = some (.int .i64 V) := RT.cell (i := 2) (by decide)
    have a3 : Y.cell? ⟨g10, 3, none⟩ = some (.int .i64 C) := RT.cell (i := 3) (by decide)
    have a4 : Y.cell? ⟨g10, 4, none⟩ = some (.slice (some ⟨G, 0, none⟩) M cc) := RT.cell (i := 4) (by decide)
    clear RT SP BY
    cases b
    · go_wp2_with fail
      go_ret
      exact ⟨rfl, HBY.out⟩
    · have hE : faE (lf2 i) (sp (mkN H V C M (some ⟨GL, 0, none⟩) uc lf) i) = E ∧ ¬ E = 0 := sp_fault HSP.out bM HMk.out HZ.out.1 hi
      have HHE := hid1 hE
      have HCH : Hid (chE ⟨nmX, H, V, C, some ⟨G, 0, none⟩, M, cc, lf2⟩ = E ∧ chA ⟨nmX, H, V, C, some ⟨G, 0, none⟩, M, cc, lf2⟩ = i) := hid1 (spoilt_ch (N := mkN H V C M (some ⟨GL, 0, none⟩) uc lf) (T := ⟨nmX, H, V, C, some ⟨G, 0, none⟩, M, cc, lf2⟩) HZ.out.1 rfl rfl rfl rfl rfl hi (fun j hj => HSP.out.2.1 j (by omega) (by omega)) hE)
      have CK : Hid (∀ W, Below Y.heap.size Y W → Calls Try.prog 9 #[ntv ⟨nmX, H, V, C, some ⟨G, 0, none⟩, M, cc, lf2⟩] W fun e w' => e = .returned (.tuple #[.int .i64 (i : Int), .int .i64 E]) ∧ Below W.heap.size W w') := hid1 (fun W hW => by
        have := ncheck_any ⟨nmX, H, V, C, some ⟨G, 0, none⟩, M, cc, lf2⟩ W ((HSP.out.1.net nmX_size (by omega) H V C).keep hW)
        rw [HCH.out.1, HCH.out.2] at this
        exact this)
      have CS5 : Hid (∀ W, Below Y.heap.size Y W → Calls Try.prog 10 #[ntv ⟨nmX, H, V, C, some ⟨G, 0, none⟩, M, cc, lf2⟩] W fun e w' => e = .returned (.tuple #[.slice none 0 0, .int .i64 E]) ∧ Below W.heap.size W w') := hid1 (fun W hW => by
        refine (nshapes_any ⟨nmX, H, V, C, some ⟨G, 0, none⟩, M, cc, lf2⟩ W ((HSP.out.1.net nmX_size (by omega) H V C).keep hW)).mono ?_
        rintro e w' ⟨v, rfl, hb, wk⟩
        obtain rfl := wk.1 (by rw [HCH.out.1]; exact HHE.out.2)
        rw [HCH.out.1]
        exact ⟨rfl, hb⟩)
      clear hE
      go_wp2_with fail
      refine (CK.out _ (Below.refl _ _)).mono ?_
      rintro e y1 ⟨rfl, h1⟩
      clear a0 a1 a2 a3 a4
      have R1 := World.rowIs.of_block HRT.out (h1.block _ HRT.out.lt)
      have a0 : y1.cell? ⟨g10, 0, none⟩ = some (.string nmX) := R1.cell (i := 0) (by decide)
      have a1 : y1.cell? ⟨g10, 1, none⟩ = some (.int .i64 H) := R1.cell (i := 1) (by decide)
      have a2 : y1.cell? ⟨g10, 2, none⟩ = some (.int .i64 V) := R1.cell (i := 2) (by decide)
      have a3 : y1.cell? ⟨g10, 3, none⟩ = some (.int .i64 C) := R1.cell (i := 3) (by decide)
      have a4 : y1.cell? ⟨g10, 4, none⟩ = some (.slice (some ⟨G, 0, none⟩) M cc) := R1.cell (i := 4) (by decide)
      clear R1
      go_wp2_with fail
      refine (CS5.out _ h1).mono ?_
      rintro e y2 ⟨rfl, h2⟩
      clear a0 a1 a2 a3 a4
      have B2 := bl_step h1 h2
      have R2 := World.rowIs.of_block HRT.out (B2.block _ HRT.out.lt)
      have a0 : y2.cell? ⟨g10, 0, none⟩ = some (.string nmX) := R2.cell (i := 0) (by decide)
      have a1 : y2.cell? ⟨g10, 1, none⟩ = some (.int .i64 H) := R2.cell (i := 1) (by decide)
      have a2 : y2.cell? ⟨g10, 2, none⟩ = some (.int .i64 V) := R2.cell (i := 2) (by decide)
      have a3 : y2.cell? ⟨g10, 3, none⟩ = some (.int .i64 C) := R2.cell (i := 3) (by decide)
      have a4 : y2.cell? ⟨g10, 4, none⟩ = some (.slice (some ⟨G, 0, none⟩) M cc) := R2.cell (i := 4) (by decide)
      have HR2 := hid1 R2
      have HB2 := hid1 B2
      clear R2 h1 h2 B2 CS5 CK
      have wi1 : IntKind.i64.wrap ((i : Int) + 1) = (i : Int) + 1 := by rw [IntKind.wrap_i64]; omega
      go_upto_if 76 with fail
      go_cut [] (fun wx => Below y2.heap.size y2 wx)
      case first =>
        by_cases hlt : i + 1 < M
        · have hlt' : (i : Int) + 1 < (M : Int) := by omega
          have CSU : Hid (Calls Try.prog 8 #[ntv ⟨nmX, H, V, C, some ⟨G, 0, none⟩, M, cc, lf2⟩, .int .i64 ((i : Int) + 1), .int .i64 oth] y2 fun e w' => ∃ (G3 cc3 : Nat) (lf3 : Nat → Ly) (E3 : Int) (b3 : Bool), e = .returned (.tuple #[ntv ⟨nmX, H, V, C, some ⟨G3, 0, none⟩, M, cc3, lf3⟩, .int .i64 E3, .bool b3]) ∧ (Tf w' y2.heap.size G3 cc3 M lf3 ∧ (∀ j, j < M → j ≠ i + 1 → ∃ a1 c1 a2 c2 a3 c3, lf3 j = cpy (lf2 j) a1 c1 a2 c2 a3 c3)) ∧ Below y2.heap.size y2 w') := hid1 (by
            have ends := lay_ends HZ.out.1 (N := mkN H V C M (some ⟨GL, 0, none⟩) uc lf) (i := i + 1) hlt
            obtain ⟨a1, c1, a2, c2, a3, c3, ee⟩ := HSP.out.2.1 (i + 1) hlt (by omega)
            have := spoilt_any ⟨nmX, H, V, C, some ⟨G, 0, none⟩, M, cc, lf2⟩ (i + 1) oth y2 ((HSP.out.1.net nmX_size (by omega) H V C).keep HB2.out) hlt bM.2 (fun j hj => ⟨by have h1 := HSP.out.2.2.2 j hj; have h2 := HEL.out j hj; exact ⟨Nat.le_trans h1.1 (Nat.succ_le_succ h2.1), Nat.le_trans h1.2.1 (Nat.le_succ_of_le h2.2.1), Nat.le_trans h1.2.2 (Nat.succ_le_succ h2.2.2)⟩, HSP.out.1.nl hj⟩) (fun q => by show 1 ≤ (lf2 (i + 1)).mb; rw [ee]; exact ends.1 q) (fun q q' => by show 1 ≤ (lf2 (i + 1)).mn; have q : ¬ (lf2 (i + 1)).kd = 3 := q; rw [ee] at q ⊢; exact ends.2 q q')
            refine this.mono ?_
            rintro e w' ⟨G3, cc3, lf3, E3, b3, rfl, h1, h2, -, -, h5⟩
            exact ⟨G3, cc3, lf3, E3, b3, rfl, ⟨h1, h2⟩, h5⟩)
          go_wp2_with fail
          refine CSU.out.mono ?_
          rintro e y3 ⟨G3, cc3, lf3, E3, b3, rfl, SU, h3⟩
          clear CSU a0 a1 a2 a3 a4
          obtain ⟨g17, hg17⟩ : ∃ g, y3.heap.size = g := ⟨_, rfl⟩
          go_upto_region 16 with fail
          refine gen_world (fun Z => Z.rowIs g17 28 5 (netF nmX H V C (.slice (some ⟨G3, 0, none⟩) M cc3)) ∧ (Tf Z y2.heap.size G3 cc3 M lf3 ∧ (∀ j, j < M → j ≠ i + 1 → ∃ a1 c1 a2 c2 a3 c3, lf3 j = cpy (lf2 j) a1 c1 a2 c2 a3 c3)) ∧ Below y2.heap.size y2 Z) ⟨by rw [← hg17]; exact net_newF y3 nmX H V C (.slice (some ⟨G3, 0, none⟩) M cc3) _, ⟨SU.1.keep (bl_alloc (Below.refl _ _) _), SU.2⟩, bl_alloc h3 _⟩ ?_
          clear SU h3 hg17
          rintro Z ⟨RU, SU, BZ⟩
          have HSU := hid1 SU
          have HBZ := hid1 BZ
          have a0 : Z.cell? ⟨g17, 0, none⟩ = some (.string nmX) := RU.cell (i := 0) (by decide)
          have a1 : Z.cell? ⟨g17, 1, none⟩ = some (.int .i64 H) := RU.cell (i := 1) (by decide)
          have a2 : Z.cell? ⟨g17, 2, none⟩ = some (.int .i64 V) := RU.cell (i := 2) (by decide)
          have a3 : Z.cell? ⟨g17, 3, none⟩ = some (.int .i64 C) := RU.cell (i := 3) (by decide)
          have a4 : Z.cell? ⟨g17, 4, none⟩ = some (.slice (some ⟨G3, 0, none⟩) M cc3) := RU.cell (i := 4) (by decide)
          clear RU SU BZ
          cases b3
          · go_wp2_with fail
            go_meet
            exact HBZ.out
          · have CKU : Hid (∀ W, Below Z.heap.size Z W → Calls Try.prog 9 #[ntv ⟨nmX, H, V, C, some ⟨G3, 0, none⟩, M, cc3, lf3⟩] W fun e w' => e = .returned (.tuple #[.int .i64 (i : Int), .int .i64 E]) ∧ Below W.heap.size W w') := hid1 (fun W hW => by
              have hc := spoilt_ch2 (N := mkN H V C M (some ⟨GL, 0, none⟩) uc lf) (T := ⟨nmX, H, V, C, some ⟨G, 0, none⟩, M, cc, lf2⟩) (U := ⟨nmX, H, V, C, some ⟨G3, 0, none⟩, M, cc3, lf3⟩) HZ.out.1 rfl rfl rfl rfl rfl hi (fun j hj => HSP.out.2.1 j (by omega) (by omega)) HHE.out rfl rfl rfl rfl rfl HSU.out.2
              have := ncheck_any ⟨nmX, H, V, C, some ⟨G3, 0, none⟩, M, cc3, lf3⟩ W ((HSU.out.1.net nmX_size (by omega) H V C).keep hW)
              rw [hc.1, hc.2] at this
              exact this)
            go_wp2_with fail
            refine (CKU.out _ (Below.refl _ _)).mono ?_
            rintro e y4 ⟨rfl, h4⟩
            have HB4 := hid1 (bl_step HBZ.out h4)
            clear h4 a0 a1 a2 a3 a4
            go_wp2_with fail
            go_meet
            exact HB4.out
        · have hlt' : ¬ (i : Int) + 1 < (M : Int) := by omega
          go_wp2_with fail
          go_meet
          exact Below.refl _ _
      case rest =>
        have BC := bl_step HB2.out hcut
        have HBC := hid1 (bl_step HBY.out BC)
        have R3 := World.rowIs.of_block HRT.out (BC.block _ HRT.out.lt)
        have TF := HSP.out.1.keep BC
        clear a0 a1 a2 a3 a4 hcut HR2 HB2 HRT
        have a0 : wc.cell? ⟨g10, 0, none⟩ = some (.string nmX) := R3.cell (i := 0) (by decide)
        have a1 : wc.cell? ⟨g10, 1, none⟩ = some (.int .i64 H) := R3.cell (i := 1) (by decide)
        have a2 : wc.cell? ⟨g10, 2, none⟩ = some (.int .i64 V) := R3.cell (i := 2) (by decide)
        have a3 : wc.cell? ⟨g10, 3, none⟩ = some (.int .i64 C) := R3.cell (i := 3) (by decide)
        have a4 : wc.cell? ⟨g10, 4, none⟩ = some (.slice (some ⟨G, 0, none⟩) M cc) := R3.cell (i := 4) (by decide)
        have f0 := R3.frozen 0
        have bg : w.heap.size ≤ g10 := HG10.out
        have HR3 := hid1 R3
        have HTF := hid1 TF
        clear R3 TF BC
        go_upto_region 21 with fail
        refine gen_world (fun Z => Z.rowIs g10 28 5 (netF ⟨#[97, 32, 98]⟩ H V C (.slice (some ⟨G, 0, none⟩) M cc)) ∧ Tf Z base G cc M lf2 ∧ Below w.heap.size w Z) ⟨netF_nm HR3.out, HTF.out.hi HR3.out (by decide) (by decide) (by decide) (by decide), bl_set HBC.out bg _⟩ ?_
        clear a0 a1 a2 a3 a4 f0 HR3 HTF HBC
        rintro Z ⟨R4, T4, B4⟩
        have HR4 := hid1 R4
        have HT4 := hid1 T4
        have HB4 := hid1 B4
        have a0 : Z.cell? ⟨g10, 0, none⟩ = some (.string ⟨#[97, 32, 98]⟩) := R4.cell (i := 0) (by decide)
        have a1 : Z.cell? ⟨g10, 1, none⟩ = some (.int .i64 H) := R4.cell (i := 1) (by decide)
        have a2 : Z.cell? ⟨g10, 2, none⟩ = some (.int .i64 V) := R4.cell (i := 2) (by decide)
        have a3 : Z.cell? ⟨g10, 3, none⟩ = some (.int .i64 C) := R4.cell (i := 3) (by decide)
        have a4 : Z.cell? ⟨g10, 4, none⟩ = some (.slice (some ⟨G, 0, none⟩) M cc) := R4.cell (i := 4) (by decide)
        clear R4 T4 B4
        have CK : Hid (Calls Try.prog 9 #[ntv ⟨⟨#[97, 32, 98]⟩, H, V, C, some ⟨G, 0, none⟩, M, cc, lf2⟩] Z fun e w' => e = .returned (.tuple #[.int .i64 (-1), .int .i64 50]) ∧ Below Z.heap.size Z w') := hid1 (by
          have hc := wh_name ⟨⟨#[97, 32, 98]⟩, H, V, C, some ⟨G, 0, none⟩, M, cc, lf2⟩ rfl
          have := ncheck_any ⟨⟨#[97, 32, 98]⟩, H, V, C, some ⟨G, 0, none⟩, M, cc, lf2⟩ Z (HT4.out.net (by decide) (by omega) H V C)
          rw [hc.1, hc.2] at this
          exact this)
        go_wp2_with fail
        refine CK.out.mono ?_
        rintro e y5 ⟨rfl, h5⟩
        clear CK a0 a1 a2 a3 a4
        have R5 := World.rowIs.of_block HR4.out (h5.block _ HR4.out.lt)
        have HR5 := hid1 R5
        have HT5 := hid1 (HT4.out.keep h5)
        have HB5 := hid1 (bl_step HB4.out h5)
        have a0 : y5.cell? ⟨g10, 0, none⟩ = some (.string ⟨#[97, 32, 98]⟩) := R5.cell (i := 0) (by decide)
        have a1 : y5.cell? ⟨g10, 1, none⟩ = some (.int .i64 H) := R5.cell (i := 1) (by decide)
        have a2 : y5.cell? ⟨g10, 2, none⟩ = some (.int .i64 V) := R5.cell (i := 2) (by decide)
        have a3 : y5.cell? ⟨g10, 3, none⟩ = some (.int .i64 C) := R5.cell (i := 3) (by decide)
        have a4 : y5.cell? ⟨g10, 4, none⟩ = some (.slice (some ⟨G, 0, none⟩) M cc) := R5.cell (i := 4) (by decide)
        have f0 := R5.frozen 0
        have f1 := R5.frozen 1
        clear h5 R5 HR4 HT4 HB4
        go_upto_region 26 with fail
        refine gen_world (fun Z => Z.rowIs g10 28 5 (netF ⟨#[97]⟩ 4097 V C (.slice (some ⟨G, 0, none⟩) M cc)) ∧ Tf Z base G cc M lf2 ∧ Below w.heap.size w Z) ⟨netF_hh (netF_nm HR5.out), (HT5.out.hi HR5.out (by decide) (by decide) (by decide) (by decide)).hi (netF_nm (nm' := ⟨#[97]⟩) HR5.out) (by decide) (by decide) (by decide) (by decide), bl_set (bl_set HB5.out bg _) bg _⟩ ?_
        clear a0 a1 a2 a3 a4 f0 f1 HR5 HT5 HB5
        rintro Z2 ⟨R6, T6, B6⟩
        have HT6 := hid1 T6
        have HB6 := hid1 B6
        have a0 : Z2.cell? ⟨g10, 0, none⟩ = some (.string ⟨#[97]⟩) := R6.cell (i := 0) (by decide)
        have a1 : Z2.cell? ⟨g10, 1, none⟩ = some (.int .i64 4097) := R6.cell (i := 1) (by decide)
        have a2 : Z2.cell? ⟨g10, 2, none⟩ = some (.int .i64 V) := R6.cell (i := 2) (by decide)
        have a3 : Z2.cell? ⟨g10, 3, none⟩ = some (.int .i64 C) := R6.cell (i := 3) (by decide)
        have a4 : Z2.cell? ⟨g10, 4, none⟩ = some (.slice (some ⟨G, 0, none⟩) M cc) := R6.cell (i := 4) (by decide)
        clear R6 T6 B6
        have CK : Hid (Calls Try.prog 9 #[ntv ⟨⟨#[97]⟩, 4097, V, C, some ⟨G, 0, none⟩, M, cc, lf2⟩] Z2 fun e w' => e = .returned (.tuple #[.int .i64 (-1), .int .i64 30]) ∧ Below Z2.heap.size Z2 w') := hid1 (by
          have hc := wh_high ⟨⟨#[97]⟩, 4097, V, C, some ⟨G, 0, none⟩, M, cc, lf2⟩ rfl rfl
          have := ncheck_any ⟨⟨#[97]⟩, 4097, V, C, some ⟨G, 0, none⟩, M, cc, lf2⟩ Z2 (HT6.out.net (by decide) (by omega) 4097 V C)
          rw [hc.1, hc.2] at this
          exact this)
        go_wp2_with fail
        refine CK.out.mono ?_
        rintro e y7 ⟨rfl, h7⟩
        have HB7 := hid1 (bl_step HB6.out h7)
        clear CK a0 a1 a2 a3 a4 h7
        go_wp2_with fail
        go_ret
        exact ⟨rfl, HB7.out⟩
end Go.Proofs.Ytkodihmjjiadnaa.Nn
namespace Go.Proofs.Ytkodihmjjiadnaa
open Go.ChangeShapes Go.WideShapes Go.ChangeAt Go.RowKit

set_option maxRecDepth 100000 in
theorem netSpoilt_lifted (os : Os) (started : os.Started) (H : Type) (enc : TypeId × Value → H) :
    ReturnsInHanded {} Try.checked os 3 .any (Rows.netSpoiltSpec.pre6 enc Try.prog Try.f3 Rows.netSpoiltRow.domain false) (Rows.netSpoiltSpec.post enc Try.prog Try.f3 false true false false) := by
  refine returnsInHanded_of_change_sized (C := Try.checked) own started (by kernel_rfl) Try.func3
    (ChangeSpec.witness6 (enc := enc) (C := Try.checked) false ⟨#[], #[.slice none 0 0, .int .i64 0, .int .i64 0, .int .i64 0], []⟩ 8 (by kernel_rfl) (by kernel_rfl) (by kernel_rfl) (by kernel_rfl)) ?_
  intro W base args ds gs before hval0 hW _ _ _
  have hval : ∀ (j : Nat) t v, Try.f3.params[j]? = some t → args[j]? = some v → Value.okWide Try.prog W .any base t v := hval0
  have hW' := hW
  obtain ⟨p, q, hA0, hV, rfl, hfz, hnd⟩ := hW
  have hA : DataW.TrodAll enc Try.prog W 0 (fun _ => true) true Try.f3.params.toList args.toList ds p := hA0
  rw [Try.params3] at hA hval
  obtain ⟨v0, vs0, d0, ds0, p0, q0, hargs, rfl, rfl, h0, r0⟩ := trodAll_cons hA
  obtain ⟨v1, vs1, d1, ds1, p1, q1, rfl, rfl, rfl, h1, r1⟩ := trodAll_cons r0
  obtain ⟨v2, vs2, d2, ds2, p2, q2, rfl, rfl, rfl, h2, r2⟩ := trodAll_cons r1
  obtain ⟨v3, vs3, d3, ds3, p3, q3, rfl, rfl, rfl, h3, r3⟩ := trodAll_cons r2
  obtain ⟨rfl, rfl, rfl⟩ := trodAll_nil r3
  obtain rfl : args = #[v0, v1, v2, v3] := by cases args; simp_all
  obtain ⟨rfl, rfl⟩ := trodVars_none hV
  have lt0 : ∀ x ∈ p0, x.block < W.heap.size := by obtain ⟨m, hm⟩ := h0; exact DataW.trod_lt m _ _ _ hm
  have k0 := h0
  have lt1 : ∀ x ∈ p1, x.block < W.heap.size := by obtain ⟨m, hm⟩ := h1; exact DataW.trod_lt m _ _ _ hm
  have k1 := h1
  have lt2 : ∀ x ∈ p2, x.block < W.heap.size := by obtain ⟨m, hm⟩ := h2; exact DataW.trod_lt m _ _ _ hm
  have k2 := h2
  have lt3 : ∀ x ∈ p3, x.block < W.heap.size := by obtain ⟨m, hm⟩ := h3; exact DataW.trod_lt m _ _ _ hm
  have k3 := h3
  obtain ⟨ao0, m0, c0, fn0, rfl, hm0, hc0, f0⟩ := open_u8s (hval 0 22 v0 rfl rfl) h0
  obtain ⟨x1, rfl, rfl, rfl, w1⟩ := open_int Try.underlying3 (hval 1 3 v1 rfl rfl) h1
  obtain ⟨x2, rfl, rfl, rfl, w2⟩ := open_int Try.underlying3 (hval 2 3 v2 rfl rfl) h2
  obtain ⟨x3, rfl, rfl, rfl, w3⟩ := open_int Try.underlying3 (hval 3 3 v3 rfl rfl) h3
  clear hA0 hval0
  refine (Nn.netSpoilt_any ao0 m0 c0 fn0 (by omega) x1 x2 x3 (i64_of_wfO w1) W (fun k hk => by obtain ⟨h, g, o, e, c⟩ := f0 k hk; exact ⟨g, o, e, c, h.1, h.2⟩)).mono fun e W' ⟨he, bel⟩ => ?_
  subst he
  exact ⟨_, rfl, _, _, _, [], _, [], hW', trodAll_mk1 (shut_bool Try.underlying4 _), (trodAll_cons_mk (Below.trod laidOut (by kernel_rfl) (of_decide_eq_true (by kernel_rfl)) k0 bel lt0) (trodAll_cons_mk (Below.trod laidOut (by kernel_rfl) (of_decide_eq_true (by kernel_rfl)) k1 bel lt1) (trodAll_cons_mk (Below.trod laidOut (by kernel_rfl) (of_decide_eq_true (by kernel_rfl)) k2 bel lt2) (trodAll_cons_mk (Below.trod laidOut (by kernel_rfl) (of_decide_eq_true (by kernel_rfl)) k3 bel lt3) trodAll_mk0)))), rfl, bel.frame _, fun h => by cases h⟩

theorem netSpoilt_holds : Rows.NetSpoiltSaid :=
  OpenClaim.holds_of_wide 3 Try.f3 rfl rfl rfl rfl rfl rfl rfl ⟨rfl, rfl, rfl, rfl, rfl⟩ rfl rfl rfl rfl rfl (by kernel_rfl) Try.func3 (by kernel_rfl)
    (of_decide_eq_true (by kernel_rfl)) (by unfold Func.isWrapper; first | (rw [if_pos (by decide +kernel)]; kernel_rfl) | (rw [if_neg (by decide +kernel)]; exact ⟨rfl, rfl⟩))
    (fun os started H enc _ => netSpoilt_lifted os started H enc)
#print axioms netSpoilt_holds
end Go.Proofs.Ytkodihmjjiadnaa
