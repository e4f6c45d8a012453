import Derived.Test.YtlghmojjcfjibaaQDPoolScript
import Derived.Test.YtlghmojjcfjibaaQAPoolScript
import Derived.StillTailTactics
import Derived.Deep.DeepCutAuto
/- PoolScript: a step, an answer; alone, ran, meant, agree. -/
namespace Go.Proofs.Ytlghmojjcfjibaa
open Go.RowKit Go.Shelf

/-- A step as a value, and its thirteen cells. -/
abbrev opv (kd h v c : Int) (ao : Option Addr) (m cap : Nat) (r s sy sx t l b q : Int) : Value := .agg #[.int .i64 kd, .int .i64 h, .int .i64 v, .int .i64 c, .slice ao m cap, .int .i64 r, .int .i64 s, .int .i64 sy, .int .i64 sx, .int .i64 t, .int .i64 l, .int .i64 b, .int .i64 q]
def opf (kd h v c : Int) (ao : Option Addr) (m cap : Nat) (r s sy sx t l b q : Int) : Nat → Value := fun k => match k with
  | 0 => .int .i64 kd | 1 => .int .i64 h | 2 => .int .i64 v | 3 => .int .i64 c | 4 => .slice ao m cap
  | 5 => .int .i64 r | 6 => .int .i64 s | 7 => .int .i64 sy | 8 => .int .i64 sx | 9 => .int .i64 t | 10 => .int .i64 l | 11 => .int .i64 b | _ => .int .i64 q
/-- An answer as a value, and its five cells. -/
abbrev tov (h v c : Int) (ao : Option Addr) (m cap : Nat) (e : Int) : Value := .agg #[.int .i64 h, .int .i64 v, .int .i64 c, .slice ao m cap, .int .i64 e]
def tof (h v c : Int) (ao : Option Addr) (m cap : Nat) (e : Int) : Nat → Value := fun k => match k with
  | 0 => .int .i64 h | 1 => .int .i64 v | 2 => .int .i64 c | 3 => .slice ao m cap | _ => .int .i64 e
abbrev opo (kd h v c : Int) (ao : Option Addr) (m cap : Nat) (r s sy sx t l b q : Int) : Obj := .cells #[.int .i64 kd, .int .i64 h, .int .i64 v, .int .i64 c, .slice ao m cap, .int .i64 r, .int .i64 s, .int .i64 sy, .int .i64 sx, .int .i64 t, .int .i64 l, .int .i64 b, .int .i64 q] 57
abbrev too (h v c : Int) (ao : Option Addr) (m cap : Nat) (e : Int) : Obj := .cells #[.int .i64 h, .int .i64 v, .int .i64 c, .slice ao m cap, .int .i64 e] 60
theorem op_new (w : World) (kd h v c : Int) (ao : Option Addr) (m cap : Nat) (r s sy sx t l b q : Int) : (w.alloc (opo kd h v c ao m cap r s sy sx t l b q)).rowIs w.heap.size 57 13 (opf kd h v c ao m cap r s sy sx t l b q) :=
  World.rowIs_alloc w _ _ _ (fun i hi => by
    rcases i with _ | _ | _ | _ | _ | _ | _ | _ | _ | _ | _ | _ | _ | i
    all_goals first | rfl | (simp at hi; omega))
theorem op_cells {w : World} {g T : Nat} {kd h v c : Int} {ao : Option Addr} {m cap : Nat} {r s sy sx t l b q : Int} (hr : w.rowIs g T 13 (opf kd h v c ao m cap r s sy sx t l b q)) : w.cell? ⟨g, 0, none⟩ = some (.int .i64 kd) ∧ w.cell? ⟨g, 1, none⟩ = some (.int .i64 h) ∧ w.cell? ⟨g, 2, none⟩ = some (.int .i64 v) ∧ w.cell? ⟨g, 3, none⟩ = some (.int .i64 c) ∧ w.cell? ⟨g, 4, none⟩ = some (.slice ao m cap) ∧ w.cell? ⟨g, 5, none⟩ = some (.int .i64 r) ∧ w.cell? ⟨g, 6, none⟩ = some (.int .i64 s) ∧ w.cell? ⟨g, 7, none⟩ = some (.int .i64 sy) ∧ w.cell? ⟨g, 8, none⟩ = some (.int .i64 sx) ∧ w.cell? ⟨g, 9, none⟩ = some (.int .i64 t) ∧ w.cell? ⟨g, 10, none⟩ = some (.int .i64 l) ∧ w.cell? ⟨g, 11, none⟩ = some (.int .i64 b) ∧ w.cell? ⟨g, 12, none⟩ = some (.int .i64 q) :=
  ⟨hr.cell (i := 0) (by omega), hr.cell (i := 1) (by omega), hr.cell (i := 2) (by omega), hr.cell (i := 3) (by omega), hr.cell (i := 4) (by omega), hr.cell (i := 5) (by omega), hr.cell (i := 6) (by omega), hr.cell (i := 7) (by omega), hr.cell (i := 8) (by omega), hr.cell (i := 9) (by omega), hr.cell (i := 10) (by omega), hr.cell (i := 11) (by omega), hr.cell (i := 12) (by omega)⟩
theorem op_free {w : World} {g T n : Nat} {f : Nat → Value} (hr : w.rowIs g T n f) : w.frozen? ⟨g, 0, none⟩ = false ∧ w.frozen? ⟨g, 1, none⟩ = false ∧ w.frozen? ⟨g, 2, none⟩ = false ∧ w.frozen? ⟨g, 3, none⟩ = false ∧ w.frozen? ⟨g, 4, none⟩ = false ∧ w.frozen? ⟨g, 5, none⟩ = false ∧ w.frozen? ⟨g, 6, none⟩ = false ∧ w.frozen? ⟨g, 7, none⟩ = false ∧ w.frozen? ⟨g, 8, none⟩ = false ∧ w.frozen? ⟨g, 9, none⟩ = false ∧ w.frozen? ⟨g, 10, none⟩ = false ∧ w.frozen? ⟨g, 11, none⟩ = false ∧ w.frozen? ⟨g, 12, none⟩ = false :=
  ⟨hr.frozen 0, hr.frozen 1, hr.frozen 2, hr.frozen 3, hr.frozen 4, hr.frozen 5, hr.frozen 6, hr.frozen 7, hr.frozen 8, hr.frozen 9, hr.frozen 10, hr.frozen 11, hr.frozen 12⟩
theorem op_set {w : World} {g T : Nat} {f : Nat → Value} (hr : w.rowIs g T 13 f) (kd h v c : Int) (ao : Option Addr) (m cap : Nat) (r s sy sx t l b q : Int) : (((((((((((((w.setCell ⟨g, 0, none⟩ (.int .i64 kd)).setCell ⟨g, 1, none⟩ (.int .i64 h)).setCell ⟨g, 2, none⟩ (.int .i64 v)).setCell ⟨g, 3, none⟩ (.int .i64 c)).setCell ⟨g, 4, none⟩ (.slice ao m cap)).setCell ⟨g, 5, none⟩ (.int .i64 r)).setCell ⟨g, 6, none⟩ (.int .i64 s)).setCell ⟨g, 7, none⟩ (.int .i64 sy)).setCell ⟨g, 8, none⟩ (.int .i64 sx)).setCell ⟨g, 9, none⟩ (.int .i64 t)).setCell ⟨g, 10, none⟩ (.int .i64 l)).setCell ⟨g, 11, none⟩ (.int .i64 b)).setCell ⟨g, 12, none⟩ (.int .i64 q)).rowIs g T 13 (opf kd h v c ao m cap r s sy sx t l b q) :=
  (((((((((((((hr.set 0 _).set 1 _).set 2 _).set 3 _).set 4 _).set 5 _).set 6 _).set 7 _).set 8 _).set 9 _).set 10 _).set 11 _).set 12 _).congr fun k hk => by
    rcases k with _ | _ | _ | _ | _ | _ | _ | _ | _ | _ | _ | _ | _ | k
    all_goals first | rfl | omega
theorem But.setO (g : Nat) (w : World) (kd h v c : Int) (ao : Option Addr) (m cap : Nat) (r s sy sx t l b q : Int) : But g w (((((((((((((w.setCell ⟨g, 0, none⟩ (.int .i64 kd)).setCell ⟨g, 1, none⟩ (.int .i64 h)).setCell ⟨g, 2, none⟩ (.int .i64 v)).setCell ⟨g, 3, none⟩ (.int .i64 c)).setCell ⟨g, 4, none⟩ (.slice ao m cap)).setCell ⟨g, 5, none⟩ (.int .i64 r)).setCell ⟨g, 6, none⟩ (.int .i64 s)).setCell ⟨g, 7, none⟩ (.int .i64 sy)).setCell ⟨g, 8, none⟩ (.int .i64 sx)).setCell ⟨g, 9, none⟩ (.int .i64 t)).setCell ⟨g, 10, none⟩ (.int .i64 l)).setCell ⟨g, 11, none⟩ (.int .i64 b)).setCell ⟨g, 12, none⟩ (.int .i64 q)) :=
  ((((((((((((((But.refl g w).set _).set _).set _).set _).set _).set _).set _).set _).set _).set _).set _).set _).set _)
theorem op_words {w : World} {g T : Nat} {kd h v c : Int} {ao : Option Addr} {m cap : Nat} {r s sy sx t l b q : Int} (hr : w.rowIs g T 13 (opf kd h v c ao m cap r s sy sx t l b q)) (ao' : Option Addr) (m' cap' : Nat) : (w.setCell ⟨g, 4, none⟩ (.slice ao' m' cap')).rowIs g T 13 (opf kd h v c ao' m' cap' r s sy sx t l b q) :=
  (hr.set 4 _).congr fun k hk => by
    rcases k with _ | _ | _ | _ | _ | _ | _ | _ | _ | _ | _ | _ | _ | k
    all_goals first | rfl | omega
theorem to_new (w : World) (h v c : Int) (ao : Option Addr) (m cap : Nat) (e : Int) : (w.alloc (too h v c ao m cap e)).rowIs w.heap.size 60 5 (tof h v c ao m cap e) :=
  World.rowIs_alloc w _ _ _ (fun i hi => by
    rcases i with _ | _ | _ | _ | _ | i
    all_goals first | rfl | (simp at hi; omega))
theorem to_set {w : World} {g T : Nat} {f : Nat → Value} (hr : w.rowIs g T 5 f) (h v c : Int) (ao : Option Addr) (m cap : Nat) (e : Int) :
    (((((w.setCell ⟨g, 0, none⟩ (.int .i64 h)).setCell ⟨g, 1, none⟩ (.int .i64 v)).setCell ⟨g, 2, none⟩ (.int .i64 c)).setCell ⟨g, 3, none⟩ (.slice ao m cap)).setCell ⟨g, 4, none⟩ (.int .i64 e)).rowIs g T 5 (tof h v c ao m cap e) :=
  (((((hr.set 0 _).set 1 _).set 2 _).set 3 _).set 4 _).congr fun k hk => by
    rcases k with _ | _ | _ | _ | _ | k
    all_goals first | rfl | omega
theorem al_start (w : World) (kd h v c : Int) (ao : Option Addr) (m cap : Nat) (r s sy sx t l b q : Int) : ∃ W, (w.alloc (opo kd h v c ao m cap r s sy sx t l b q)).alloc (opo 0 0 0 0 none 0 0 0 0 0 0 0 0 0 0) = W ∧ W.rowIs w.heap.size 57 13 (opf kd h v c ao m cap r s sy sx t l b q) ∧ W.rowIs (w.heap.size + 1) 57 13 (opf 0 0 0 0 none 0 0 0 0 0 0 0 0 0 0) ∧ Below w.heap.size w W := by
  refine ⟨_, rfl, (op_new w _ _ _ _ _ _ _ _ _ _ _ _ _ _ _).alloc _, ?_, bl_alloc (bl_alloc (Below.refl _ _) _) _⟩
  have := op_new (w.alloc (opo kd h v c ao m cap r s sy sx t l b q)) 0 0 0 0 none 0 0 0 0 0 0 0 0 0 0
  rw [World.size_alloc] at this
  exact this
set_option maxHeartbeats 3200000 in
set_option maxRecDepth 100000 in
theorem alone_any (kd h v c : Int) (ao : Option Addr) (n ca N : Nat) (r s sy sx t l b q : Int) (w : World) (hn : n ≤ 17592186043904) (rd : Wr w ao n N) :
    Calls Try.prog 21 #[opv kd h v c ao n ca r s sy sx t l b q] w fun e w' => ∃ G, e = .returned (opv kd h v c (some ⟨G, 0, none⟩) n (n + 66) r s sy sx t l b q) ∧ w.heap.size ≤ G ∧ w'.rowIs G 66 (n + 66) (rmf N n) ∧ Below w.heap.size w w' := by
  have HR := hid1 (fun W r' => roomy_any n N ao ca W hn r')
  have HST := hid1 (al_start w kd h v c ao n ca r s sy sx t l b q)
  have RD := hid1 rd
  clear rd
  go_enter Try.func21, Try.ntmps21
  go_wp2_with fail
  refine gen_calls (fun W => W.rowIs w.heap.size 57 13 (opf kd h v c ao n ca r s sy sx t l b q) ∧ W.rowIs (w.heap.size + 1) 57 13 (opf 0 0 0 0 none 0 0 0 0 0 0 0 0 0 0) ∧ Below w.heap.size w W) (by obtain ⟨X, rfl, z⟩ := HST.out; exact z) ?_
  rintro W ⟨b0, b1, B0⟩
  refine (HR.out W (RD.out.below B0)).mono ?_
  rintro e w1 ⟨G, rfl, hG, row, hb⟩
  have lW := b1.lt
  replace b0 := keepr hb b0
  replace b1 := keepr hb b1
  have B1 := bl_step B0 hb
  clear hb B0
  obtain ⟨c0, c1, c2, c3, c4, c5, c6, c7, c8, c9, c10, c11, c12⟩ := op_cells b0
  have f4 := b0.frozen 4
  have HB0 := hid1 b0
  have HB1 := hid1 b1
  have HRW := hid1 row
  clear b0 b1 row
  go_upto_region 2 with fail
  have bt : But w.heap.size w1 (w1.setCell ⟨w.heap.size, 4, none⟩ (.slice (some ⟨G, 0, none⟩) n (n + 66))) := (But.refl _ _).set _
  refine gen_world (fun X => X.rowIs w.heap.size 57 13 (opf kd h v c (some ⟨G, 0, none⟩) n (n + 66) r s sy sx t l b q) ∧ X.rowIs (w.heap.size + 1) 57 13 (opf 0 0 0 0 none 0 0 0 0 0 0 0 0 0 0) ∧ X.rowIs G 66 (n + 66) (rmf N n) ∧ Below w.heap.size w X) ⟨op_words HB0.out _ _ _, bt.row (by omega) HB1.out, bt.row (by omega) HRW.out, bl_set B1 (Nat.le_refl _) _⟩ ?_
  clear HB0 HB1 HRW B1 c0 c1 c2 c3 c4 c5 c6 c7 c8 c9 c10 c11 c12 f4 bt
  rintro X ⟨b0, b1, row, B1⟩
  obtain ⟨c0, c1, c2, c3, c4, c5, c6, c7, c8, c9, c10, c11, c12⟩ := op_cells b0
  obtain ⟨d0, d1, d2, d3, d4, d5, d6, d7, d8, d9, d10, d11, d12⟩ := op_cells b1
  obtain ⟨f0, f1, f2, f3, f4, f5, f6, f7, f8, f9, f10, f11, f12⟩ := op_free b1
  have HB1 := hid1 b1
  have HRW := hid1 row
  clear b0 b1 row
  go_wp2_with fail
  have u := op_set HB1.out kd h v c (some ⟨G, 0, none⟩) n (n + 66) r s sy sx t l b q
  obtain ⟨u0, u1, u2, u3, u4, u5, u6, u7, u8, u9, u10, u11, u12⟩ := op_cells u
  have bt := But.setO (w.heap.size + 1) X kd h v c (some ⟨G, 0, none⟩) n (n + 66) r s sy sx t l b q
  exact bodyPost_ret (v := opv kd h v c (some ⟨G, 0, none⟩) n (n + 66) r s sy sx t l b q) (by simp [results, Try.results21, go_sem, u0, u1, u2, u3, u4, u5, u6, u7, u8, u9, u10, u11, u12]) rfl ⟨G, rfl, by omega, bt.row (by omega) HRW.out, bt.below (by omega) B1.size B1⟩
end Go.Proofs.Ytlghmojjcfjibaa
/- PoolScript: ran, meant, agree. -/
namespace Go.Proofs.Ytlghmojjcfjibaa
open Go.RowKit Go.Shelf

section
variable (kd h v c : Int) (m N : Nat) (r s sy sx t l b q : Int)
def sE : Int := if kd = 1 ∨ kd = 2 then poE h v c m N r s sy sx t l b q else 0
def sH : Int := if kd = 1 ∨ kd = 2 then aH h v c m N r s sy sx t l b q else 0
def sV : Int := if kd = 1 ∨ kd = 2 then aV h v c m N r s sy sx t l b q else 0
def sC : Int := if kd = 1 ∨ kd = 2 then aC h v c m N r s sy sx t l b q else 0
def sM : Nat := if kd = 1 ∨ kd = 2 then aM h v c m N r s sy sx t l b q else 0
def sX : Nat := if kd = 1 then aX h v c m N r s sy sx t l b q false else if kd = 2 then aX h v c m N r s sy sx t l b q true else 0
end
theorem sM_le (kd h v c : Int) (m N : Nat) (r s sy sx t l b q : Int) : sM kd h v c m N r s sy sx t l b q ≤ 1073741824 := by
  unfold sM
  split
  · exact aM_le _ _ _ _ _ _ _ _ _ _ _ _ _
  · omega
/-- An answer is written into the block that is handed out. -/
theorem told_end {w y : World} {b z M X : Nat} {bo : Option Addr} {h v c e : Int} {f : Nat → Value} {ob : Obj} (r : y.rowIs b 60 5 f) (hb : w.heap.size ≤ b ∧ b < z) (nw' : (bo = none ∧ M = 0 ∧ X = 0) ∨ ∃ G, bo = some ⟨G, 0, none⟩ ∧ z ≤ G ∧ y.rowIs G 66 M (wf X) ∧ X < 2 ^ (64 * M)) (B : Below w.heap.size w y) :
    ((((((y.setCell ⟨b, 0, none⟩ (.int .i64 h)).setCell ⟨b, 1, none⟩ (.int .i64 v)).setCell ⟨b, 2, none⟩ (.int .i64 c)).setCell ⟨b, 3, none⟩ (.slice bo M M)).setCell ⟨b, 4, none⟩ (.int .i64 e)).alloc ob).rowIs b 60 5 (tof h v c bo M M e) ∧ Nw w ((((((y.setCell ⟨b, 0, none⟩ (.int .i64 h)).setCell ⟨b, 1, none⟩ (.int .i64 v)).setCell ⟨b, 2, none⟩ (.int .i64 c)).setCell ⟨b, 3, none⟩ (.slice bo M M)).setCell ⟨b, 4, none⟩ (.int .i64 e)).alloc ob) bo M X ∧ Below w.heap.size w ((((((y.setCell ⟨b, 0, none⟩ (.int .i64 h)).setCell ⟨b, 1, none⟩ (.int .i64 v)).setCell ⟨b, 2, none⟩ (.int .i64 c)).setCell ⟨b, 3, none⟩ (.slice bo M M)).setCell ⟨b, 4, none⟩ (.int .i64 e)).alloc ob) := by
  obtain ⟨hb1, hb2⟩ := hb
  have bt : But b y (((((y.setCell ⟨b, 0, none⟩ (.int .i64 h)).setCell ⟨b, 1, none⟩ (.int .i64 v)).setCell ⟨b, 2, none⟩ (.int .i64 c)).setCell ⟨b, 3, none⟩ (.slice bo M M)).setCell ⟨b, 4, none⟩ (.int .i64 e)) := (((((But.refl b y).set _).set _).set _).set _).set _
  refine ⟨(to_set r _ _ _ _ _ _ _).alloc _, ?_, bl_alloc (bt.below hb1 B.size B) _⟩
  rcases nw' with ⟨rfl, rfl, rfl⟩ | ⟨G, rfl, hG, row, hX⟩
  · exact .inl ⟨rfl, rfl, rfl⟩
  · exact .inr ⟨G, rfl, by omega, (bt.row (by omega) row).alloc _, hX⟩
theorem rn_start (w : World) (kd h v c : Int) (ao : Option Addr) (m cap : Nat) (r s sy sx t l b q : Int) : ∃ W, (w.alloc (opo kd h v c ao m cap r s sy sx t l b q)).alloc (too 0 0 0 none 0 0 0) = W ∧ W.heap.size = w.heap.size + 2 ∧ W.rowIs w.heap.size 57 13 (opf kd h v c ao m cap r s sy sx t l b q) ∧ W.rowIs (w.heap.size + 1) 60 5 (tof 0 0 0 none 0 0 0) ∧ Below w.heap.size w W := by
  refine ⟨_, rfl, by simp, (op_new w _ _ _ _ _ _ _ _ _ _ _ _ _ _ _).alloc _, ?_, bl_alloc (bl_alloc (Below.refl _ _) _) _⟩
  have := to_new (w.alloc (opo kd h v c ao m cap r s sy sx t l b q)) 0 0 0 none 0 0 0
  rw [World.size_alloc] at this
  exact this
theorem to_cells {w : World} {g T : Nat} {h v c e : Int} {ao : Option Addr} {m cap : Nat} (hr : w.rowIs g T 5 (tof h v c ao m cap e)) : w.cell? ⟨g, 0, none⟩ = some (.int .i64 h) ∧ w.cell? ⟨g, 1, none⟩ = some (.int .i64 v) ∧ w.cell? ⟨g, 2, none⟩ = some (.int .i64 c) ∧ w.cell? ⟨g, 3, none⟩ = some (.slice ao m cap) ∧ w.cell? ⟨g, 4, none⟩ = some (.int .i64 e) :=
  ⟨hr.cell (i := 0) (by omega), hr.cell (i := 1) (by omega), hr.cell (i := 2) (by omega), hr.cell (i := 3) (by omega), hr.cell (i := 4) (by omega)⟩
theorem to_free {w : World} {g T n : Nat} {f : Nat → Value} (hr : w.rowIs g T n f) : w.frozen? ⟨g, 0, none⟩ = false ∧ w.frozen? ⟨g, 1, none⟩ = false ∧ w.frozen? ⟨g, 2, none⟩ = false ∧ w.frozen? ⟨g, 3, none⟩ = false ∧ w.frozen? ⟨g, 4, none⟩ = false :=
  ⟨hr.frozen 0, hr.frozen 1, hr.frozen 2, hr.frozen 3, hr.frozen 4⟩
set_option maxHeartbeats 3200000 in
set_option maxRecDepth 100000 in
theorem ran_any (kd h v c : Int) (ao : Option Addr) (n ca N : Nat) (r s sy sx t l b q : Int) (w : World) (hnc : n ≤ ca) (hca : ca ≤ 9223372036854775807) (rd : Wr w ao n N) :
    Calls Try.prog 22 #[opv kd h v c ao n ca r s sy sx t l b q] w fun e w' => ∃ bo, e = .returned (tov (sH kd h v c n N r s sy sx t l b q) (sV kd h v c n N r s sy sx t l b q) (sC kd h v c n N r s sy sx t l b q) bo (sM kd h v c n N r s sy sx t l b q) (sM kd h v c n N r s sy sx t l b q) (sE kd h v c n N r s sy sx t l b q)) ∧ Nw w w' bo (sM kd h v c n N r s sy sx t l b q) (sX kd h v c n N r s sy sx t l b q) ∧ Below w.heap.size w w' := by
  unfold sE sH sV sC sM sX
  have HST := hid1 (rn_start w kd h v c ao n ca r s sy sx t l b q)
  have RD := hid1 rd
  clear rd
  by_cases k1 : kd = 1
  · subst k1
    simp only [true_or, if_true]
    have HX := hid1 (fun W r' => max_fn h v c ao n ca N r s sy sx t l b q W hnc hca r')
    generalize aH h v c n N r s sy sx t l b q = h' at *
    generalize aV h v c n N r s sy sx t l b q = v' at *
    generalize aC h v c n N r s sy sx t l b q = c' at *
    generalize aM h v c n N r s sy sx t l b q = M at *
    generalize aX h v c n N r s sy sx t l b q false = X at *
    generalize poE h v c n N r s sy sx t l b q = E at *
    go_enter Try.func22, Try.ntmps22
    go_upto_region 1 with fail
    refine gen_world (fun W => W.heap.size = w.heap.size + 2 ∧ W.rowIs w.heap.size 57 13 (opf 1 h v c ao n ca r s sy sx t l b q) ∧ W.rowIs (w.heap.size + 1) 60 5 (tof 0 0 0 none 0 0 0) ∧ Below w.heap.size w W) (by obtain ⟨X, rfl, z⟩ := HST.out; exact z) ?_
    rintro W ⟨z0, b0, b1, B0⟩
    obtain ⟨c0, c1, c2, c3, c4, c5, c6, c7, c8, c9, c10, c11, c12⟩ := op_cells b0
    clear HST
    have RW := RD.out.below B0
    have B1 := B0
    clear B0 b0
    go_wp2_with fail
    refine (HX.out W RW).mono ?_
    rintro e w2 ⟨bo, rfl, nw', hb⟩
    replace b1 := keepr hb b1
    have B2 := bl_step B1 hb
    have zz := hb.size
    clear hb B1
    obtain ⟨d0, d1, d2, d3, d4⟩ := to_cells b1
    obtain ⟨f0, f1, f2, f3, f4⟩ := to_free b1
    have l1 := b1.lt
    have HB1 := hid1 b1
    have NW := hid1 nw'
    clear b1 nw'
    go_wp2_with fail
    obtain ⟨q1, q2, q3⟩ := told_end (h := h') (v := v') (c := c') (e := E) (ob := .cells #[.int .i64 h', .int .i64 v', .int .i64 c', .slice bo M M] 26) HB1.out (And.intro (Nat.le_add_right w.heap.size 1) (show w.heap.size + 1 < W.heap.size by omega)) NW.out B2
    obtain ⟨u0, u1, u2, u3, u4⟩ := to_cells q1
    exact bodyPost_ret (v := tov h' v' c' bo M M E) (by simp [results, Try.results22, go_sem, u0, u1, u2, u3, u4]) rfl ⟨bo, rfl, q2, q3⟩
  · by_cases k2 : kd = 2
    · subst k2
      simp only [or_true, if_true, show ¬ (2 : Int) = 1 by decide, if_false]
      have HX := hid1 (fun W r' => min_fn h v c ao n ca N r s sy sx t l b q W hnc hca r')
      generalize aH h v c n N r s sy sx t l b q = h' at *
      generalize aV h v c n N r s sy sx t l b q = v' at *
      generalize aC h v c n N r s sy sx t l b q = c' at *
      generalize aM h v c n N r s sy sx t l b q = M at *
      generalize aX h v c n N r s sy sx t l b q true = X at *
      generalize poE h v c n N r s sy sx t l b q = E at *
      go_enter Try.func22, Try.ntmps22
      go_upto_region 1 with fail
      refine gen_world (fun W => W.heap.size = w.heap.size + 2 ∧ W.rowIs w.heap.size 57 13 (opf 2 h v c ao n ca r s sy sx t l b q) ∧ W.rowIs (w.heap.size + 1) 60 5 (tof 0 0 0 none 0 0 0) ∧ Below w.heap.size w W) (by obtain ⟨X, rfl, z⟩ := HST.out; exact z) ?_
      rintro W ⟨z0, b0, b1, B0⟩
      obtain ⟨c0, c1, c2, c3, c4, c5, c6, c7, c8, c9, c10, c11, c12⟩ := op_cells b0
      clear HST
      have RW := RD.out.below B0
      have B1 := B0
      clear B0 b0
      go_wp2_with fail
      refine (HX.out W RW).mono ?_
      rintro e w2 ⟨bo, rfl, nw', hb⟩
      replace b1 := keepr hb b1
      have B2 := bl_step B1 hb
      have zz := hb.size
      clear hb B1
      obtain ⟨d0, d1, d2, d3, d4⟩ := to_cells b1
      obtain ⟨f0, f1, f2, f3, f4⟩ := to_free b1
      have l1 := b1.lt
      have HB1 := hid1 b1
      have NW := hid1 nw'
      clear b1 nw'
      go_wp2_with fail
      obtain ⟨q1, q2, q3⟩ := told_end (h := h') (v := v') (c := c') (e := E) (ob := .cells #[.int .i64 h', .int .i64 v', .int .i64 c', .slice bo M M] 26) HB1.out (And.intro (Nat.le_add_right w.heap.size 1) (show w.heap.size + 1 < W.heap.size by omega)) NW.out B2
      obtain ⟨u0, u1, u2, u3, u4⟩ := to_cells q1
      exact bodyPost_ret (v := tov h' v' c' bo M M E) (by simp [results, Try.results22, go_sem, u0, u1, u2, u3, u4]) rfl ⟨bo, rfl, q2, q3⟩
    · simp only [k1, k2, or_self, if_false]
      go_enter Try.func22, Try.ntmps22
      go_upto_region 1 with fail
      refine gen_world (fun W => W.heap.size = w.heap.size + 2 ∧ W.rowIs w.heap.size 57 13 (opf kd h v c ao n ca r s sy sx t l b q) ∧ W.rowIs (w.heap.size + 1) 60 5 (tof 0 0 0 none 0 0 0) ∧ Below w.heap.size w W) (by obtain ⟨X, rfl, z⟩ := HST.out; exact z) ?_
      rintro W ⟨z0, b0, b1, B0⟩
      obtain ⟨c0, c1, c2, c3, c4, c5, c6, c7, c8, c9, c10, c11, c12⟩ := op_cells b0
      clear HST
      have RW := RD.out.below B0
      have B1 := B0
      clear B0 b0
      obtain ⟨d0, d1, d2, d3, d4⟩ := to_cells b1
      obtain ⟨f0, f1, f2, f3, f4⟩ := to_free b1
      have l1 := b1.lt
      have HB1 := hid1 b1
      clear b1
      go_wp2_with fail
      have u := to_set HB1.out 0 0 0 none 0 0 0
      obtain ⟨u0, u1, u2, u3, u4⟩ := to_cells u
      exact bodyPost_ret (v := tov 0 0 0 none 0 0 0) (by simp [results, Try.results22, go_sem, u0, u1, u2, u3, u4]) rfl ⟨none, rfl, .inl ⟨rfl, rfl, rfl⟩, bl_set (bl_set (bl_set (bl_set (bl_set B1 (by omega) _) (by omega) _) (by omega) _) (by omega) _) (by omega) _⟩
set_option maxHeartbeats 3200000 in
set_option maxRecDepth 100000 in
theorem meant_any (kd h v c : Int) (ao : Option Addr) (n ca N : Nat) (r s sy sx t l b q : Int) (w : World) (hn : n ≤ 17592186043904) (rd : Wr w ao n N) :
    Calls Try.prog 32 #[opv kd h v c ao n ca r s sy sx t l b q] w fun e w' => ∃ bo, e = .returned (tov (sH kd h v c n N r s sy sx t l b q) (sV kd h v c n N r s sy sx t l b q) (sC kd h v c n N r s sy sx t l b q) bo (sM kd h v c n N r s sy sx t l b q) (sM kd h v c n N r s sy sx t l b q) (sE kd h v c n N r s sy sx t l b q)) ∧ Nw w w' bo (sM kd h v c n N r s sy sx t l b q) (sX kd h v c n N r s sy sx t l b q) ∧ Below w.heap.size w w' := by
  unfold sE sH sV sC sM sX
  have HST := hid1 (rn_start w kd h v c ao n ca r s sy sx t l b q)
  have RD := hid1 rd
  clear rd
  have HAL := hid1 (fun W r' => alone_any kd h v c ao n ca N r s sy sx t l b q W hn r')
  by_cases k1 : kd = 1
  · subst k1
    simp only [true_or, if_true]
    have HX := hid1 (fun G W r' => rmax_fn h v c (some ⟨G, 0, none⟩) n (n + 66) N r s sy sx t l b q W r')
    generalize aH h v c n N r s sy sx t l b q = h' at *
    generalize aV h v c n N r s sy sx t l b q = v' at *
    generalize aC h v c n N r s sy sx t l b q = c' at *
    generalize aM h v c n N r s sy sx t l b q = M at *
    generalize aX h v c n N r s sy sx t l b q false = X at *
    generalize poE h v c n N r s sy sx t l b q = E at *
    go_enter Try.func32, Try.ntmps32
    go_upto_region 1 with fail
    refine gen_world (fun W => W.heap.size = w.heap.size + 2 ∧ W.rowIs w.heap.size 57 13 (opf 1 h v c ao n ca r s sy sx t l b q) ∧ W.rowIs (w.heap.size + 1) 60 5 (tof 0 0 0 none 0 0 0) ∧ Below w.heap.size w W) (by obtain ⟨X, rfl, z⟩ := HST.out; exact z) ?_
    rintro W ⟨z0, b0, b1, B0⟩
    obtain ⟨c0, c1, c2, c3, c4, c5, c6, c7, c8, c9, c10, c11, c12⟩ := op_cells b0
    clear HST
    go_wp2_with fail
    refine (HAL.out W (RD.out.below B0)).mono ?_
    rintro e w1 ⟨G, rfl, hG, row, hb⟩
    replace b1 := keepr hb b1
    have B0' := bl_step B0 hb
    have z1 := hb.size
    have RW := rm_wr row RD.out.1
    have l1 := b1.lt
    clear hb B0 b0 row c0 c1 c2 c3 c4 c5 c6 c7 c8 c9 c10 c11 c12
    go_upto_region 2 with fail
    refine gen_world (fun V => V.heap.size = w1.heap.size + 1 ∧ V.rowIs w1.heap.size 57 13 (opf 1 h v c (some ⟨G, 0, none⟩) n (n + 66) r s sy sx t l b q) ∧ V.rowIs (w.heap.size + 1) 60 5 (tof 0 0 0 none 0 0 0) ∧ Wr V (some ⟨G, 0, none⟩) n N ∧ Below w.heap.size w V) ⟨by simp, op_new _ _ _ _ _ _ _ _ _ _ _ _ _ _ _ _, b1.alloc _, RW.below (bl_alloc (Below.refl _ _) _), bl_alloc B0' _⟩ ?_
    clear b1 RW B0'
    rintro V ⟨zV, b0, b1, RW, B1⟩
    obtain ⟨c0, c1, c2, c3, c4, c5, c6, c7, c8, c9, c10, c11, c12⟩ := op_cells b0
    clear b0
    go_wp2_with fail
    refine (HX.out G V RW).mono ?_
    rintro e w2 ⟨bo, rfl, nw', hb⟩
    replace b1 := keepr hb b1
    have B2 := bl_step B1 hb
    have zz := hb.size
    clear hb B1
    obtain ⟨d0, d1, d2, d3, d4⟩ := to_cells b1
    obtain ⟨f0, f1, f2, f3, f4⟩ := to_free b1
    have l1 := b1.lt
    have HB1 := hid1 b1
    have NW := hid1 nw'
    clear b1 nw'
    go_wp2_with fail
    obtain ⟨q1, q2, q3⟩ := told_end (h := h') (v := v') (c := c') (e := E) (ob := .cells #[.int .i64 h', .int .i64 v', .int .i64 c', .slice bo M M] 26) HB1.out (And.intro (Nat.le_add_right w.heap.size 1) (show w.heap.size + 1 < V.heap.size by omega)) NW.out B2
    obtain ⟨u0, u1, u2, u3, u4⟩ := to_cells q1
    exact bodyPost_ret (v := tov h' v' c' bo M M E) (by simp [results, Try.results32, go_sem, u0, u1, u2, u3, u4]) rfl ⟨bo, rfl, q2, q3⟩
  · by_cases k2 : kd = 2
    · subst k2
      simp only [or_true, if_true, show ¬ (2 : Int) = 1 by decide, if_false]
      have HX := hid1 (fun G W r' => rmin_fn h v c (some ⟨G, 0, none⟩) n (n + 66) N r s sy sx t l b q W r')
      generalize aH h v c n N r s sy sx t l b q = h' at *
      generalize aV h v c n N r s sy sx t l b q = v' at *
      generalize aC h v c n N r s sy sx t l b q = c' at *
      generalize aM h v c n N r s sy sx t l b q = M at *
      generalize aX h v c n N r s sy sx t l b q true = X at *
      generalize poE h v c n N r s sy sx t l b q = E at *
      go_enter Try.func32, Try.ntmps32
      go_upto_region 1 with fail
      refine gen_world (fun W => W.heap.size = w.heap.size + 2 ∧ W.rowIs w.heap.size 57 13 (opf 2 h v c ao n ca r s sy sx t l b q) ∧ W.rowIs (w.heap.size + 1) 60 5 (tof 0 0 0 none 0 0 0) ∧ Below w.heap.size w W) (by obtain ⟨X, rfl, z⟩ := HST.out; exact z) ?_
      rintro W ⟨z0, b0, b1, B0⟩
      obtain ⟨c0, c1, c2, c3, c4, c5, c6, c7, c8, c9, c10, c11, c12⟩ := op_cells b0
      clear HST
      go_wp2_with fail
      refine (HAL.out W (RD.out.below B0)).mono ?_
      rintro e w1 ⟨G, rfl, hG, row, hb⟩
      replace b1 := keepr hb b1
      have B0' := bl_step B0 hb
      have z1 := hb.size
      have RW := rm_wr row RD.out.1
      have l1 := b1.lt
      clear hb B0 b0 row c0 c1 c2 c3 c4 c5 c6 c7 c8 c9 c10 c11 c12
      go_upto_region 2 with fail
      refine gen_world (fun V => V.heap.size = w1.heap.size + 1 ∧ V.rowIs w1.heap.size 57 13 (opf 2 h v c (some ⟨G, 0, none⟩) n (n + 66) r s sy sx t l b q) ∧ V.rowIs (w.heap.size + 1) 60 5 (tof 0 0 0 none 0 0 0) ∧ Wr V (some ⟨G, 0, none⟩) n N ∧ Below w.heap.size w V) ⟨by simp, op_new _ _ _ _ _ _ _ _ _ _ _ _ _ _ _ _, b1.alloc _, RW.below (bl_alloc (Below.refl _ _) _), bl_alloc B0' _⟩ ?_
      clear b1 RW B0'
      rintro V ⟨zV, b0, b1, RW, B1⟩
      obtain ⟨c0, c1, c2, c3, c4, c5, c6, c7, c8, c9, c10, c11, c12⟩ := op_cells b0
      clear b0
      go_wp2_with fail
      refine (HX.out G V RW).mono ?_
      rintro e w2 ⟨bo, rfl, nw', hb⟩
      replace b1 := keepr hb b1
      have B2 := bl_step B1 hb
      have zz := hb.size
      clear hb B1
      obtain ⟨d0, d1, d2, d3, d4⟩ := to_cells b1
      obtain ⟨f0, f1, f2, f3, f4⟩ := to_free b1
      have l1 := b1.lt
      have HB1 := hid1 b1
      have NW := hid1 nw'
      clear b1 nw'
      go_wp2_with fail
      obtain ⟨q1, q2, q3⟩ := told_end (h := h') (v := v') (c := c') (e := E) (ob := .cells #[.int .i64 h', .int .i64 v', .int .i64 c', .slice bo M M] 26) HB1.out (And.intro (Nat.le_add_right w.heap.size 1) (show w.heap.size + 1 < V.heap.size by omega)) NW.out B2
      obtain ⟨u0, u1, u2, u3, u4⟩ := to_cells q1
      exact bodyPost_ret (v := tov h' v' c' bo M M E) (by simp [results, Try.results32, go_sem, u0, u1, u2, u3, u4]) rfl ⟨bo, rfl, q2, q3⟩
    · simp only [k1, k2, or_self, if_false]
      go_enter Try.func32, Try.ntmps32
      go_upto_region 1 with fail
      refine gen_world (fun W => W.heap.size = w.heap.size + 2 ∧ W.rowIs w.heap.size 57 13 (opf kd h v c ao n ca r s sy sx t l b q) ∧ W.rowIs (w.heap.size + 1) 60 5 (tof 0 0 0 none 0 0 0) ∧ Below w.heap.size w W) (by obtain ⟨X, rfl, z⟩ := HST.out; exact z) ?_
      rintro W ⟨z0, b0, b1, B0⟩
      obtain ⟨c0, c1, c2, c3, c4, c5, c6, c7, c8, c9, c10, c11, c12⟩ := op_cells b0
      clear HST
      go_wp2_with fail
      refine (HAL.out W (RD.out.below B0)).mono ?_
      rintro e w1 ⟨G, rfl, hG, row, hb⟩
      replace b1 := keepr hb b1
      have B0' := bl_step B0 hb
      have z1 := hb.size
      have RW := rm_wr row RD.out.1
      have l1 := b1.lt
      clear hb B0 b0 row c0 c1 c2 c3 c4 c5 c6 c7 c8 c9 c10 c11 c12
      go_upto_region 2 with fail
      refine gen_world (fun V => V.heap.size = w1.heap.size + 1 ∧ V.rowIs w1.heap.size 57 13 (opf kd h v c (some ⟨G, 0, none⟩) n (n + 66) r s sy sx t l b q) ∧ V.rowIs (w.heap.size + 1) 60 5 (tof 0 0 0 none 0 0 0) ∧ Wr V (some ⟨G, 0, none⟩) n N ∧ Below w.heap.size w V) ⟨by simp, op_new _ _ _ _ _ _ _ _ _ _ _ _ _ _ _ _, b1.alloc _, RW.below (bl_alloc (Below.refl _ _) _), bl_alloc B0' _⟩ ?_
      clear b1 RW B0'
      rintro V ⟨zV, b0, b1, RW, B1⟩
      obtain ⟨c0, c1, c2, c3, c4, c5, c6, c7, c8, c9, c10, c11, c12⟩ := op_cells b0
      clear b0
      obtain ⟨d0, d1, d2, d3, d4⟩ := to_cells b1
      obtain ⟨f0, f1, f2, f3, f4⟩ := to_free b1
      have l1 := b1.lt
      have HB1 := hid1 b1
      clear b1
      go_wp2_with fail
      have u := to_set HB1.out 0 0 0 none 0 0 0
      obtain ⟨u0, u1, u2, u3, u4⟩ := to_cells u
      exact bodyPost_ret (v := tov 0 0 0 none 0 0 0) (by simp [results, Try.results32, go_sem, u0, u1, u2, u3, u4]) rfl ⟨none, rfl, .inl ⟨rfl, rfl, rfl⟩, bl_set (bl_set (bl_set (bl_set (bl_set B1 (by omega) _) (by omega) _) (by omega) _) (by omega) _) (by omega) _⟩
set_option maxHeartbeats 1600000 in
set_option maxRecDepth 100000 in
theorem agree_true (h v c e : Int) (m N : Nat) (ao bo : Option Addr) (ca cb : Nat) (w : World) (hm : m ≤ 9223372036854775807) (ra : Wr w ao m N) (rb : Wr w bo m N) :
    Calls Try.prog 23 #[tov h v c ao m ca e, tov h v c bo m cb e] w fun e' w' => e' = .returned (.bool true) ∧ Below w.heap.size w w' := by
  have HA := hid1 ra
  have HB := hid1 rb
  clear ra rb
  go_enter Try.func23, Try.ntmps23
  go_wp2_with fail
  refine gen_calls (fun W => Below w.heap.size w W) (bl_alloc (bl_alloc (Below.refl _ _) _) _) ?_
  rintro W B0
  refine (cubes_same h v c m N ao bo ca cb W hm (HA.out.below B0) (HB.out.below B0)).mono ?_
  rintro e w1 ⟨rfl, hb⟩
  go_wp2_with fail
  go_ret
  exact ⟨rfl, bl_step B0 hb⟩
end Go.Proofs.Ytlghmojjcfjibaa
/- PoolScript: other. -/
namespace Go.Proofs.Ytlghmojjcfjibaa
open Go.RowKit Go.Shelf

theorem wd_two (i k : Nat) : wd (2 ^ i) k = if k = i / 64 then 2 ^ (i % 64) else 0 := by
  have h := or_wd 0 i k
  rw [Nat.zero_or] at h
  rw [h, wd_zero]
  split
  · rw [Nat.zero_or]
  · rfl
theorem xor_wdU (N i k : Nat) : wd (N ^^^ 2 ^ i) k = if k = i / 64 then wd N k ^^^ 2 ^ (i % 64) else wd N k := by
  rw [wd_xor, wd_two]
  split
  · rfl
  · rw [Nat.xor_zero]
/-- A list with one bit turned. -/
theorem rmf_flip {N n j sh : Nat} (hj : j < n) (hs : sh < 64) (k : Nat) : (if k = j then .int .u64 ((wd N j ^^^ 2 ^ sh : Nat) : Int) else rmf N n k) = rmf (N ^^^ 2 ^ (64 * j + sh)) n k := by
  have e1 : (64 * j + sh) / 64 = j := by omega
  have e2 : (64 * j + sh) % 64 = sh := by omega
  unfold rmf
  by_cases e : k = j
  · subst e
    rw [if_pos rfl, if_pos hj]
    unfold wf
    rw [xor_wdU, e1, e2, if_pos rfl]
  · rw [if_neg e]
    by_cases h : k < n
    · rw [if_pos h, if_pos h]
      unfold wf
      rw [xor_wdU, e1, if_neg e]
    · rw [if_neg h, if_neg h]
theorem flip_lt {N n j sh : Nat} (hN : N < 2 ^ (64 * n)) (hj : j < n) (hs : sh < 64) : N ^^^ 2 ^ (64 * j + sh) < 2 ^ (64 * n) :=
  Nat.xor_lt_two_pow hN (Nat.pow_lt_pow_right (by decide) (by omega))
theorem but_new {G0 x : Nat} {w W W' : World} (be : But G0 w W) (bt : But x W W') (hx : w.heap.size ≤ x) : But G0 w W' :=
  ⟨bt.os.trans be.os, bt.tape.trans be.tape, bt.output.trans be.output, Nat.le_trans be.size bt.size, fun i hi hn => (bt.block i (Nat.lt_of_lt_of_le hi be.size) (by omega)).trans (be.block i hi hn)⟩
/-- What other has in memory: the step, the block that is handed out, the list. -/
structure Ox (w W : World) (G0 : Nat) (kd h v c : Int) (G n N : Nat) (r s sy sx t l b q : Int) : Prop where
  op : W.rowIs w.heap.size 57 13 (opf kd h v c (some ⟨G, 0, none⟩) n (n + 66) r s sy sx t l b q)
  re : W.rowIs (w.heap.size + 1) 57 13 (opf 0 0 0 0 none 0 0 0 0 0 0 0 0 0 0)
  row : W.rowIs G 66 (n + 66) (rmf N n)
  lt : N < 2 ^ (64 * n)
  ne : G = G0 ∨ w.heap.size + 1 < G
  be : But G0 w W
theorem Ox.step {w W : World} {G0 : Nat} {kd h v c : Int} {G n N : Nat} {r s sy sx t l b q : Int} (k : Ox w W G0 kd h v c G n N r s sy sx t l b q) (hG : G0 < w.heap.size) (o : Nat) (x : Value) {kd' r' s' sx' : Int} (hr : (W.setCell ⟨w.heap.size, o, none⟩ x).rowIs w.heap.size 57 13 (opf kd' h v c (some ⟨G, 0, none⟩) n (n + 66) r' s' sy sx' t l b q)) : Ox w (W.setCell ⟨w.heap.size, o, none⟩ x) G0 kd' h v c G n N r' s' sy sx' t l b q := by
  have bt : But w.heap.size W (W.setCell ⟨w.heap.size, o, none⟩ x) := (But.refl _ _).set _
  have hne := k.ne
  refine ⟨hr, bt.row (by omega) k.re, bt.row (by omega) k.row, k.lt, k.ne, ⟨?_, ?_, ?_, ?_, fun i hi hn => ?_⟩⟩
  · exact bt.os.trans k.be.os
  · exact bt.tape.trans k.be.tape
  · exact bt.output.trans k.be.output
  · exact Nat.le_trans k.be.size bt.size
  · exact (bt.block i (Nat.lt_of_lt_of_le hi k.be.size) (by omega)).trans (k.be.block i hi hn)
theorem flip_ox {w W : World} {G0 : Nat} {kd h v c : Int} {G n N N' j nv : Nat} {r s sy sx t l b q : Int} (k : Ox w W G0 kd h v c G n N r s sy sx t l b q) (hG : G0 < w.heap.size) (hf : ∀ i, (if i = j then .int .u64 ((nv : Nat) : Int) else rmf N n i) = rmf N' n i) (hl : N' < 2 ^ (64 * n)) {y : Int} (hy : y = (nv : Nat)) : Ox w (W.drew.setCell ⟨G, j, none⟩ (.int .u64 y)) G0 kd h v c G n N' r s sy sx t l b q := by
  have hne := k.ne
  subst hy
  have bt : But G W (W.drew.setCell ⟨G, j, none⟩ (.int .u64 (nv : Nat))) := (But.refl G W).drew.set _
  refine ⟨bt.row (by omega) k.op, bt.row (by omega) k.re, (k.row.drew.set j _).congr fun i _ => hf i, hl, k.ne, ?_⟩
  rcases hne with e | e
  · subst e; exact k.be.trans bt
  · exact but_new k.be bt (by omega)
theorem op_r {w : World} {g T : Nat} {kd h v c : Int} {ao : Option Addr} {m cap : Nat} {r s sy sx t l b q : Int} (hr : w.rowIs g T 13 (opf kd h v c ao m cap r s sy sx t l b q)) (x : Int) : (w.setCell ⟨g, 5, none⟩ (.int .i64 x)).rowIs g T 13 (opf kd h v c ao m cap x s sy sx t l b q) :=
  (hr.set 5 _).congr fun k hk => by
    rcases k with _ | _ | _ | _ | _ | _ | _ | _ | _ | _ | _ | _ | _ | k
    all_goals first | rfl | omega
theorem op_s {w : World} {g T : Nat} {kd h v c : Int} {ao : Option Addr} {m cap : Nat} {r s sy sx t l b q : Int} (hr : w.rowIs g T 13 (opf kd h v c ao m cap r s sy sx t l b q)) (x : Int) : (w.setCell ⟨g, 6, none⟩ (.int .i64 x)).rowIs g T 13 (opf kd h v c ao m cap r x sy sx t l b q) :=
  (hr.set 6 _).congr fun k hk => by
    rcases k with _ | _ | _ | _ | _ | _ | _ | _ | _ | _ | _ | _ | _ | k
    all_goals first | rfl | omega
theorem op_sx {w : World} {g T : Nat} {kd h v c : Int} {ao : Option Addr} {m cap : Nat} {r s sy sx t l b q : Int} (hr : w.rowIs g T 13 (opf kd h v c ao m cap r s sy sx t l b q)) (x : Int) : (w.setCell ⟨g, 8, none⟩ (.int .i64 x)).rowIs g T 13 (opf kd h v c ao m cap r s sy x t l b q) :=
  (hr.set 8 _).congr fun k hk => by
    rcases k with _ | _ | _ | _ | _ | _ | _ | _ | _ | _ | _ | _ | _ | k
    all_goals first | rfl | omega
theorem op_kd {w : World} {g T : Nat} {kd h v c : Int} {ao : Option Addr} {m cap : Nat} {r s sy sx t l b q : Int} (hr : w.rowIs g T 13 (opf kd h v c ao m cap r s sy sx t l b q)) (x : Int) : (w.setCell ⟨g, 0, none⟩ (.int .i64 x)).rowIs g T 13 (opf x h v c ao m cap r s sy sx t l b q) :=
  (hr.set 0 _).congr fun k hk => by
    rcases k with _ | _ | _ | _ | _ | _ | _ | _ | _ | _ | _ | _ | _ | k
    all_goals first | rfl | omega
set_option maxHeartbeats 6400000 in
set_option maxRecDepth 100000 in
theorem other_any (kd h v c : Int) (G0 n N : Nat) (r s sy sx t l b q k : Int) (w : World) (hn : n ≤ 17592186043904) (hk : -9223372036854775808 ≤ k ∧ k ≤ 9223372036854775807) (row : w.rowIs G0 66 (n + 66) (rmf N n)) (hN : N < 2 ^ (64 * n)) :
    Calls Try.prog 31 #[opv kd h v c (some ⟨G0, 0, none⟩) n (n + 66) r s sy sx t l b q, .int .i64 k] w fun e w' => ∃ kd' r' s' sx' G N', e = .returned (opv kd' h v c (some ⟨G, 0, none⟩) n (n + 66) r' s' sy sx' t l b q) ∧ (G = G0 ∨ w.heap.size ≤ G) ∧ w'.rowIs G 66 (n + 66) (rmf N' n) ∧ N' < 2 ^ (64 * n) ∧ But G0 w w' := by
  have hG := row.lt
  have HST := hid1 (al_start w kd h v c (some ⟨G0, 0, none⟩) n (n + 66) r s sy sx t l b q)
  have HAL := hid1 (fun W r' => alone_any kd h v c (some ⟨G0, 0, none⟩) n (n + 66) N r s sy sx t l b q W hn r')
  have ROW := hid1 row
  clear row
  go_enter Try.func31, Try.ntmps31
  go_upto_region 1 with fail
  refine gen_world (fun X => Ox w X G0 kd h v c G0 n N r s sy sx t l b q) (by obtain ⟨X, rfl, z1, z2, z3⟩ := HST.out; exact ⟨z1, z2, keepr z3 ROW.out, hN, .inl rfl, But.of_below z3⟩) ?_
  clear HST
  rintro W ox
  go_upto_if 7 with fail
  go_cut [1] (fun s1 wx => (∃ K : Nat, s1 = .int .i64 K ∧ K ≤ 9223372036854775807) ∧ wx = W)
  case first =>
    by_cases hneg : k < 0
    · go_wp2_with fail
      go_meet
      exact ⟨⟨(-(k + 1)).toNat, by congr 1; omega, by omega⟩, rfl⟩
    · go_wp2_with fail
      go_meet
      exact ⟨⟨k.toNat, by congr 1; omega, by omega⟩, rfl⟩
  case rest =>
    obtain ⟨⟨K, rfl, hK⟩, rfl⟩ := hcut
    rename World => W1
    have im : (K : Int).tmod 2 = ((K % 2 : Nat) : Int) := by rw [Int.tmod_eq_emod_of_nonneg (by omega)]; omega
    have im' : (K : Int) % 2 = ((K % 2 : Nat) : Int) := by omega
    have i2 : (K : Int).tdiv 2 = ((K / 2 : Nat) : Int) := by rw [Int.tdiv_eq_ediv_of_nonneg (by omega)]; omega
    have i2' : (K : Int) / 2 = ((K / 2 : Nat) : Int) := by omega
    have i8 : (K : Int).tdiv 8 = ((K / 8 : Nat) : Int) := by rw [Int.tdiv_eq_ediv_of_nonneg (by omega)]; omega
    have i8' : (K : Int) / 8 = ((K / 8 : Nat) : Int) := by omega
    have i4 : ((K / 2 : Nat) : Int).tmod 4 = ((K / 2 % 4 : Nat) : Int) := by rw [Int.tmod_eq_emod_of_nonneg (by omega)]; omega
    have i4' : ((K / 2 : Nat) : Int) % 4 = ((K / 2 % 4 : Nat) : Int) := by omega
    have hhw : K / 2 % 4 < 4 := Nat.mod_lt _ (by decide)
    have h8 : K / 8 ≤ 9223372036854775807 := by omega
    have hmd : K % 2 < 2 := Nat.mod_lt _ (by decide)
    have h2 : K / 2 ≤ 9223372036854775807 := by omega
    generalize K % 2 = md at *
    generalize K / 2 % 4 = hw at *
    generalize K / 2 = K2 at *
    generalize K / 8 = K8 at *
    go_upto_if 13 with fail
    go_cut [] (fun wx => ∃ G, Ox w wx G0 kd h v c G n N r s sy sx t l b q)
    case first =>
      by_cases hm1 : md = 1
      · subst hm1
        obtain ⟨c0, c1, c2, c3, c4, c5, c6, c7, c8, c9, c10, c11, c12⟩ := op_cells ox.op
        have hl := ox.row.lt
        have l1 := ox.re.lt
        go_wp2_with fail
        refine (HAL.out W1 (rm_wr ox.row hN)).mono ?_
        rintro e w2 ⟨G, rfl, hG2, row2, hb⟩
        have o2 := keepr hb ox.op
        have r2 := keepr hb ox.re
        have be2 := ox.be.trans (But.of_below hb)
        clear hb c0 c1 c2 c3 c4 c5 c6 c7 c8 c9 c10 c11 c12
        obtain ⟨c0, c1, c2, c3, c4, c5, c6, c7, c8, c9, c10, c11, c12⟩ := op_cells o2
        obtain ⟨f0, f1, f2, f3, f4, f5, f6, f7, f8, f9, f10, f11, f12⟩ := op_free o2
        have HO := hid1 o2
        have zb := ox.be.size
        go_wp2_with fail
        go_meet
        have bt := But.setO w.heap.size w2 kd h v c (some ⟨G, 0, none⟩) n (n + 66) r s sy sx t l b q
        exact ⟨G, op_set HO.out _ _ _ _ _ _ _ _ _ _ _ _ _ _ _, bt.row (by omega) r2, bt.row (by omega) row2, hN, .inr (by omega), but_new be2 bt (Nat.le_refl _)⟩
      · have hm0 : ¬ (md : Int) = 1 := by omega
        go_wp2_with fail
        go_meet
        exact ⟨_, ox⟩
    case rest =>
      obtain ⟨G, ox2⟩ := hcut
      rename World => W2
      clear ox HAL
      have hne := ox2.ne
      obtain ⟨c0, c1, c2, c3, c4, c5, c6, c7, c8, c9, c10, c11, c12⟩ := op_cells ox2.op
      obtain ⟨f0, f1, f2, f3, f4, f5, f6, f7, f8, f9, f10, f11, f12⟩ := op_free ox2.op
      by_cases hA : hw < 2
      · have hA' : (hw : Int) < 2 := by omega
        by_cases hn0 : 0 < n
        · have hn1 : (0 : Int) < (n : Int) := by omega
          have hn2 : ¬ (n : Int) = 0 := by omega
          have hn3 : ¬ n = 0 := by omega
          obtain ⟨j, hj⟩ : ∃ j, K8 % n = j := ⟨_, rfl⟩
          have hjn : j < n := by rw [← hj]; exact Nat.mod_lt _ hn0
          have ij : (K8 : Int) % (n : Int) = (j : Int) := by rw [← hj]; push_cast; rfl
          have ij' : (K8 : Int).tmod (n : Int) = (j : Int) := by rw [Int.tmod_eq_emod_of_nonneg (by omega)]; exact ij
          obtain ⟨k5, hk5⟩ : ∃ j, K8 / 5 = j := ⟨_, rfl⟩
          have i5 : (K8 : Int) / 5 = (k5 : Int) := by omega
          have i5' : (K8 : Int).tdiv 5 = (k5 : Int) := by rw [Int.tdiv_eq_ediv_of_nonneg (by omega)]; exact i5
          obtain ⟨sh, hsh⟩ : ∃ j, k5 % 64 = j := ⟨_, rfl⟩
          have hs64 : sh < 64 := by omega
          have is6 : (k5 : Int) % 64 = (sh : Int) := by omega
          have is6' : (k5 : Int).tmod 64 = (sh : Int) := by rw [Int.tmod_eq_emod_of_nonneg (by omega)]; exact is6
          have w5 : IntKind.i64.wrap (k5 : Int) = (k5 : Int) := by rw [IntKind.wrap_i64]; omega
          have wj : IntKind.i64.wrap (j : Int) = (j : Int) := by rw [IntKind.wrap_i64]; omega
          have ws : IntKind.i64.wrap (sh : Int) = (sh : Int) := by rw [IntKind.wrap_i64]; omega
          have ij0 : (0 : Int) ≤ (j : Int) := by omega
          have ijn : (j : Int) < (n : Int) := by omega
          have ir0 : (0 : Int) ≤ (sh : Int) := by omega
          have ir1 : (sh : Int) ≤ 63 := by omega
          have cw := ox2.row.cell (i := j) (by omega)
          have fw := ox2.row.frozen j
          rw [show rmf N n j = wf N j by unfold rmf; rw [if_pos hjn]] at cw
          unfold wf at cw
          have hxx := wd_lt N j
          have HXO : Hid (bits .xor .u64 (wd N j : Nat) (IntKind.u64.wrap (2 ^ sh)) = ((wd N j ^^^ 2 ^ sh : Nat) : Int)) := by
            have H64 : (2 : Nat) ^ sh < 18446744073709551616 := by rw [two64]; exact Nat.pow_lt_pow_right (by decide) (by omega)
            have e : IntKind.u64.wrap (2 ^ sh) = ((2 ^ sh : Nat) : Int) := by
              rw [show ((2 : Int) ^ sh) = ((2 ^ sh : Nat) : Int) by simp, IntKind.wrap_u64]
              generalize 2 ^ sh = y at *; omega
            rw [e]; exact xor_u64 _ _ hxx H64
          have HFL := hid1 (fun k => rmf_flip (N := N) hjn hs64 k)
          have HLT := hid1 (flip_lt ox2.lt hjn hs64)
          generalize wd N j ^^^ 2 ^ sh = nv at *
          generalize wd N j = ov at *
          have HOX := hid1 ox2
          clear ox2 hj hk5 hsh
          go_upto_region 8 with fail
          refine still_tail 26 (by kernel_rfl) ?_
          simp only [List.take_succ_cons, List.take_zero, List.drop_succ_cons, List.drop_zero]
          repeat still_step
          refine wpStill_nil ?_
          go_upto_region 15 with fail
          refine gen_world (fun X => Ox w X G0 (kd) h v c G n (N ^^^ 2 ^ (64 * j + sh)) (r) (s) sy (sx) t l b q) (flip_ox HOX.out hG HFL.out HLT.out HXO.out) ?_
          rintro X9 ox3
          clear c0 c1 c2 c3 c4 c5 c6 c7 c8 c9 c10 c11 c12 f0 f1 f2 f3 f4 f5 f6 f7 f8 f9 f10 f11 f12
          obtain ⟨c0, c1, c2, c3, c4, c5, c6, c7, c8, c9, c10, c11, c12⟩ := op_cells ox3.op
          obtain ⟨d0, d1, d2, d3, d4, d5, d6, d7, d8, d9, d10, d11, d12⟩ := op_cells ox3.re
          obtain ⟨f0, f1, f2, f3, f4, f5, f6, f7, f8, f9, f10, f11, f12⟩ := op_free ox3.re
          have HX := hid1 ox3
          clear ox3
          go_wp2_with fail
          have u := op_set HX.out.re (kd) h v c (some ⟨G, 0, none⟩) n (n + 66) (r) (s) sy (sx) t l b q
          obtain ⟨u0, u1, u2, u3, u4, u5, u6, u7, u8, u9, u10, u11, u12⟩ := op_cells u
          have bt := But.setO (w.heap.size + 1) X9 (kd) h v c (some ⟨G, 0, none⟩) n (n + 66) (r) (s) sy (sx) t l b q
          exact bodyPost_ret (v := opv (kd) h v c (some ⟨G, 0, none⟩) n (n + 66) (r) (s) sy (sx) t l b q) (by simp [results, Try.results31, go_sem, u0, u1, u2, u3, u4, u5, u6, u7, u8, u9, u10, u11, u12]) rfl ⟨kd, r, s, sx, G, N ^^^ 2 ^ (64 * j + sh), rfl, by omega, bt.row (by omega) HX.out.row, HX.out.lt, but_new HX.out.be bt (by omega)⟩
        · have hz : ¬ (0 : Int) < (n : Int) := by omega
          have e2 : ¬ (hw : Int) = 2 := by omega
          have e3 : ¬ (hw : Int) = 3 := by omega
          go_upto_region 15 with fail
          refine gen_world (fun X => Ox w X G0 (kd) h v c G n (N) (r) (s) sy (sx) t l b q) (ox2) ?_
          rintro X9 ox3
          clear ox2 c0 c1 c2 c3 c4 c5 c6 c7 c8 c9 c10 c11 c12 f0 f1 f2 f3 f4 f5 f6 f7 f8 f9 f10 f11 f12
          obtain ⟨c0, c1, c2, c3, c4, c5, c6, c7, c8, c9, c10, c11, c12⟩ := op_cells ox3.op
          obtain ⟨d0, d1, d2, d3, d4, d5, d6, d7, d8, d9, d10, d11, d12⟩ := op_cells ox3.re
          obtain ⟨f0, f1, f2, f3, f4, f5, f6, f7, f8, f9, f10, f11, f12⟩ := op_free ox3.re
          have HX := hid1 ox3
          clear ox3
          go_wp2_with fail
          have u := op_set HX.out.re (kd) h v c (some ⟨G, 0, none⟩) n (n + 66) (r) (s) sy (sx) t l b q
          obtain ⟨u0, u1, u2, u3, u4, u5, u6, u7, u8, u9, u10, u11, u12⟩ := op_cells u
          have bt := But.setO (w.heap.size + 1) X9 (kd) h v c (some ⟨G, 0, none⟩) n (n + 66) (r) (s) sy (sx) t l b q
          exact bodyPost_ret (v := opv (kd) h v c (some ⟨G, 0, none⟩) n (n + 66) (r) (s) sy (sx) t l b q) (by simp [results, Try.results31, go_sem, u0, u1, u2, u3, u4, u5, u6, u7, u8, u9, u10, u11, u12]) rfl ⟨kd, r, s, sx, G, rfl, by omega, N, bt.row (by omega) HX.out.row, HX.out.lt, but_new HX.out.be bt (by omega)⟩
      · have hA' : ¬ (hw : Int) < 2 := by omega
        by_cases hB : hw = 2
        · subst hB
          obtain ⟨j, hj⟩ : ∃ j, K8 % 3 = j := ⟨_, rfl⟩
          have ij : (K8 : Int) % 3 = (j : Int) := by omega
          have ij' : (K8 : Int).tmod 3 = (j : Int) := by rw [Int.tmod_eq_emod_of_nonneg (by omega)]; exact ij
          obtain ⟨k3, hk3⟩ : ∃ j, K8 / 3 = j := ⟨_, rfl⟩
          have i3 : (K8 : Int) / 3 = (k3 : Int) := by omega
          have i3' : (K8 : Int).tdiv 3 = (k3 : Int) := by rw [Int.tdiv_eq_ediv_of_nonneg (by omega)]; exact i3
          obtain ⟨j3, hj3⟩ : ∃ j, k3 % 3 = j := ⟨_, rfl⟩
          have ij3 : (k3 : Int) % 3 = (j3 : Int) := by omega
          have ij3' : (k3 : Int).tmod 3 = (j3 : Int) := by rw [Int.tmod_eq_emod_of_nonneg (by omega)]; exact ij3
          obtain ⟨k9, hk9⟩ : ∃ j, K8 / 9 = j := ⟨_, rfl⟩
          have i9 : (K8 : Int) / 9 = (k9 : Int) := by omega
          have i9' : (K8 : Int).tdiv 9 = (k9 : Int) := by rw [Int.tdiv_eq_ediv_of_nonneg (by omega)]; exact i9
          obtain ⟨j9, hj9⟩ : ∃ j, k9 % 2 = j := ⟨_, rfl⟩
          have ij9 : (k9 : Int) % 2 = (j9 : Int) := by omega
          have ij9' : (k9 : Int).tmod 2 = (j9 : Int) := by rw [Int.tmod_eq_emod_of_nonneg (by omega)]; exact ij9
          have hj' : j < 3 := by omega
          have hj3' : j3 < 3 := by omega
          have hj9' : j9 < 2 := by omega
          have HOX := hid1 ox2
          clear ox2 hj hk3 hj3 hk9 hj9
          go_upto_region 15 with fail
          refine gen_world (fun X => Ox w X G0 (kd) h v c G n (N) (1 + (j : Int)) (1 + (j3 : Int)) sy (1 + (j9 : Int)) t l b q) ((HOX.out.step hG 5 _ (op_r HOX.out.op _)) |> fun o1 => (o1.step hG 6 _ (op_s o1.op _)) |> fun o2 => o2.step hG 8 _ (op_sx o2.op _)) ?_
          rintro X9 ox3
          clear c0 c1 c2 c3 c4 c5 c6 c7 c8 c9 c10 c11 c12 f0 f1 f2 f3 f4 f5 f6 f7 f8 f9 f10 f11 f12
          obtain ⟨c0, c1, c2, c3, c4, c5, c6, c7, c8, c9, c10, c11, c12⟩ := op_cells ox3.op
          obtain ⟨d0, d1, d2, d3, d4, d5, d6, d7, d8, d9, d10, d11, d12⟩ := op_cells ox3.re
          obtain ⟨f0, f1, f2, f3, f4, f5, f6, f7, f8, f9, f10, f11, f12⟩ := op_free ox3.re
          have HX := hid1 ox3
          clear ox3
          go_wp2_with fail
          have u := op_set HX.out.re (kd) h v c (some ⟨G, 0, none⟩) n (n + 66) (1 + (j : Int)) (1 + (j3 : Int)) sy (1 + (j9 : Int)) t l b q
          obtain ⟨u0, u1, u2, u3, u4, u5, u6, u7, u8, u9, u10, u11, u12⟩ := op_cells u
          have bt := But.setO (w.heap.size + 1) X9 (kd) h v c (some ⟨G, 0, none⟩) n (n + 66) (1 + (j : Int)) (1 + (j3 : Int)) sy (1 + (j9 : Int)) t l b q
          exact bodyPost_ret (v := opv (kd) h v c (some ⟨G, 0, none⟩) n (n + 66) (1 + (j : Int)) (1 + (j3 : Int)) sy (1 + (j9 : Int)) t l b q) (by simp [results, Try.results31, go_sem, u0, u1, u2, u3, u4, u5, u6, u7, u8, u9, u10, u11, u12]) rfl ⟨kd, 1 + (j : Int), 1 + (j3 : Int), 1 + (j9 : Int), G, rfl, by omega, N, bt.row (by omega) HX.out.row, HX.out.lt, but_new HX.out.be bt (by omega)⟩
        · obtain rfl : hw = 3 := by omega
          obtain ⟨j, hj⟩ : ∃ j, K8 % 2 = j := ⟨_, rfl⟩
          have ij : (K8 : Int) % 2 = (j : Int) := by omega
          have ij' : (K8 : Int).tmod 2 = (j : Int) := by rw [Int.tmod_eq_emod_of_nonneg (by omega)]; exact ij
          have hj' : j < 2 := by omega
          have HOX := hid1 ox2
          clear ox2 hj
          go_upto_region 15 with fail
          refine gen_world (fun X => Ox w X G0 (1 + (j : Int)) h v c G n (N) (r) (s) sy (sx) t l b q) (HOX.out.step hG 0 _ (op_kd HOX.out.op _)) ?_
          rintro X9 ox3
          clear c0 c1 c2 c3 c4 c5 c6 c7 c8 c9 c10 c11 c12 f0 f1 f2 f3 f4 f5 f6 f7 f8 f9 f10 f11 f12
          obtain ⟨c0, c1, c2, c3, c4, c5, c6, c7, c8, c9, c10, c11, c12⟩ := op_cells ox3.op
          obtain ⟨d0, d1, d2, d3, d4, d5, d6, d7, d8, d9, d10, d11, d12⟩ := op_cells ox3.re
          obtain ⟨f0, f1, f2, f3, f4, f5, f6, f7, f8, f9, f10, f11, f12⟩ := op_free ox3.re
          have HX := hid1 ox3
          clear ox3
          go_wp2_with fail
          have u := op_set HX.out.re (1 + (j : Int)) h v c (some ⟨G, 0, none⟩) n (n + 66) (r) (s) sy (sx) t l b q
          obtain ⟨u0, u1, u2, u3, u4, u5, u6, u7, u8, u9, u10, u11, u12⟩ := op_cells u
          have bt := But.setO (w.heap.size + 1) X9 (1 + (j : Int)) h v c (some ⟨G, 0, none⟩) n (n + 66) (r) (s) sy (sx) t l b q
          exact bodyPost_ret (v := opv (1 + (j : Int)) h v c (some ⟨G, 0, none⟩) n (n + 66) (r) (s) sy (sx) t l b q) (by simp [results, Try.results31, go_sem, u0, u1, u2, u3, u4, u5, u6, u7, u8, u9, u10, u11, u12]) rfl ⟨1 + (j : Int), r, s, sx, G, rfl, by omega, N, bt.row (by omega) HX.out.row, HX.out.lt, but_new HX.out.be bt (by omega)⟩
end Go.Proofs.Ytlghmojjcfjibaa
