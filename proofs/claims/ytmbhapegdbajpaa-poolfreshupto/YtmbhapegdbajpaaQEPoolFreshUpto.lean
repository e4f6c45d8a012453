import Derived.Test.YtmbhapegdbajpaaQDPoolFreshUpto
import Derived.Test.YtmbhapegdbajpaaQAPoolFreshUpto
import Derived.Maps.AppendAt
import Derived.Laws.AppendOwnNone
import Derived.Laws.OwnMore
/- PoolScript: a step, an answer; alone, ran, meant, agree. -/
namespace Go.Proofs.Ytmbhapegdbajpaa
open Go.RowKit Go.Shelf

/-- A step as a value, and its thirteen cells. -/
abbrev opv (kd h v c : Int) (ao : Option Addr) (m cap : Nat) (r s sy sx t l b q : Int) : Value := .agg #[.int .i64 kd, .int .i64 h, .int .i64 v, .int .i64 c, .slice ao m cap, .int .i64 r, .int .i64 s, .int .i64 sy, .int .i64 sx, .int .i64 t, .int .i64 l, .int .i64 b, .int .i64 q]
def opf (kd h v c : Int) (ao : Option Addr) (m cap : Nat) (r s sy sx t l b q : Int) : Nat → Value := fun k => match k with
  | 0 => .int .i64 kd | 1 => .int .i64 h | 2 => .int .i64 v | 3 => .int .i64 c | 4 => .slice ao m cap
  | 5 => .int .i64 r | 6 => .int .i64 s | 7 => .int .i64 sy | 8 => .int .i64 sx | 9 => .int .i64 t | 10 => .int .i64 l | 11 => .int .i64 b | _ => .int .i64 q
/-- An answer as a value, and its five cells. -/
abbrev tov (h v c : Int) (ao : Option Addr) (m cap : Nat) (e : Int) : Value := .agg #[.int .i64 h, .int .i64 v, .int .i64 c, .slice ao m cap, .int .i64 e]
def tof (h v c : Int) (ao : Option Addr) (m cap : Nat) (e : Int) : Nat → Value := fun k => match k with
  | 0 => .int .i64 h | 1 => .int .i64 v | 2 => .int .i64 c | 3 => .slice ao m cap | _ => .int .i64 e
abbrev opo (kd h v c : Int) (ao : Option Addr) (m cap : Nat) (r s sy sx t l b q : Int) : Obj := .cells #[.int .i64 kd, .int .i64 h, .int .i64 v, .int .i64 c, .slice ao m cap, .int .i64 r, .int .i64 s, .int .i64 sy, .int .i64 sx, .int .i64 t, .int .i64 l, .int .i64 b, .int .i64 q] 37
abbrev too (h v c : Int) (ao : Option Addr) (m cap : Nat) (e : Int) : Obj := .cells #[.int .i64 h, .int .i64 v, .int .i64 c, .slice ao m cap, .int .i64 e] 41
theorem op_new (w : World) (kd h v c : Int) (ao : Option Addr) (m cap : Nat) (r s sy sx t l b q : Int) : (w.alloc (opo kd h v c ao m cap r s sy sx t l b q)).rowIs w.heap.size 37 13 (opf kd h v c ao m cap r s sy sx t l b q) :=
  World.rowIs_alloc w _ _ _ (fun i hi => by
    rcases i with _ | _ | _ | _ | _ | _ | _ | _ | _ | _ | _ | _ | _ | i
    all_goals first | rfl | (simp at hi; omega))
theorem op_cells {w : World} {g T : Nat} {kd h v c : Int} {ao : Option Addr} {m cap : Nat} {r s sy sx t l b q : Int} (hr : w.rowIs g T 13 (opf kd h v c ao m cap r s sy sx t l b q)) : w.cell? ⟨g, 0, none⟩ = some (.int .i64 kd) ∧ w.cell? ⟨g, 1, none⟩ = some (.int .i64 h) ∧ w.cell? ⟨g, 2, none⟩ = some (.int .i64 v) ∧ w.cell? ⟨g, 3, none⟩ = some (.int .i64 c) ∧ w.cell? ⟨g, 4, none⟩ = some (.slice ao m cap) ∧ w.cell? ⟨g, 5, none⟩ = some (.int .i64 r) ∧ w.cell? ⟨g, 6, none⟩ = some (.int .i64 s) ∧ w.cell? ⟨g, 7, none⟩ = some (.int .i64 sy) ∧ w.cell? ⟨g, 8, none⟩ = some (.int .i64 sx) ∧ w.cell? ⟨g, 9, none⟩ = some (.int .i64 t) ∧ w.cell? ⟨g, 10, none⟩ = some (.int .i64 l) ∧ w.cell? ⟨g, 11, none⟩ = some (.int .i64 b) ∧ w.cell? ⟨g, 12, none⟩ = some (.int .i64 q) :=
  ⟨hr.cell (i := 0) (by omega), hr.cell (i := 1) (by omega), hr.cell (i := 2) (by omega), hr.cell (i := 3) (by omega), hr.cell (i := 4) (by omega), hr.cell (i := 5) (by omega), hr.cell (i := 6) (by omega), hr.cell (i := 7) (by omega), hr.cell (i := 8) (by omega), hr.cell (i := 9) (by omega), hr.cell (i := 10) (by omega), hr.cell (i := 11) (by omega), hr.cell (i := 12) (by omega)⟩
theorem op_free {w : World} {g T n : Nat} {f : Nat → Value} (hr : w.rowIs g T n f) : w.frozen? ⟨g, 0, none⟩ = false ∧ w.frozen? ⟨g, 1, none⟩ = false ∧ w.frozen? ⟨g, 2, none⟩ = false ∧ w.frozen? ⟨g, 3, none⟩ = false ∧ w.frozen? ⟨g, 4, none⟩ = false ∧ w.frozen? ⟨g, 5, none⟩ = false ∧ w.frozen? ⟨g, 6, none⟩ = false ∧ w.frozen? ⟨g, 7, none⟩ = false ∧ w.frozen? ⟨g, 8, none⟩ = false ∧ w.frozen? ⟨g, 9, none⟩ = false ∧ w.frozen? ⟨g, 10, none⟩ = false ∧ w.frozen? ⟨g, 11, none⟩ = false ∧ w.frozen? ⟨g, 12, none⟩ = false :=
  ⟨hr.frozen 0, hr.frozen 1, hr.frozen 2, hr.frozen 3, hr.frozen 4, hr.frozen 5, hr.frozen 6, hr.frozen 7, hr.frozen 8, hr.frozen 9, hr.frozen 10, hr.frozen 11, hr.frozen 12⟩
theorem op_set {w : World} {g T : Nat} {f : Nat → Value} (hr : w.rowIs g T 13 f) (kd h v c : Int) (ao : Option Addr) (m cap : Nat) (r s sy sx t l b q : Int) : (((((((((((((w.setCell ⟨g, 0, none⟩ (.int .i64 kd)).setCell ⟨g, 1, none⟩ (.int .i64 h)).setCell ⟨g, 2, none⟩ (.int .i64 v)).setCell ⟨g, 3, none⟩ (.int .i64 c)).setCell ⟨g, 4, none⟩ (.slice ao m cap)).setCell ⟨g, 5, none⟩ (.int .i64 r)).setCell ⟨g, 6, none⟩ (.int .i64 s)).setCell ⟨g, 7, none⟩ (.int .i64 sy)).setCell ⟨g, 8, none⟩ (.int .i64 sx)).setCell ⟨g, 9, none⟩ (.int .i64 t)).setCell ⟨g, 10, none⟩ (.int .i64 l)).setCell ⟨g, 11, none⟩ (.int .i64 b)).setCell ⟨g, 12, none⟩ (.int .i64 q)).rowIs g T 13 (opf kd h v c ao m cap r s sy sx t l b q) :=
  (((((((((((((hr.set 0 _).set 1 _).set 2 _).set 3 _).set 4 _).set 5 _).set 6 _).set 7 _).set 8 _).set 9 _).set 10 _).set 11 _).set 12 _).congr fun k hk => by
    rcases k with _ | _ | _ | _ | _ | _ | _ | _ | _ | _ | _ | _ | _ | k
    all_goals first | rfl | omega
theorem But.setO (g : Nat) (w : World) (kd h v c : Int) (ao : Option Addr) (m cap : Nat) (r s sy sx t l b q : Int) : But g w (((((((((((((w.setCell ⟨g, 0, none⟩ (.int .i64 kd)).setCell ⟨g, 1, none⟩ (.int .i64 h)).setCell ⟨g, 2, none⟩ (.int .i64 v)).setCell ⟨g, 3, none⟩ (.int .i64 c)).setCell ⟨g, 4, none⟩ (.slice ao m cap)).setCell ⟨g, 5, none⟩ (.int .i64 r)).setCell ⟨g, 6, none⟩ (.int .i64 s)).setCell ⟨g, 7, none⟩ (.int .i64 sy)).setCell ⟨g, 8, none⟩ (.int .i64 sx)).setCell ⟨g, 9, none⟩ (.int .i64 t)).setCell ⟨g, 10, none⟩ (.int .i64 l)).setCell ⟨g, 11, none⟩ (.int .i64 b)).setCell ⟨g, 12, none⟩ (.int .i64 q)) :=
  ((((((((((((((But.refl g w).set _).set _).set _).set _).set _).set _).set _).set _).set _).set _).set _).set _).set _)
theorem op_words {w : World} {g T : Nat} {kd h v c : Int} {ao : Option Addr} {m cap : Nat} {r s sy sx t l b q : Int} (hr : w.rowIs g T 13 (opf kd h v c ao m cap r s sy sx t l b q)) (ao' : Option Addr) (m' cap' : Nat) : (w.setCell ⟨g, 4, none⟩ (.slice ao' m' cap')).rowIs g T 13 (opf kd h v c ao' m' cap' r s sy sx t l b q) :=
  (hr.set 4 _).congr fun k hk => by
    rcases k with _ | _ | _ | _ | _ | _ | _ | _ | _ | _ | _ | _ | _ | k
    all_goals first | rfl | omega
theorem to_new (w : World) (h v c : Int) (ao : Option Addr) (m cap : Nat) (e : Int) : (w.alloc (too h v c ao m cap e)).rowIs w.heap.size 41 5 (tof h v c ao m cap e) :=
  World.rowIs_alloc w _ _ _ (fun i hi => by
    rcases i with _ | _ | _ | _ | _ | i
    all_goals first | rfl | (simp at hi; omega))
theorem to_set {w : World} {g T : Nat} {f : Nat → Value} (hr : w.rowIs g T 5 f) (h v c : Int) (ao : Option Addr) (m cap : Nat) (e : Int) :
    (((((w.setCell ⟨g, 0, none⟩ (.int .i64 h)).setCell ⟨g, 1, none⟩ (.int .i64 v)).setCell ⟨g, 2, none⟩ (.int .i64 c)).setCell ⟨g, 3, none⟩ (.slice ao m cap)).setCell ⟨g, 4, none⟩ (.int .i64 e)).rowIs g T 5 (tof h v c ao m cap e) :=
  (((((hr.set 0 _).set 1 _).set 2 _).set 3 _).set 4 _).congr fun k hk => by
    rcases k with _ | _ | _ | _ | _ | k
    all_goals first | rfl | omega
theorem al_start (w : World) (kd h v c : Int) (ao : Option Addr) (m cap : Nat) (r s sy sx t l b q : Int) : ∃ W, (w.alloc (opo kd h v c ao m cap r s sy sx t l b q)).alloc (opo 0 0 0 0 none 0 0 0 0 0 0 0 0 0 0) = W ∧ W.rowIs w.heap.size 37 13 (opf kd h v c ao m cap r s sy sx t l b q) ∧ W.rowIs (w.heap.size + 1) 37 13 (opf 0 0 0 0 none 0 0 0 0 0 0 0 0 0 0) ∧ Below w.heap.size w W := by
  refine ⟨_, rfl, (op_new w _ _ _ _ _ _ _ _ _ _ _ _ _ _ _).alloc _, ?_, bl_alloc (bl_alloc (Below.refl _ _) _) _⟩
  have := op_new (w.alloc (opo kd h v c ao m cap r s sy sx t l b q)) 0 0 0 0 none 0 0 0 0 0 0 0 0 0 0
  rw [World.size_alloc] at this
  exact this
set_option maxHeartbeats 3200000 in
set_option maxRecDepth 100000 in
theorem alone_any (kd h v c : Int) (ao : Option Addr) (n ca N : Nat) (r s sy sx t l b q : Int) (w : World) (hn : n ≤ 17592186043904) (rd : Wr w ao n N) :
    Calls Try.prog 5 #[opv kd h v c ao n ca r s sy sx t l b q] w fun e w' => ∃ G, e = .returned (opv kd h v c (some ⟨G, 0, none⟩) n (n + 66) r s sy sx t l b q) ∧ w.heap.size ≤ G ∧ w'.rowIs G 47 (n + 66) (rmf N n) ∧ Below w.heap.size w w' := by
  have HR := hid1 (fun W r' => roomy_any n N ao ca W hn r')
  have HST := hid1 (al_start w kd h v c ao n ca r s sy sx t l b q)
  have RD := hid1 rd
  clear rd
  go_enter Try.func5, Try.ntmps5
  go_wp2_with fail
  refine gen_calls (fun W => W.rowIs w.heap.size 37 13 (opf kd h v c ao n ca r s sy sx t l b q) ∧ W.rowIs (w.heap.size + 1) 37 13 (opf 0 0 0 0 none 0 0 0 0 0 0 0 0 0 0) ∧ Below w.heap.size w W) (by obtain ⟨X, rfl, z⟩ := HST.out; exact z) ?_
  rintro W ⟨b0, b1, B0⟩
  refine (HR.out W (RD.out.below B0)).mono ?_
  rintro e w1 ⟨G, rfl, hG, row, hb⟩
  have lW := b1.lt
  replace b0 := keepr hb b0
  replace b1 := keepr hb b1
  have B1 := bl_step B0 hb
  clear hb B0
  obtain ⟨c0, c1, c2, c3, c4, c5, c6, c7, c8, c9, c10, c11, c12⟩ := op_cells b0
  have f4 := b0.frozen 4
  have HB0 := hid1 b0
  have HB1 := hid1 b1
  have HRW := hid1 row
  clear b0 b1 row
  go_upto_region 2 with fail
  have bt : But w.heap.size w1 (w1.setCell ⟨w.heap.size, 4, none⟩ (.slice (some ⟨G, 0, none⟩) n (n + 66))) := (But.refl _ _).set _
  refine gen_world (fun X => X.rowIs w.heap.size 37 13 (opf kd h v c (some ⟨G, 0, none⟩) n (n + 66) r s sy sx t l b q) ∧ X.rowIs (w.heap.size + 1) 37 13 (opf 0 0 0 0 none 0 0 0 0 0 0 0 0 0 0) ∧ X.rowIs G 47 (n + 66) (rmf N n) ∧ Below w.heap.size w X) ⟨op_words HB0.out _ _ _, bt.row (by omega) HB1.out, bt.row (by omega) HRW.out, bl_set B1 (Nat.le_refl _) _⟩ ?_
  clear HB0 HB1 HRW B1 c0 c1 c2 c3 c4 c5 c6 c7 c8 c9 c10 c11 c12 f4 bt
  rintro X ⟨b0, b1, row, B1⟩
  obtain ⟨c0, c1, c2, c3, c4, c5, c6, c7, c8, c9, c10, c11, c12⟩ := op_cells b0
  obtain ⟨d0, d1, d2, d3, d4, d5, d6, d7, d8, d9, d10, d11, d12⟩ := op_cells b1
  obtain ⟨f0, f1, f2, f3, f4, f5, f6, f7, f8, f9, f10, f11, f12⟩ := op_free b1
  have HB1 := hid1 b1
  have HRW := hid1 row
  clear b0 b1 row
  go_wp2_with fail
  have u := op_set HB1.out kd h v c (some ⟨G, 0, none⟩) n (n + 66) r s sy sx t l b q
  obtain ⟨u0, u1, u2, u3, u4, u5, u6, u7, u8, u9, u10, u11, u12⟩ := op_cells u
  have bt := But.setO (w.heap.size + 1) X kd h v c (some ⟨G, 0, none⟩) n (n + 66) r s sy sx t l b q
  exact bodyPost_ret (v := opv kd h v c (some ⟨G, 0, none⟩) n (n + 66) r s sy sx t l b q) (by simp [results, Try.results5, go_sem, u0, u1, u2, u3, u4, u5, u6, u7, u8, u9, u10, u11, u12]) rfl ⟨G, rfl, by omega, bt.row (by omega) HRW.out, bt.below (by omega) B1.size B1⟩
end Go.Proofs.Ytmbhapegdbajpaa
/- PoolScript: ran, meant, agree. -/
namespace Go.Proofs.Ytmbhapegdbajpaa
open Go.RowKit Go.Shelf

section
variable (kd h v c : Int) (m N : Nat) (r s sy sx t l b q : Int)
def sE : Int := if kd = 1 ∨ kd = 2 then poE h v c m N r s sy sx t l b q else 0
def sH : Int := if kd = 1 ∨ kd = 2 then aH h v c m N r s sy sx t l b q else 0
def sV : Int := if kd = 1 ∨ kd = 2 then aV h v c m N r s sy sx t l b q else 0
def sC : Int := if kd = 1 ∨ kd = 2 then aC h v c m N r s sy sx t l b q else 0
def sM : Nat := if kd = 1 ∨ kd = 2 then aM h v c m N r s sy sx t l b q else 0
def sX : Nat := if kd = 1 then aX h v c m N r s sy sx t l b q false else if kd = 2 then aX h v c m N r s sy sx t l b q true else 0
end
theorem sM_le (kd h v c : Int) (m N : Nat) (r s sy sx t l b q : Int) : sM kd h v c m N r s sy sx t l b q ≤ 1073741824 := by
  unfold sM
  split
  · exact aM_le _ _ _ _ _ _ _ _ _ _ _ _ _
  · omega
/-- An answer is written into the block that is handed out. -/
theorem told_end {w y : World} {b z M X : Nat} {bo : Option Addr} {h v c e : Int} {f : Nat → Value} {ob : Obj} (r : y.rowIs b 41 5 f) (hb : w.heap.size ≤ b ∧ b < z) (nw' : (bo = none ∧ M = 0 ∧ X = 0) ∨ ∃ G, bo = some ⟨G, 0, none⟩ ∧ z ≤ G ∧ y.rowIs G 47 M (wf X) ∧ X < 2 ^ (64 * M)) (B : Below w.heap.size w y) :
    ((((((y.setCell ⟨b, 0, none⟩ (.int .i64 h)).setCell ⟨b, 1, none⟩ (.int .i64 v)).setCell ⟨b, 2, none⟩ (.int .i64 c)).setCell ⟨b, 3, none⟩ (.slice bo M M)).setCell ⟨b, 4, none⟩ (.int .i64 e)).alloc ob).rowIs b 41 5 (tof h v c bo M M e) ∧ Nw w ((((((y.setCell ⟨b, 0, none⟩ (.int .i64 h)).setCell ⟨b, 1, none⟩ (.int .i64 v)).setCell ⟨b, 2, none⟩ (.int .i64 c)).setCell ⟨b, 3, none⟩ (.slice bo M M)).setCell ⟨b, 4, none⟩ (.int .i64 e)).alloc ob) bo M X ∧ Below w.heap.size w ((((((y.setCell ⟨b, 0, none⟩ (.int .i64 h)).setCell ⟨b, 1, none⟩ (.int .i64 v)).setCell ⟨b, 2, none⟩ (.int .i64 c)).setCell ⟨b, 3, none⟩ (.slice bo M M)).setCell ⟨b, 4, none⟩ (.int .i64 e)).alloc ob) := by
  obtain ⟨hb1, hb2⟩ := hb
  have bt : But b y (((((y.setCell ⟨b, 0, none⟩ (.int .i64 h)).setCell ⟨b, 1, none⟩ (.int .i64 v)).setCell ⟨b, 2, none⟩ (.int .i64 c)).setCell ⟨b, 3, none⟩ (.slice bo M M)).setCell ⟨b, 4, none⟩ (.int .i64 e)) := (((((But.refl b y).set _).set _).set _).set _).set _
  refine ⟨(to_set r _ _ _ _ _ _ _).alloc _, ?_, bl_alloc (bt.below hb1 B.size B) _⟩
  rcases nw' with ⟨rfl, rfl, rfl⟩ | ⟨G, rfl, hG, row, hX⟩
  · exact .inl ⟨rfl, rfl, rfl⟩
  · exact .inr ⟨G, rfl, by omega, (bt.row (by omega) row).alloc _, hX⟩
theorem rn_start (w : World) (kd h v c : Int) (ao : Option Addr) (m cap : Nat) (r s sy sx t l b q : Int) : ∃ W, (w.alloc (opo kd h v c ao m cap r s sy sx t l b q)).alloc (too 0 0 0 none 0 0 0) = W ∧ W.heap.size = w.heap.size + 2 ∧ W.rowIs w.heap.size 37 13 (opf kd h v c ao m cap r s sy sx t l b q) ∧ W.rowIs (w.heap.size + 1) 41 5 (tof 0 0 0 none 0 0 0) ∧ Below w.heap.size w W := by
  refine ⟨_, rfl, by simp, (op_new w _ _ _ _ _ _ _ _ _ _ _ _ _ _ _).alloc _, ?_, bl_alloc (bl_alloc (Below.refl _ _) _) _⟩
  have := to_new (w.alloc (opo kd h v c ao m cap r s sy sx t l b q)) 0 0 0 none 0 0 0
  rw [World.size_alloc] at this
  exact this
theorem to_cells {w : World} {g T : Nat} {h v c e : Int} {ao : Option Addr} {m cap : Nat} (hr : w.rowIs g T 5 (tof h v c ao m cap e)) : w.cell? ⟨g, 0, none⟩ = some (.int .i64 h) ∧ w.cell? ⟨g, 1, none⟩ = some (.int .i64 v) ∧ w.cell? ⟨g, 2, none⟩ = some (.int .i64 c) ∧ w.cell? ⟨g, 3, none⟩ = some (.slice ao m cap) ∧ w.cell? ⟨g, 4, none⟩ = some (.int .i64 e) :=
  ⟨hr.cell (i := 0) (by omega), hr.cell (i := 1) (by omega), hr.cell (i := 2) (by omega), hr.cell (i := 3) (by omega), hr.cell (i := 4) (by omega)⟩
theorem to_free {w : World} {g T n : Nat} {f : Nat → Value} (hr : w.rowIs g T n f) : w.frozen? ⟨g, 0, none⟩ = false ∧ w.frozen? ⟨g, 1, none⟩ = false ∧ w.frozen? ⟨g, 2, none⟩ = false ∧ w.frozen? ⟨g, 3, none⟩ = false ∧ w.frozen? ⟨g, 4, none⟩ = false :=
  ⟨hr.frozen 0, hr.frozen 1, hr.frozen 2, hr.frozen 3, hr.frozen 4⟩
set_option maxHeartbeats 3200000 in
set_option maxRecDepth 100000 in
theorem ran_any (kd h v c : Int) (ao : Option Addr) (n ca N : Nat) (r s sy sx t l b q : Int) (w : World) (hnc : n ≤ ca) (hca : ca ≤ 9223372036854775807) (rd : Wr w ao n N) :
    Calls Try.prog 6 #[opv kd h v c ao n ca r s sy sx t l b q] w fun e w' => ∃ bo, e = .returned (tov (sH kd h v c n N r s sy sx t l b q) (sV kd h v c n N r s sy sx t l b q) (sC kd h v c n N r s sy sx t l b q) bo (sM kd h v c n N r s sy sx t l b q) (sM kd h v c n N r s sy sx t l b q) (sE kd h v c n N r s sy sx t l b q)) ∧ Nw w w' bo (sM kd h v c n N r s sy sx t l b q) (sX kd h v c n N r s sy sx t l b q) ∧ Below w.heap.size w w' := by
  unfold sE sH sV sC sM sX
  have HST := hid1 (rn_start w kd h v c ao n ca r s sy sx t l b q)
  have RD := hid1 rd
  clear rd
  by_cases k1 : kd = 1
  · subst k1
    simp only [true_or, if_true]
    have HX := hid1 (fun W r' => max_fn h v c ao n ca N r s sy sx t l b q W hnc hca r')
    generalize aH h v c n N r s sy sx t l b q = h' at *
    generalize aV h v c n N r s sy sx t l b q = v' at *
    generalize aC h v c n N r s sy sx t l b q = c' at *
    generalize aM h v c n N r s sy sx t l b q = M at *
    generalize aX h v c n N r s sy sx t l b q false = X at *
    generalize poE h v c n N r s sy sx t l b q = E at *
    go_enter Try.func6, Try.ntmps6
    go_upto_region 1 with fail
    refine gen_world (fun W => W.heap.size = w.heap.size + 2 ∧ W.rowIs w.heap.size 37 13 (opf 1 h v c ao n ca r s sy sx t l b q) ∧ W.rowIs (w.heap.size + 1) 41 5 (tof 0 0 0 none 0 0 0) ∧ Below w.heap.size w W) (by obtain ⟨X, rfl, z⟩ := HST.out; exact z) ?_
    rintro W ⟨z0, b0, b1, B0⟩
    obtain ⟨c0, c1, c2, c3, c4, c5, c6, c7, c8, c9, c10, c11, c12⟩ := op_cells b0
    clear HST
    have RW := RD.out.below B0
    have B1 := B0
    clear B0 b0
    go_wp2_with fail
    refine (HX.out W RW).mono ?_
    rintro e w2 ⟨bo, rfl, nw', hb⟩
    replace b1 := keepr hb b1
    have B2 := bl_step B1 hb
    have zz := hb.size
    clear hb B1
    obtain ⟨d0, d1, d2, d3, d4⟩ := to_cells b1
    obtain ⟨f0, f1, f2, f3, f4⟩ := to_free b1
    have l1 := b1.lt
    have HB1 := hid1 b1
    have NW := hid1 nw'
    clear b1 nw'
    go_wp2_with fail
    obtain ⟨q1, q2, q3⟩ := told_end (h := h') (v := v') (c := c') (e := E) (ob := .cells #[.int .i64 h', .int .i64 v', .int .i64 c', .slice bo M M] 35) HB1.out (And.intro (Nat.le_add_right w.heap.size 1) (show w.heap.size + 1 < W.heap.size by omega)) NW.out B2
    obtain ⟨u0, u1, u2, u3, u4⟩ := to_cells q1
    exact bodyPost_ret (v := tov h' v' c' bo M M E) (by simp [results, Try.results6, go_sem, u0, u1, u2, u3, u4]) rfl ⟨bo, rfl, q2, q3⟩
  · by_cases k2 : kd = 2
    · subst k2
      simp only [or_true, if_true, show ¬ (2 : Int) = 1 by decide, if_false]
      have HX := hid1 (fun W r' => min_fn h v c ao n ca N r s sy sx t l b q W hnc hca r')
      generalize aH h v c n N r s sy sx t l b q = h' at *
      generalize aV h v c n N r s sy sx t l b q = v' at *
      generalize aC h v c n N r s sy sx t l b q = c' at *
      generalize aM h v c n N r s sy sx t l b q = M at *
      generalize aX h v c n N r s sy sx t l b q true = X at *
      generalize poE h v c n N r s sy sx t l b q = E at *
      go_enter Try.func6, Try.ntmps6
      go_upto_region 1 with fail
      refine gen_world (fun W => W.heap.size = w.heap.size + 2 ∧ W.rowIs w.heap.size 37 13 (opf 2 h v c ao n ca r s sy sx t l b q) ∧ W.rowIs (w.heap.size + 1) 41 5 (tof 0 0 0 none 0 0 0) ∧ Below w.heap.size w W) (by obtain ⟨X, rfl, z⟩ := HST.out; exact z) ?_
      rintro W ⟨z0, b0, b1, B0⟩
      obtain ⟨c0, c1, c2, c3, c4, c5, c6, c7, c8, c9, c10, c11, c12⟩ := op_cells b0
      clear HST
      have RW := RD.out.below B0
      have B1 := B0
      clear B0 b0
      go_wp2_with fail
      refine (HX.out W RW).mono ?_
      rintro e w2 ⟨bo, rfl, nw', hb⟩
      replace b1 := keepr hb b1
      have B2 := bl_step B1 hb
      have zz := hb.size
      clear hb B1
      obtain ⟨d0, d1, d2, d3, d4⟩ := to_cells b1
      obtain ⟨f0, f1, f2, f3, f4⟩ := to_free b1
      have l1 := b1.lt
      have HB1 := hid1 b1
      have NW := hid1 nw'
      clear b1 nw'
      go_wp2_with fail
      obtain ⟨q1, q2, q3⟩ := told_end (h := h') (v := v') (c := c') (e := E) (ob := .cells #[.int .i64 h', .int .i64 v', .int .i64 c', .slice bo M M] 35) HB1.out (And.intro (Nat.le_add_right w.heap.size 1) (show w.heap.size + 1 < W.heap.size by omega)) NW.out B2
      obtain ⟨u0, u1, u2, u3, u4⟩ := to_cells q1
      exact bodyPost_ret (v := tov h' v' c' bo M M E) (by simp [results, Try.results6, go_sem, u0, u1, u2, u3, u4]) rfl ⟨bo, rfl, q2, q3⟩
    · simp only [k1, k2, or_self, if_false]
      go_enter Try.func6, Try.ntmps6
      go_upto_region 1 with fail
      refine gen_world (fun W => W.heap.size = w.heap.size + 2 ∧ W.rowIs w.heap.size 37 13 (opf kd h v c ao n ca r s sy sx t l b q) ∧ W.rowIs (w.heap.size + 1) 41 5 (tof 0 0 0 none 0 0 0) ∧ Below w.heap.size w W) (by obtain ⟨X, rfl, z⟩ := HST.out; exact z) ?_
      rintro W ⟨z0, b0, b1, B0⟩
      obtain ⟨c0, c1, c2, c3, c4, c5, c6, c7, c8, c9, c10, c11, c12⟩ := op_cells b0
      clear HST
      have RW := RD.out.below B0
      have B1 := B0
      clear B0 b0
      obtain ⟨d0, d1, d2, d3, d4⟩ := to_cells b1
      obtain ⟨f0, f1, f2, f3, f4⟩ := to_free b1
      have l1 := b1.lt
      have HB1 := hid1 b1
      clear b1
      go_wp2_with fail
      have u := to_set HB1.out 0 0 0 none 0 0 0
      obtain ⟨u0, u1, u2, u3, u4⟩ := to_cells u
      exact bodyPost_ret (v := tov 0 0 0 none 0 0 0) (by simp [results, Try.results6, go_sem, u0, u1, u2, u3, u4]) rfl ⟨none, rfl, .inl ⟨rfl, rfl, rfl⟩, bl_set (bl_set (bl_set (bl_set (bl_set B1 (by omega) _) (by omega) _) (by omega) _) (by omega) _) (by omega) _⟩
set_option maxHeartbeats 1600000 in
set_option maxRecDepth 100000 in
theorem agree_true (h v c e : Int) (m N : Nat) (ao bo : Option Addr) (ca cb : Nat) (w : World) (hm : m ≤ 9223372036854775807) (ra : Wr w ao m N) (rb : Wr w bo m N) :
    Calls Try.prog 7 #[tov h v c ao m ca e, tov h v c bo m cb e] w fun e' w' => e' = .returned (.bool true) ∧ Below w.heap.size w w' := by
  have HA := hid1 ra
  have HB := hid1 rb
  clear ra rb
  go_enter Try.func7, Try.ntmps7
  go_wp2_with fail
  refine gen_calls (fun W => Below w.heap.size w W) (bl_alloc (bl_alloc (Below.refl _ _) _) _) ?_
  rintro W B0
  refine (cubes_same h v c m N ao bo ca cb W hm (HA.out.below B0) (HB.out.below B0)).mono ?_
  rintro e w1 ⟨rfl, hb⟩
  go_wp2_with fail
  go_ret
  exact ⟨rfl, bl_step B0 hb⟩
end Go.Proofs.Ytmbhapegdbajpaa
/- PoolScript: the answers that are kept. -/
namespace Go.Proofs.Ytmbhapegdbajpaa
open Go.RowKit Go.Shelf

theorem own_row_neU {w : World} {base : Nat} {e t : TypeId} {size b n k : Nat} {v : Value} {xs : List Value} {f : Nat → Value} (h : w.ownsRow base e size v n xs) (r : w.rowIs b t k f) (ht : e ≠ t) : v.ownBlock ≠ some b := by
  rcases h.2 with ⟨rfl, _⟩ | ⟨g, cap, cur, rfl, _, hg, _⟩
  · simp [Value.ownBlock]
  · intro e1
    simp [Value.ownBlock] at e1
    subst e1
    obtain ⟨c, hc, _⟩ := r
    rw [hg] at hc
    exact ht (by injection hc with hc; injection hc)
theorem row_grownU {w w' : World} {base : Nat} {e t : TypeId} {size b n k : Nat} {v : Value} {xs : List Value} {f : Nat → Value} (r : w.rowIs b t k f) (hown : w.ownsRow base e size v n xs) (hg : w.grownBy w' v.ownBlock) (ht : e ≠ t) : w'.rowIs b t k f :=
  r.of_block (hg.block _ r.lt (fun e1 => own_row_neU hown r ht e1.symm))
theorem own_keepU {w w' : World} {base : Nat} {e : TypeId} {size : Nat} {v : Value} {n : Nat} {xs : List Value} (h : w.ownsRow base e size v n xs) (hb : Below w.heap.size w w') : w'.ownsRow base e size v n xs :=
  h.kept (row := none) ⟨hb.os, hb.tape, hb.output, hb.size, fun k hk _ => hb.block k hk⟩ (by cases v.ownBlock <;> simp)
theorem own_butU {w w' : World} {base g t k : Nat} {e : TypeId} {size n : Nat} {v : Value} {xs : List Value} {f : Nat → Value} (h : w.ownsRow base e size v n xs) (hb : But g w w') (r : w.rowIs g t k f) (ht : e ≠ t) : w'.ownsRow base e size v n xs := by
  refine h.kept (row := some g) ⟨hb.os, hb.tape, hb.output, hb.size, fun k hk hn => hb.block k hk (fun e => hn (by rw [e]))⟩ ?_
  have := own_row_neU h r ht
  cases e1 : v.ownBlock with
  | none => simp
  | some j => right; rw [e1] at this; exact fun e2 => this (by rw [← e2])
/-- An answer, both sides. -/
structure Ta where
  h : Int
  v : Int
  c : Int
  e : Int
  m : Nat
  N : Nat
  ao : Option Addr
  bo : Option Addr
def tcs (f : Ta → Option Addr) (l : List Ta) : List Value := l.flatMap fun x => [.int .i64 x.h, .int .i64 x.v, .int .i64 x.c, .slice (f x) x.m x.m, .int .i64 x.e]
theorem tcs_at (f : Ta → Option Addr) (l : List Ta) : ∀ i (h : i < l.length), (tcs f l)[i * 5]? = some (.int .i64 l[i].h) ∧ (tcs f l)[i * 5 + 1]? = some (.int .i64 l[i].v) ∧ (tcs f l)[i * 5 + 2]? = some (.int .i64 l[i].c) ∧ (tcs f l)[i * 5 + 3]? = some (.slice (f l[i]) l[i].m l[i].m) ∧ (tcs f l)[i * 5 + 4]? = some (.int .i64 l[i].e) := by
  induction l with
  | nil => intro i h; simp at h
  | cons x l ih =>
    intro i h
    have e : tcs f (x :: l) = [.int .i64 x.h, .int .i64 x.v, .int .i64 x.c, .slice (f x) x.m x.m, .int .i64 x.e] ++ tcs f l := by simp [tcs]
    rcases i with _ | i
    · rw [e]; exact ⟨rfl, rfl, rfl, rfl, rfl⟩
    · obtain ⟨h0, h1, h2, h3, h4⟩ := ih i (by simp at h; omega)
      rw [e]
      have sh : ∀ k : Nat, ([.int .i64 x.h, .int .i64 x.v, .int .i64 x.c, .slice (f x) x.m x.m, .int .i64 x.e] ++ tcs f l)[(i + 1) * 5 + k]? = (tcs f l)[i * 5 + k]? := fun k => by
        rw [List.getElem?_append_right (by simp; omega)]
        congr 1
        simp; omega
      have s0 := sh 0
      rw [Nat.add_zero, Nat.add_zero] at s0
      rw [s0, sh 1, sh 2, sh 3, sh 4]
      exact ⟨h0, h1, h2, h3, h4⟩
theorem tcs_snoc (f : Ta → Option Addr) (l : List Ta) (x : Ta) : tcs f (l ++ [x]) = tcs f l ++ [.int .i64 x.h, .int .i64 x.v, .int .i64 x.c, .slice (f x) x.m x.m, .int .i64 x.e] := by
  unfold tcs; rw [List.flatMap_append]; simp
theorem info_told : (Try.prog.info? 41).map (fun i => (i.zero, i.size, i.bytes)) = some (some (.agg #[.int .i64 0, .int .i64 0, .int .i64 0, .slice none 0 0, .int .i64 0]), 5, 56) := by kernel_rfl
theorem und_tolds : Try.prog.underlying 30 = some (.slice 41) := by kernel_rfl
theorem app_told {ops : Array Oper} {rest : List Oper} {o : Oper} {a : Act} {Q : Exit → Act → World → Prop} {w : World} (hgd : o.guard = none) (s x : Operand)
    (ho : o.op = .call { callee := .builtin .append, args := #[s, x], argTypes := #[30, 30] }) (base : Nat) (v : Value) (n : Nat) (xs : List Value) (hs : a.eval s = v) (hown : w.ownsRow base 41 5 v n xs)
    (h v' c e : Int) (ao : Option Addr) (m : Nat) (hx : a.eval x = .slice (some ⟨w.heap.size, 0, none⟩) 1 1) (hM : n ≤ 1172812402927) (hb : base ≤ w.heap.size)
    (hh : ∀ u w', w'.ownsRow base 41 5 u (n + 1) (xs ++ [.int .i64 h, .int .i64 v', .int .i64 c, .slice ao m m, .int .i64 e]) → (w.alloc (too h v' c ao m m e)).grownBy w' v.ownBlock → (u.ownBlock = v.ownBlock ∨ u.ownBlock = some (w.heap.size + 1)) → wpList Try.prog ops Q rest (a.put o.dst u) w') : wpList Try.prog ops Q (o :: rest) a (w.alloc (too h v' c ao m m e)) := by
  obtain ⟨i0, hi, hz0, hz1, hz2⟩ := info_parts info_told
  obtain ⟨r0, r1, r2, r3, r4⟩ := to_cells (to_new w h v' c ao m m e)
  refine wpList_append_own_at _ hgd s x _ ho base 41 i0 _ 5 56 und_tolds hi hz0 hz1 hz2 rfl (by decide) v n xs hs (hown.alloc _) ⟨w.heap.size, 0, none⟩ 1 1 [.int .i64 h, .int .i64 v', .int .i64 c, .slice ao m m, .int .i64 e] hx rfl
    (fun j u h => by
      rcases j with _ | _ | _ | _ | _ | j
      · simp at h; subst h; exact r0
      · simp at h; subst h; exact r1
      · simp at h; subst h; exact r2
      · simp at h; subst h; exact r3
      · simp at h; subst h; exact r4
      · simp at h) (fun u hu => by simp at hu; rcases hu with rfl | rfl | rfl | rfl | rfl <;> rfl) (by unfold maxLen; omega) (by omega) (by simp; omega) ?_
  intro u w' h1 h2 _ h4
  exact hh u w' h1 h2 (by simpa using h4)
/-- A list of words that is kept: in a block that is none of x's. -/
def An (W : World) (Gx : Nat) (ao : Option Addr) (m N : Nat) : Prop := (ao = none ∧ m = 0 ∧ N = 0) ∨ ∃ G, ao = some ⟨G, 0, none⟩ ∧ W.rowIs G 47 m (wf N) ∧ N < 2 ^ (64 * m) ∧ G ≠ Gx
theorem An.wr {W : World} {Gx : Nat} {ao : Option Addr} {m N : Nat} (h : An W Gx ao m N) : Wr W ao m N := by
  rcases h with ⟨rfl, rfl, rfl⟩ | ⟨G, rfl, row, hX, _⟩
  · exact Wr.nil _
  · exact Wr.row row hX
theorem An.below {W W' : World} {Gx : Nat} {ao : Option Addr} {m N : Nat} (h : An W Gx ao m N) (hb : Below W.heap.size W W') : An W' Gx ao m N := by
  rcases h with h | ⟨G, rfl, row, hX, hne⟩
  · exact .inl h
  · exact .inr ⟨G, rfl, keepr hb row, hX, hne⟩
theorem An.but {W W' : World} {Gx : Nat} {ao : Option Addr} {m N : Nat} (h : An W Gx ao m N) (hb : But Gx W W') : An W' Gx ao m N := by
  rcases h with h | ⟨G, rfl, row, hX, hne⟩
  · exact .inl h
  · exact .inr ⟨G, rfl, hb.row hne row, hX, hne⟩
theorem An.new {W : World} {Gx Gy : Nat} {ao : Option Addr} {m N : Nat} (h : An W Gx ao m N) (hG : W.heap.size ≤ Gy) : An W Gy ao m N := by
  rcases h with h | ⟨G, rfl, row, hX, hne⟩
  · exact .inl h
  · exact .inr ⟨G, rfl, row, hX, by have := row.lt; omega⟩
theorem An.row {W W' : World} {Gx b t k : Nat} {f : Nat → Value} {ao : Option Addr} {m N : Nat} (h : An W Gx ao m N) (hb : But b W W') (r : W.rowIs b t k f) (ht : t ≠ 47) : An W' Gx ao m N := by
  rcases h with h | ⟨G, rfl, row, hX, hne⟩
  · exact .inl h
  · refine .inr ⟨G, rfl, hb.row (fun e => ?_) row, hX, hne⟩
    subst e
    obtain ⟨c, hc, _⟩ := row
    obtain ⟨c', hc', _⟩ := r
    rw [hc] at hc'
    exact ht (by injection hc' with hc'; injection hc' with _ h2 _; exact h2.symm)
theorem An.grown {W W' : World} {Gx : Nat} {ao : Option Addr} {m N : Nat} {base n : Nat} {v : Value} {xs : List Value} (h : An W Gx ao m N) (ho : W.ownsRow base 41 5 v n xs) (hg : W.grownBy W' v.ownBlock) : An W' Gx ao m N := by
  rcases h with h | ⟨G, rfl, row, hX, hne⟩
  · exact .inl h
  · exact .inr ⟨G, rfl, row_grownU row ho hg (by decide), hX, hne⟩
theorem Nw.an {w W : World} {bo : Option Addr} {M X Gx : Nat} (h : Nw w W bo M X) (hG : Gx < w.heap.size) : An W Gx bo M X := by
  rcases h with h | ⟨G, rfl, hge, row, hX⟩
  · exact .inl h
  · exact .inr ⟨G, rfl, row, hX, by omega⟩
/-- Both lists of answers. -/
structure Sa (W : World) (base Gx : Nat) (va vb : Value) (l : List Ta) : Prop where
  a : W.ownsRow base 41 5 va l.length (tcs Ta.ao l)
  b : W.ownsRow base 41 5 vb l.length (tcs Ta.bo l)
  ne : va.ownBlock = none ∨ va.ownBlock ≠ vb.ownBlock
  an : ∀ x ∈ l, An W Gx x.ao x.m x.N ∧ An W Gx x.bo x.m x.N ∧ x.m ≤ 1073741824
theorem Sa.below {W W' : World} {base Gx : Nat} {va vb : Value} {l : List Ta} (h : Sa W base Gx va vb l) (hb : Below W.heap.size W W') : Sa W' base Gx va vb l :=
  ⟨own_keepU h.a hb, own_keepU h.b hb, h.ne, fun x hx => ⟨(h.an x hx).1.below hb, (h.an x hx).2.1.below hb, (h.an x hx).2.2⟩⟩
theorem Sa.but {W W' : World} {base Gx k : Nat} {f : Nat → Value} {va vb : Value} {l : List Ta} (h : Sa W base Gx va vb l) (hb : But Gx W W') (r : W.rowIs Gx 47 k f) : Sa W' base Gx va vb l :=
  ⟨own_butU h.a hb r (by decide), own_butU h.b hb r (by decide), h.ne, fun x hx => ⟨(h.an x hx).1.but hb, (h.an x hx).2.1.but hb, (h.an x hx).2.2⟩⟩
theorem Sa.op {W W' : World} {base Gx b k : Nat} {f : Nat → Value} {va vb : Value} {l : List Ta} (h : Sa W base Gx va vb l) (hb : But b W W') (r : W.rowIs b 37 k f) : Sa W' base Gx va vb l :=
  ⟨own_butU h.a hb r (by decide), own_butU h.b hb r (by decide), h.ne, fun x hx => ⟨(h.an x hx).1.row hb r (by decide), (h.an x hx).2.1.row hb r (by decide), (h.an x hx).2.2⟩⟩
theorem Sa.new {W : World} {base Gx Gy : Nat} {va vb : Value} {l : List Ta} (h : Sa W base Gx va vb l) (hG : W.heap.size ≤ Gy) : Sa W base Gy va vb l :=
  ⟨h.a, h.b, h.ne, fun x hx => ⟨(h.an x hx).1.new hG, (h.an x hx).2.1.new hG, (h.an x hx).2.2⟩⟩
theorem own_kept2U {w w' : World} {base : Nat} {e : TypeId} {size n : Nat} {v v' : Value} {xs : List Value} {o : Obj} (h : w.ownsRow base e size v n xs) (hne : v.ownBlock = none ∨ v.ownBlock ≠ v'.ownBlock) (hg : (w.alloc o).grownBy w' v'.ownBlock) : w'.ownsRow base e size v n xs := by
  refine (h.alloc o).kept hg ?_
  rcases hne with e1 | e1
  · rw [e1]; cases v'.ownBlock <;> simp
  · cases e2 : v.ownBlock with
    | none => simp
    | some k => rw [e2] at e1; simpa using e1
end Go.Proofs.Ytmbhapegdbajpaa
