/- CACHE: the row's calls, by the row. -/
import Derived.Test.YtpjcpikafpnmpaaAK2
namespace Go.Proofs.Ytpjcpikafpnmpaa
open Go.RowKit

theorem nd_head {C : List Ce} {x : Ce} (h : ((x :: C).map (·.b)).Nodup) : ∀ y ∈ C, y.b ≠ x.b := fun y hy e => (List.nodup_cons.1 h).1 (List.mem_map.2 ⟨y, hy, e⟩)
/-- drop: one entry taken out. -/
theorem drop_any (p : Nat) {rm mu : Int} {bm : Nat} {h m : Int} (A C : List Ce) (x : Ce) (w : World) (r : Rw w p rm mu bm h m (A ++ x :: C)) :
    Calls Try.prog 49 #[.pointer (some ⟨p, 4, none⟩), .pointer (some ⟨x.b, 0, none⟩)] w fun e w' => e = .returned (.tuple #[]) ∧ Rw w' p rm mu bm h m (A ++ C) ∧ w'.rowIs x.b 81 5 (ef x (lt none A) (hd C none)) ∧ BP (Rb p (A ++ C)) w w' ∧ w'.heap.size = w.heap.size := by
  have hs := (seg_app A (x :: C) none none).1 r.seg
  have hn := nd_app r.nd
  have hnC := nd_head hn.2.2
  refine (drop_cells p x.b (lt none A) (hd C none) x w r.box hs.2.1 (nb_last hs.1 r.nd rfl) (nb_head hs.2.2 hnC)).mono ?_
  rintro e w' ⟨rfl, q⟩
  have b1 := at1_block (p := p) (A := A) (C := C)
  have b2 := at2_block (p := p) (A := A) (C := C)
  have hx1 : ∀ k, Rb p (A ++ C) k → x.b ≠ k := by
    rintro k (rfl | ⟨y, hy, rfl⟩)
    · exact r.ne x (by simp)
    · rcases List.mem_append.1 hy with hy | hy
      · exact (hn.1 y hy x (by simp)).symm
      · exact (hnC y hy).symm
  refine ⟨rfl, r.drop.qt q, row_qt ((row_other (row_other hs.2.1 (hx1 _ b1) _) (hx1 _ b2) _)) q, ((((BP.refl _ w).setA b1 _).setA b2 _)).qt q, ?_⟩
  rw [size_qt q]; simp
/-- add: an entry put first. -/
theorem add_row (p : Nat) {rm mu : Int} {bm : Nat} {h m : Int} (L : List Ce) (x : Ce) (pp qq : Option Nat) (w : World) (r : Rw w p rm mu bm h m L) (hx : w.rowIs x.b 81 5 (ef x pp qq)) (hn : ∀ y ∈ L, y.b ≠ x.b) :
    Calls Try.prog 50 #[.pointer (some ⟨p, 4, none⟩), .pointer (some ⟨x.b, 0, none⟩)] w fun e w' => e = .returned (.tuple #[]) ∧ Rw w' p rm mu bm h m (x :: L) ∧ BP (Rb p (x :: L)) w w' ∧ w'.heap.size = w.heap.size := by
  refine (add_cells p x.b (hd L none) pp qq (lt none L) x w r.box hx (nb_head r.seg hn)).mono ?_
  rintro e w' ⟨rfl, rfl⟩
  refine ⟨rfl, r.lead hx hn, ?_, by simp⟩
  have hb : Rb p (x :: L) x.b := .inr ⟨x, by simp, rfl⟩
  have hp : Rb p (x :: L) p := .inl rfl
  have h2 : Rb p (x :: L) (at2 p (hd L none)).block := by
    rcases at2_block (p := p) (A := []) (C := L) with e | ⟨y, hy, e⟩
    · exact .inl e
    · exact .inr ⟨y, by simp at hy; simp [hy], e⟩
  exact ((((BP.refl _ w).setA (a := ⟨x.b, 3, none⟩) hb _).setA (a := ⟨x.b, 4, none⟩) hb _).setA h2 _).setA (a := ⟨p, 4, none⟩) hp _
set_option maxRecDepth 100000 in
/-- lead: an entry of the row put first. -/
theorem lead_any (p : Nat) {rm mu : Int} {bm : Nat} {h m : Int} (A C : List Ce) (x : Ce) (w : World) (r : Rw w p rm mu bm h m (A ++ x :: C)) :
    Calls Try.prog 30 #[.pointer (some ⟨p, 4, none⟩), .pointer (some ⟨x.b, 0, none⟩)] w fun e w' => e = .returned (.tuple #[]) ∧ Rw w' p rm mu bm h m (x :: (A ++ C)) ∧ BP (Rb p (x :: (A ++ C))) w w' ∧ w'.heap.size = w.heap.size := by
  have HD := hid1 (drop_any p A C x w r)
  have hn : ∀ y ∈ A ++ C, y.b ≠ x.b := fun y hy => by
    have hn := nd_app r.nd
    rcases List.mem_append.1 hy with hy | hy
    · exact hn.1 y hy x (by simp)
    · exact nd_head hn.2.2 y hy
  have HN := hid1 hn
  clear hn r
  generalize A ++ C = L at *
  generalize lt none A = u1 at *
  generalize hd C none = u2 at *
  go_enter Try.func30, Try.ntmps30
  go_wp2_with (go_at_call 49; refine HD.out.mono ?_; rintro e w1 ⟨rfl, r1, hx, b1, z1⟩)
  refine (add_row p L x u1 u2 w1 r1 hx HN.out).mono ?_
  rintro e w2 ⟨rfl, r2, b2, z2⟩
  go_wp2_with fail
  refine bodyPost_end (results_none rfl _ _ _) rfl ⟨rfl, r2, ?_, z2.trans z1⟩
  refine (b1.mono ?_).trans b2 (fun _ _ h => h)
  rintro k _ (e | ⟨y, hy, e⟩)
  · exact .inl e
  · exact .inr ⟨y, by simp [hy], e⟩
set_option maxRecDepth 100000 in
theorem more_any (n : Int) (w : World) (h0 : 0 ≤ n) (h1 : n < 4611686018427387904) : Calls Try.prog 29 #[.int .i64 n] w fun e w' => e = .returned (.int .i64 (n + 1)) ∧ w' = w := by
  have hm : min (n + 1) 4611686018427387904 = n + 1 := by omega
  go_enter Try.func29, Try.ntmps29
  go_wp2_with fail
  all_goals (go_ret; exact ⟨ret_int (by omega), rfl⟩)
end Go.Proofs.Ytpjcpikafpnmpaa
