import Derived.Test.YtcjglbejmlebhaaDoorW39
import Derived.Deep.DeepCutAuto
import Derived.Lib.SlBytesRow
import Derived.Test.YtcjglbejmlebhaaDoorWL1
/- THE DOCUMENT'S NUMBERS WRITTEN: Text, Show. -/
namespace Go.Proofs.YtcjglbejmlebhaaDoor
open Go.RowKit Go.Shelf
attribute [local go_sem ↓] Go.wp_at_zero Go.wp_at_succ

/-- The two cells of a big number, and that they may be written. -/
def Bc (w : World) (b : Nat) (s : Bool) (ao : Option Addr) (l c : Nat) : Prop :=
  w.cell? ⟨b, 0, none⟩ = some (.bool s) ∧ w.cell? ⟨b, 1, none⟩ = some (.slice ao l c) ∧ w.frozen? ⟨b, 0, none⟩ = false ∧ w.frozen? ⟨b, 1, none⟩ = false
theorem Bc.keep {w w' : World} {b : Nat} {s : Bool} {ao : Option Addr} {l c : Nat} (h : Bc w b s ao l c) (hb : Below w.heap.size w w') : Bc w' b s ao l c := by
  have z := lt_of_cell h.1
  exact ⟨keepc hb h.1, keepc hb h.2.1, keepf hb z h.2.2.1, keepf hb z h.2.2.2⟩
theorem bc_new {W : World} {t : TypeId} {g : Nat} {s : Bool} {ao : Option Addr} {l c : Nat} (hg : W.heap.size = g) : Bc (W.alloc (.cells #[.bool s, .slice ao l c] t)) g s ao l c := by
  subst hg
  exact ⟨by simp [go_sem], by simp [go_sem], by simp [go_sem], by simp [go_sem]⟩
theorem bc_0 {W w' : World} {t : TypeId} (hb : Below (W.alloc (.cells #[.bool false, .slice none 0 0] t)).heap.size (W.alloc (.cells #[.bool false, .slice none 0 0] t)) w') : Bc w' W.heap.size false none 0 0 := Bc.keep (bc_new rfl) hb
theorem bc_B {W w' : World} {t : TypeId} {o : Obj} (hb : Below ((W.alloc (.cells #[.bool false, .slice none 0 0] t)).alloc o).drew.heap.size ((W.alloc (.cells #[.bool false, .slice none 0 0] t)).alloc o).drew w') : Bc w' W.heap.size false none 0 0 :=
  Bc.keep (Bc.keep (bc_new rfl) (Below.drew (bl_alloc (Below.refl _ _) o))) hb
theorem bc_C {W w' : World} {t : TypeId} {o : Obj} (hb : Below ((W.alloc o).alloc (.cells #[.bool false, .slice none 0 0] t)).drew.heap.size ((W.alloc o).alloc (.cells #[.bool false, .slice none 0 0] t)).drew w') : Bc w' (W.heap.size + 1) false none 0 0 :=
  Bc.keep (Bc.keep (bc_new (by simp)) (Below.drew (Below.refl _ _))) hb
theorem bc_set {W : World} {g : Nat} {s s' : Bool} {ao ao' : Option Addr} {l c l' c' : Nat} (h : Bc W g s ao l c) : Bc ((W.setCell ⟨g, 0, none⟩ (.bool s')).setCell ⟨g, 1, none⟩ (.slice ao' l' c')) g s' ao' l' c' := by
  obtain ⟨x0, x1, x2, x3⟩ := h
  have z := lt_of_cell x0
  exact ⟨by simp [go_sem, *], by simp [go_sem, *], by simp [go_sem, *], by simp [go_sem, *]⟩
theorem bg_set {W : World} {g : Nat} {s s' : Bool} {ao : Option Addr} {l c : Nat} {v y : Value} {n : Int} (h : Bc W g s ao l c) (hb : Bg W y n) : Bg ((W.setCell ⟨g, 0, none⟩ (.bool s')).setCell ⟨g, 1, none⟩ v) y n :=
  (hb.set ⟨_, h.1⟩).set ⟨s', by simp [go_sem, h.1]⟩
theorem bc_E1 {W w' : World} {t : TypeId} (hb : Below (W.alloc (.cells #[.bool false, .slice none 0 0] t)).drew.heap.size (W.alloc (.cells #[.bool false, .slice none 0 0] t)).drew w') : Bc w' W.heap.size false none 0 0 :=
  Bc.keep (Bc.keep (bc_new rfl) (Below.drew (Below.refl _ _))) hb
theorem bc_E2 {W w' : World} {t t' : TypeId} (hb : Below ((W.alloc (.cells #[.bool false, .slice none 0 0] t)).alloc (.cells #[.bool false, .slice none 0 0] t')).drew.heap.size ((W.alloc (.cells #[.bool false, .slice none 0 0] t)).alloc (.cells #[.bool false, .slice none 0 0] t')).drew w') : Bc w' W.heap.size false none 0 0 ∧ Bc w' (W.heap.size + 1) false none 0 0 :=
  ⟨Bc.keep (Bc.keep (bc_new rfl) (Below.drew (bl_alloc (Below.refl _ _) _))) hb, Bc.keep (Bc.keep (bc_new (by simp)) (Below.drew (Below.refl _ _))) hb⟩
theorem bc_02 {W w' : World} {t t' : TypeId} (hb : Below ((W.alloc (.cells #[.bool false, .slice none 0 0] t)).alloc (.cells #[.bool false, .slice none 0 0] t')).heap.size ((W.alloc (.cells #[.bool false, .slice none 0 0] t)).alloc (.cells #[.bool false, .slice none 0 0] t')) w') : Bc w' W.heap.size false none 0 0 ∧ Bc w' (W.heap.size + 1) false none 0 0 :=
  ⟨Bc.keep (Bc.keep (bc_new rfl) (bl_alloc (Below.refl _ _) _)) hb, Bc.keep (bc_new (by simp)) hb⟩
theorem Bc.other {W : World} {g k o : Nat} {s : Bool} {ao : Option Addr} {l c : Nat} {u : Value} (h : Bc W g s ao l c) (hk : ¬ k = g) : Bc (W.setCell ⟨k, o, none⟩ u) g s ao l c := by
  obtain ⟨x0, x1, x2, x3⟩ := h
  have z := lt_of_cell x0
  have hk2 : ¬ g = k := fun e => hk e.symm
  exact ⟨by simp [go_sem, *], by simp [go_sem, *], by simp [go_sem, *], by simp [go_sem, *]⟩
def strLen (v : Value) : Nat := match v with | .string s => s.size | _ => 0
/-- What is written so far, behind what is left. -/
def Tx (u R : Int) (s : List UInt8) : Prop := 0 ≤ R ∧ (R = 0 → s = Lib.decDigits u.toNat) ∧ (0 < R → Lib.decDigits R.toNat ++ s = Lib.decDigits u.toNat)
theorem tx_step {u R : Int} {s : List UInt8} (h : Tx u R s) (hR : 0 < R) : Tx u (R / 10) (UInt8.ofNat (48 + (R % 10).toNat) :: s) := by
  obtain ⟨_, _, h3⟩ := h
  have e := h3 hR
  refine ⟨by omega, fun h0 => ?_, fun h0 => ?_⟩
  · rw [← e, Lib.decDigits, dif_pos (by omega)]
    have : (R % 10).toNat = R.toNat := by omega
    rw [this]; rfl
  · rw [← e]
    conv => rhs; rw [Lib.decDigits, dif_neg (show ¬ R.toNat < 10 by omega)]
    have e1 : (R / 10).toNat = R.toNat / 10 := by omega
    have e2 : (R % 10).toNat = R.toNat % 10 := by omega
    rw [e1, e2]; simp
theorem tx_len {u R : Int} {s : List UInt8} (h : Tx u R s) (hR : 0 < R) (hu : u < 10000000000000000000000000000000000000000) : s.length ≤ 40 := by
  have e := congrArg List.length (h.2.2 hR)
  have b := dec_len (k := 39) (K := u.toNat) (by omega)
  have c := dec_len_pos R.toNat
  rw [List.length_append] at e
  omega
theorem dec_big : ∀ {k K : Nat}, 10 ^ k ≤ K → k + 1 ≤ (Lib.decDigits K).length
  | 0, K, _ => dec_len_pos K
  | k + 1, K, h => by
    have hp : 1 ≤ 10 ^ k := Nat.one_le_pow _ _ (by decide)
    rw [Nat.pow_succ] at h
    rw [dec_step (by omega), List.length_append]
    have := dec_big (k := k) (K := K / 10) (by omega)
    simp
    omega
theorem bc2 {W X : World} {T : Nat} {s : Bool} {ao : Option Addr} {l c : Nat} (h : Bc W T s ao l c) (hb : Below W.heap.size W X) : X.cell? ⟨T, 0, none⟩ = some (.bool s) ∧ X.cell? ⟨T, 1, none⟩ = some (.slice ao l c) := ⟨(h.keep hb).1, (h.keep hb).2.1⟩
theorem bg_len2 {w : World} {s : Bool} {ao : Option Addr} {l c : Nat} {R : Int} (h : Bg w (.agg #[.bool s, .slice ao l c]) R) : (R = 0 → l = 0) ∧ (0 < R → 0 < l) := by
  obtain ⟨v, ds, e, rd, dg, tr, vd⟩ := h
  obtain ⟨ao', cap', ev, _⟩ := rd.parts
  subst ev
  have el : l = ds.length := by
    have := e
    simp at this
    omega
  constructor
  · intro hR
    have := len_le (k := 0) dg tr (by rw [vd, hR]; decide)
    omega
  · intro hR
    rcases Nat.eq_zero_or_pos ds.length with k | k
    · have : ds = [] := List.length_eq_zero_iff.mp k
      subst this
      simp [val] at vd
      omega
    · omega
theorem bg_small {w : World} {s : Bool} {ao : Option Addr} {l c : Nat} {r : Int} (h : Bg w (.agg #[.bool s, .slice ao l c]) r) (h0 : 0 < r) (h1 : r < 65536) : ∃ g, ao = some ⟨g, 0, none⟩ ∧ l = 1 ∧ w.cell? ⟨g, 0, none⟩ = some (.int .i64 r) := by
  obtain ⟨v, ds, e, rd, dg, tr, vd⟩ := h
  have hl := len_le (k := 1) dg tr (by rw [vd]; omega)
  obtain ⟨ao', cap', ev, hc⟩ := rd.parts
  subst ev
  have e2 : ao = ao' ∧ l = ds.length := by
    have := e
    simp at this
    exact ⟨this.2.1, this.2.2.1⟩
  match ds, hl, vd, hc, e2 with
  | [], _, vd, _, _ => simp [val] at vd; omega
  | [d], _, vd, hc, e2 =>
    obtain ⟨g, eg, hcell⟩ := hc 0 (by simp)
    refine ⟨g, e2.1.trans eg, e2.2, ?_⟩
    have : d = r := by simp [val] at vd; omega
    rw [hcell]
    simp [dat, this]
  | _ :: _ :: _, hl, _, _, _ => simp at hl
theorem und_bytes : Tryd.prog.underlying 95 = some (.slice 5) := by kernel_rfl
theorem conv_one {W : World} {c : Int} (h0 : 0 ≤ c) (h1 : c < 256) (g : Nat) (hg : g = W.heap.size) :
    (convert 95 9 (.slice (some ⟨g, 0, none⟩) 1 1)).run Tryd.prog (W.alloc (.cells #[.int .u8 c] 5)) = .ok (.string ⟨#[UInt8.ofNat c.toNat]⟩) (W.alloc (.cells #[.int .u8 c] 5)) := by
  subst hg
  refine Lib.run_convert_whole (W.alloc (.cells #[.int .u8 c] 5)) 95 5 9 und_bytes Tryd.underlying5 Tryd.underlying9 W.heap.size 0 ⟨#[UInt8.ofNat c.toNat]⟩ (fun i hi => ?_) 1
  have : i = 0 := by have : i < 1 := hi; omega
  subst this
  have e : ((⟨#[UInt8.ofNat c.toNat]⟩ : ByteArray)[0].toNat : Int) = c := by
    show ((UInt8.ofNat c.toNat).toNat : Int) = c
    rw [UInt8.toNat_ofNat']
    omega
  rw [e]
  simp [go_sem]
/-- Two big numbers laid down. -/
def En (w : World) (M5 M6 : Nat) (sq : Bool) (oq : Option Addr) (lq cq : Nat) (sr : Bool) (or_ : Option Addr) (lr cr : Nat) (a b : Int) : Prop :=
  Bc w M5 sq oq lq cq ∧ Bc w M6 sr or_ lr cr ∧ Bg w (.agg #[.bool sq, .slice oq lq cq]) a ∧ Bg w (.agg #[.bool sr, .slice or_ lr cr]) b
section
variable {X : World} {t t' : TypeId} {G H : Nat} {sq sr g h : Bool} {oq or_ go ho : Option Addr} {lq cq lr cr gl gc hl hc : Nat} {a b : Int}
theorem en1 (hq : Bg X (.agg #[.bool sq, .slice oq lq cq]) a) (hr : Bg X (.agg #[.bool sr, .slice or_ lr cr]) b) : En ((X.alloc (.cells #[.bool sq, .slice oq lq cq] t)).alloc (.cells #[.bool sr, .slice or_ lr cr] t')) X.heap.size (X.heap.size + 1) sq oq lq cq sr or_ lr cr a b :=
  ⟨Bc.keep (bc_new rfl) (bl_alloc (Below.refl _ _) _), bc_new (by simp), hq.below (bl_alloc (bl_alloc (Below.refl _ _) _) _), hr.below (bl_alloc (bl_alloc (Below.refl _ _) _) _)⟩
theorem en2 (hq : Bg X (.agg #[.bool sq, .slice oq lq cq]) a) (hr : Bg X (.agg #[.bool sr, .slice or_ lr cr]) b) : En ((X.alloc (.cells #[.bool sr, .slice or_ lr cr] t)).alloc (.cells #[.bool sq, .slice oq lq cq] t')) (X.heap.size + 1) X.heap.size sq oq lq cq sr or_ lr cr a b :=
  ⟨bc_new (by simp), Bc.keep (bc_new rfl) (bl_alloc (Below.refl _ _) _), hq.below (bl_alloc (bl_alloc (Below.refl _ _) _) _), hr.below (bl_alloc (bl_alloc (Below.refl _ _) _) _)⟩
theorem en3 (hG : Bc X G g go gl gc) (hq : Bg X (.agg #[.bool sq, .slice oq lq cq]) a) (hr : Bg X (.agg #[.bool sr, .slice or_ lr cr]) b) : En (((X.setCell ⟨G, 0, none⟩ (.bool sq)).setCell ⟨G, 1, none⟩ (.slice oq lq cq)).alloc (.cells #[.bool sr, .slice or_ lr cr] t)) G X.heap.size sq oq lq cq sr or_ lr cr a b :=
  ⟨Bc.keep (bc_set hG) (bl_alloc (Below.refl _ _) _), bc_new (by simp), (bg_set hG hq).below (bl_alloc (Below.refl _ _) _), (bg_set hG hr).below (bl_alloc (Below.refl _ _) _)⟩
theorem en4 (hG : Bc X G g go gl gc) (hq : Bg X (.agg #[.bool sq, .slice oq lq cq]) a) (hr : Bg X (.agg #[.bool sr, .slice or_ lr cr]) b) : En (((X.setCell ⟨G, 0, none⟩ (.bool sr)).setCell ⟨G, 1, none⟩ (.slice or_ lr cr)).alloc (.cells #[.bool sq, .slice oq lq cq] t)) X.heap.size G sq oq lq cq sr or_ lr cr a b :=
  ⟨bc_new (by simp), Bc.keep (bc_set hG) (bl_alloc (Below.refl _ _) _), (bg_set hG hq).below (bl_alloc (Below.refl _ _) _), (bg_set hG hr).below (bl_alloc (Below.refl _ _) _)⟩
theorem en5 (hG : Bc X G g go gl gc) (hH : Bc X H h ho hl hc) (ne : ¬ G = H) (hq : Bg X (.agg #[.bool sq, .slice oq lq cq]) a) (hr : Bg X (.agg #[.bool sr, .slice or_ lr cr]) b) : En ((((X.setCell ⟨G, 0, none⟩ (.bool sq)).setCell ⟨G, 1, none⟩ (.slice oq lq cq)).setCell ⟨H, 0, none⟩ (.bool sr)).setCell ⟨H, 1, none⟩ (.slice or_ lr cr)) G H sq oq lq cq sr or_ lr cr a b :=
  ⟨Bc.other (Bc.other (bc_set hG) (fun e => ne e.symm)) (fun e => ne e.symm), bc_set (Bc.other (Bc.other hH ne) ne), bg_set (Bc.other (Bc.other hH ne) ne) (bg_set hG hq), bg_set (Bc.other (Bc.other hH ne) ne) (bg_set hG hr)⟩
end
theorem en_cut {wx w : World} {A B T4 T1 : Nat} {sq : Bool} {oq : Option Addr} {lq cq : Nat} {sr : Bool} {or_ : Option Addr} {lr cr : Nat} {a b : Int} {s ng : Bool} {ao ao0 : Option Addr} {l c l0 c0 : Nat}
    (e : En wx A B sq oq lq cq sr or_ lr cr a b) (h4 : Bc wx T4 s ao l c) (h1 : Bc wx T1 ng ao0 l0 c0) (hB : Below w.heap.size w wx) :
    ∃ M5 M6 sq oq lq cq sr or_ lr cr, Value.pointer (some ⟨A, 0, none⟩) = .pointer (some ⟨M5, 0, none⟩) ∧ Value.pointer (some ⟨B, 0, none⟩) = .pointer (some ⟨M6, 0, none⟩) ∧ Hid (Bc wx M5 sq oq lq cq) ∧ Hid (Bc wx M6 sr or_ lr cr) ∧ Hid (Bg wx (.agg #[.bool sq, .slice oq lq cq]) a) ∧ Hid (Bg wx (.agg #[.bool sr, .slice or_ lr cr]) b) ∧ Hid (Bc wx T4 s ao l c) ∧ Hid (Bc wx T1 ng ao0 l0 c0) ∧ Below w.heap.size w wx :=
  ⟨A, B, sq, oq, lq, cq, sr, or_, lr, cr, rfl, rfl, hid1 e.1, hid1 e.2.1, hid1 e.2.2.1, hid1 e.2.2.2, hid1 h4, hid1 h1, hB⟩
set_option maxHeartbeats 3200000 in
set_option maxRecDepth 100000 in
theorem text_core (n : Int) (x : Value) (w : World) (hx : Bg w x n) (hn0 : ¬ n = 0) (hu : (n.natAbs : Int) < 10000000000000000000000000000000000000000) :
    Calls Tryd.prog 41 #[x] w fun e w' => e = .returned (.string ⟨(Lib.itoa n).toArray⟩) ∧ Below w.heap.size w w' := by
  obtain ⟨v, ds, rfl, rd, dg, tr, vd⟩ := hx
  obtain ⟨ao0, cap0, rfl, _⟩ := rd.parts
  have hl : 0 < ds.length := by
    rcases Nat.eq_zero_or_pos ds.length with k | k
    · have : ds = [] := List.length_eq_zero_iff.mp k
      subst this
      simp [val] at vd
      omega
    · exact k
  have hl' : ((ds.length : Int) == 0) = false := beq_false_of_ne (by omega)
  have HRD := hid1 rd
  have HDG := hid1 dg
  have HVD := hid1 vd
  clear rd dg tr vd
  obtain ⟨u, eu⟩ : ∃ u : Int, u = (n.natAbs : Int) := ⟨_, rfl⟩
  have HU := hid1 eu
  have u0 : 0 < u := by omega
  rw [← eu] at hu
  clear eu
  obtain ⟨ng, eng⟩ : ∃ ng, decide (n < 0) = ng := ⟨_, rfl⟩
  have HNG := hid1 eng
  rw [eng]
  clear eng
  go_enter Tryd.func41, Tryd.ntmps41
  go_wp2_with fail
  refine (trim_num u false _ ds _ (HRD.out.below (by repeat (first | exact Below.refl _ _ | refine bl_alloc ?_ _ | refine Below.drew ?_ | refine bl_drewN ?_ _ | refine bl_set ?_ (by omega) _ | refine bl_step ?_ (by assumption)))) HDG.out (by rw [HVD.out, HU.out]; simp) (fun _ => rfl) (fun h => by omega)).mono ?_
  rintro e w1 ⟨x1, b1, ao1, m1, cap1, rfl, rfl, hx1, hb1⟩
  have HX := hid1 hx1
  have HT1 : Hid (Bc w1 w.heap.size ng ao0 ds.length cap0) := hid1 (Bc.keep (bc_new rfl) hb1)
  have B1 : Below w.heap.size w w1 := by repeat (first | exact Below.refl _ _ | refine bl_alloc ?_ _ | refine Below.drew ?_ | refine bl_drewN ?_ _ | refine bl_set ?_ (by omega) _ | refine bl_step ?_ (by assumption))
  have zw := lt_of_cell HT1.out.1
  clear hx1 hb1
  go_wp2_with fail
  go_loopw [3] (fun s3 wr => ∃ (R : Int) (st : ByteArray) (s : Bool) (ao : Option Addr) (l c : Nat), s3 = .string st ∧ Hid (Tx u R st.data.toList) ∧ Hid (Bc wr w1.heap.size s ao l c) ∧ Hid (Bg wr (.agg #[.bool s, .slice ao l c]) R) ∧ Hid (Bc wr w.heap.size ng ao0 ds.length cap0) ∧ Below w.heap.size w wr) (fun s3 _ => 100 - strLen s3)
  case atStart =>
    refine ⟨u, ⟨#[]⟩, b1, ao1, m1, cap1, rfl, hid1 ⟨by omega, fun h => by omega, fun _ => by simp⟩, hid1 (bc_new rfl), hid1 (HX.out.below (by repeat (first | exact Below.refl _ _ | refine bl_alloc ?_ _ | refine Below.drew ?_ | refine bl_drewN ?_ _ | refine bl_set ?_ (by omega) _ | refine bl_step ?_ (by assumption)))), hid1 (HT1.out.keep (by repeat (first | exact Below.refl _ _ | refine bl_alloc ?_ _ | refine Below.drew ?_ | refine bl_drewN ?_ _ | refine bl_set ?_ (by omega) _ | refine bl_step ?_ (by assumption)))), by repeat (first | exact Below.refl _ _ | refine bl_alloc ?_ _ | refine Below.drew ?_ | refine bl_drewN ?_ _ | refine bl_set ?_ (by omega) _ | refine bl_step ?_ (by assumption))⟩
  case round =>
    obtain ⟨R, st, s, ao, l, c, rfl, HTX, HC, HB, HT, hB⟩ := hrel
    rename World => V
    have R0 := HTX.out.1
    obtain ⟨q1, q2⟩ := bg_len2 HB.out
    by_cases hR : R = 0
    · have l0 := q1 hR
      subst l0
      have hs := HTX.out.2.1 hR
      have HS := hid1 hs
      clear hs q1 q2
      obtain ⟨y0, y1, _, _⟩ := HC.out
      obtain ⟨x0, x1, _, _⟩ := HT.out
      by_cases hn : n < 0
      · have g : ng = true := by rw [← HNG.out]; exact decide_eq_true hn
        subst g
        have hstz : st.size ≤ 41 := by
          have e : st.size = st.data.toList.length := rfl
          rw [e, HS.out]
          have := dec_len (k := 39) (K := u.toNat) (by omega)
          omega
        have HE : Hid ((⟨#[45]⟩ ++ st : ByteArray) = ⟨(Lib.itoa n).toArray⟩) := hid1 (by
          apply ByteArray.ext
          apply Array.ext'
          have e : u.toNat = n.natAbs := by have := HU.out; omega
          have e2 : st.data.toList = Lib.decDigits n.natAbs := by rw [HS.out, e]
          unfold Lib.itoa
          rw [if_pos hn]
          simp [e2])
        go_wp2
        go_ret
        exact ⟨by rw [← HE.out]; rfl, hB⟩
      · have g : ng = false := by rw [← HNG.out]; exact decide_eq_false hn
        subst g
        have HE : Hid (st = ⟨(Lib.itoa n).toArray⟩) := hid1 (by
          apply ByteArray.ext
          apply Array.ext'
          have e : u.toNat = n.toNat := by have := HU.out; omega
          unfold Lib.itoa
          rw [if_neg hn]
          rw [HS.out, e])
        go_wp2
        go_ret
        exact ⟨by rw [← HE.out]; rfl, hB⟩
    · have hR0 : 0 < R := by omega
      have l0 := q2 hR0
      have l0' : (0 : Int) < (l : Int) := by omega
      have hst := tx_len HTX.out hR0 hu
      have hstz : st.size ≤ 40 := hst
      clear q1 q2 hst
      obtain ⟨y0, y1, _, _⟩ := HC.out
      have zV := hB.size
      have HI10 := hid1 (rint_any 10 (by unfold I64; omega))
      have hR2 : R ≤ 10000000000000000000000000000000000000000 := by
        have e := congrArg List.length (HTX.out.2.2 hR0)
        have b := dec_len (k := 39) (K := u.toNat) (by omega)
        rw [List.length_append] at e
        rcases Int.lt_or_le 10000000000000000000000000000000000000000 R with k | k
        · exfalso
          have := dec_big (k := 40) (K := R.toNat) (by omega)
          omega
        · exact k
      have HPT := hid1 (fun (y z : Value) (w : World) (hy : Bg w y R) (hz : Bg w z 10) => rparts_any R 10 y z w hy hz (by omega) (by omega) (b16 (by omega) (by omega)) (b16 (by omega) (by omega)))
      clear hR2
      go_upto_region 6 with fail
      clear y0 y1
      go_cut [5, 6] (fun s5 s6 wx => ∃ M5 M6 sq oq lq cq sr or_ lr cr, s5 = .pointer (some ⟨M5, 0, none⟩) ∧ s6 = .pointer (some ⟨M6, 0, none⟩) ∧ Hid (Bc wx M5 sq oq lq cq) ∧ Hid (Bc wx M6 sr or_ lr cr) ∧ Hid (Bg wx (.agg #[.bool sq, .slice oq lq cq]) (R / 10)) ∧ Hid (Bg wx (.agg #[.bool sr, .slice or_ lr cr]) (R % 10)) ∧ Hid (Bc wx w1.heap.size s ao l c) ∧ Hid (Bc wx w.heap.size ng ao0 ds.length cap0) ∧ Below w.heap.size w wx)
      case first =>
        obtain ⟨y0, y1, _, _⟩ := HC.out
        go_region_held3 (fun X => X.cell? ⟨w1.heap.size, 0, none⟩ = some (.bool s) ∧ X.cell? ⟨w1.heap.size, 1, none⟩ = some (.slice ao l c)) (((try dsimp only); (with_reducible refine bc2 HC.out ?_); repeat (first | (with_reducible exact Below.refl _ _) | (with_reducible refine bl_alloc ?_ _) | (with_reducible refine Below.drew ?_) | (with_reducible refine bl_drewN ?_ _) | (with_reducible refine bl_set ?_ (by omega) _) | (with_reducible refine bl_step ?_ (by assumption)))))
          (first
            | (go_at_call 35; (with_reducible refine (HI10.out _).mono ?_); rintro e X1 ⟨i1, rfl, hi1, hb1⟩; obtain ⟨si, oi, li, ci, rfl⟩ := hi1.form; have HI1 := hid1 hi1; clear hi1; have z1 : V.heap.size ≤ X1.heap.size := Nat.le_trans (by first | exact Nat.le_refl _ | (simp; done) | (simp; omega)) hb1.size; (first | ((with_reducible have NE := bc_E2 (W := V) hb1); have NA := hid1 NE.1; have NB := hid1 NE.2; clear NE) | (with_reducible have NA := hid1 (bc_E1 (W := V) hb1)) | skip); (try (have zNA := lt_of_cell NA.out.1; have n1 := Nat.ne_of_lt zNA; have n2 := Nat.ne_of_gt zNA)))
            | (go_at_call 62; (with_reducible refine (HPT.out _ _ _ (HB.out.below (by repeat (first | (with_reducible exact Below.refl _ _) | (with_reducible refine bl_alloc ?_ _) | (with_reducible refine Below.drew ?_) | (with_reducible refine bl_drewN ?_ _) | (with_reducible refine bl_set ?_ (by omega) _) | (with_reducible refine bl_step ?_ (by assumption))))) (HI1.out.below (by repeat (first | (with_reducible exact Below.refl _ _) | (with_reducible refine bl_alloc ?_ _) | (with_reducible refine Below.drew ?_) | (with_reducible refine bl_drewN ?_ _) | (with_reducible refine bl_set ?_ (by omega) _) | (with_reducible refine bl_step ?_ (by assumption)))))).mono ?_); rintro e X2 ⟨vq, vr, rfl, hq, hr, hb2⟩; obtain ⟨sq, oq, lq, cq, rfl⟩ := hq.form; obtain ⟨sr, or_, lr, cr, rfl⟩ := hr.form; have HQ := hid1 hq; have HRR := hid1 hr; clear hq hr; have z2 : X1.heap.size ≤ X2.heap.size := Nat.le_trans (by first | exact Nat.le_refl _ | (simp; done) | (simp; omega)) hb2.size; have b12 : Below X1.heap.size X1 X2 := (by repeat (first | (with_reducible exact Below.refl _ _) | (with_reducible refine bl_alloc ?_ _) | (with_reducible refine Below.drew ?_) | (with_reducible refine bl_drewN ?_ _) | (with_reducible refine bl_set ?_ (by omega) _) | (with_reducible refine bl_step ?_ (by assumption)))); (try (with_reducible have NA := hid1 (NA.out.keep b12))); (try (with_reducible have NB := hid1 (NB.out.keep b12))); clear b12; (first | ((with_reducible have NE := bc_02 (W := X1) hb2); have NC := hid1 NE.1; have ND := hid1 NE.2; clear NE) | (with_reducible have NC := hid1 (bc_0 (W := X1) hb2)) | skip); (try (obtain ⟨pa0, pa1, pa2, pa3⟩ := NA.out; have za := lt_of_cell pa0)); (try (obtain ⟨pb0, pb1, pb2, pb3⟩ := NB.out; have zb := lt_of_cell pb0)); (try (obtain ⟨pc0, pc1, pc2, pc3⟩ := NC.out; have zc := lt_of_cell pc0)); (try (obtain ⟨pd0, pd1, pd2, pd3⟩ := ND.out; have zd := lt_of_cell pd0))))
        all_goals go_wp2_with fail
        all_goals go_meet
        · exact en_cut (en1 HQ.out HRR.out) (HC.out.keep (by repeat (first | (with_reducible exact Below.refl _ _) | (with_reducible refine bl_alloc ?_ _) | (with_reducible refine Below.drew ?_) | (with_reducible refine bl_drewN ?_ _) | (with_reducible refine bl_set ?_ (by omega) _) | (with_reducible refine bl_step ?_ (by assumption))))) (HT.out.keep (by repeat (first | (with_reducible exact Below.refl _ _) | (with_reducible refine bl_alloc ?_ _) | (with_reducible refine Below.drew ?_) | (with_reducible refine bl_drewN ?_ _) | (with_reducible refine bl_set ?_ (by omega) _) | (with_reducible refine bl_step ?_ (by assumption))))) (by repeat (first | (with_reducible exact Below.refl _ _) | (with_reducible refine bl_alloc ?_ _) | (with_reducible refine Below.drew ?_) | (with_reducible refine bl_drewN ?_ _) | (with_reducible refine bl_set ?_ (by omega) _) | (with_reducible refine bl_step ?_ (by assumption))))
        · exact en_cut (en2 HQ.out HRR.out) (HC.out.keep (by repeat (first | (with_reducible exact Below.refl _ _) | (with_reducible refine bl_alloc ?_ _) | (with_reducible refine Below.drew ?_) | (with_reducible refine bl_drewN ?_ _) | (with_reducible refine bl_set ?_ (by omega) _) | (with_reducible refine bl_step ?_ (by assumption))))) (HT.out.keep (by repeat (first | (with_reducible exact Below.refl _ _) | (with_reducible refine bl_alloc ?_ _) | (with_reducible refine Below.drew ?_) | (with_reducible refine bl_drewN ?_ _) | (with_reducible refine bl_set ?_ (by omega) _) | (with_reducible refine bl_step ?_ (by assumption))))) (by repeat (first | (with_reducible exact Below.refl _ _) | (with_reducible refine bl_alloc ?_ _) | (with_reducible refine Below.drew ?_) | (with_reducible refine bl_drewN ?_ _) | (with_reducible refine bl_set ?_ (by omega) _) | (with_reducible refine bl_step ?_ (by assumption))))
        · exact en_cut (en3 NC.out HQ.out HRR.out) (HC.out.keep (by repeat (first | (with_reducible exact Below.refl _ _) | (with_reducible refine bl_alloc ?_ _) | (with_reducible refine Below.drew ?_) | (with_reducible refine bl_drewN ?_ _) | (with_reducible refine bl_set ?_ (by omega) _) | (with_reducible refine bl_step ?_ (by assumption))))) (HT.out.keep (by repeat (first | (with_reducible exact Below.refl _ _) | (with_reducible refine bl_alloc ?_ _) | (with_reducible refine Below.drew ?_) | (with_reducible refine bl_drewN ?_ _) | (with_reducible refine bl_set ?_ (by omega) _) | (with_reducible refine bl_step ?_ (by assumption))))) (by repeat (first | (with_reducible exact Below.refl _ _) | (with_reducible refine bl_alloc ?_ _) | (with_reducible refine Below.drew ?_) | (with_reducible refine bl_drewN ?_ _) | (with_reducible refine bl_set ?_ (by omega) _) | (with_reducible refine bl_step ?_ (by assumption))))
        · exact en_cut (en5 NC.out ND.out (by omega) HQ.out HRR.out) (HC.out.keep (by repeat (first | (with_reducible exact Below.refl _ _) | (with_reducible refine bl_alloc ?_ _) | (with_reducible refine Below.drew ?_) | (with_reducible refine bl_drewN ?_ _) | (with_reducible refine bl_set ?_ (by omega) _) | (with_reducible refine bl_step ?_ (by assumption))))) (HT.out.keep (by repeat (first | (with_reducible exact Below.refl _ _) | (with_reducible refine bl_alloc ?_ _) | (with_reducible refine Below.drew ?_) | (with_reducible refine bl_drewN ?_ _) | (with_reducible refine bl_set ?_ (by omega) _) | (with_reducible refine bl_step ?_ (by assumption))))) (by repeat (first | (with_reducible exact Below.refl _ _) | (with_reducible refine bl_alloc ?_ _) | (with_reducible refine Below.drew ?_) | (with_reducible refine bl_drewN ?_ _) | (with_reducible refine bl_set ?_ (by omega) _) | (with_reducible refine bl_step ?_ (by assumption))))
        · exact en_cut (en4 NC.out HQ.out HRR.out) (HC.out.keep (by repeat (first | (with_reducible exact Below.refl _ _) | (with_reducible refine bl_alloc ?_ _) | (with_reducible refine Below.drew ?_) | (with_reducible refine bl_drewN ?_ _) | (with_reducible refine bl_set ?_ (by omega) _) | (with_reducible refine bl_step ?_ (by assumption))))) (HT.out.keep (by repeat (first | (with_reducible exact Below.refl _ _) | (with_reducible refine bl_alloc ?_ _) | (with_reducible refine Below.drew ?_) | (with_reducible refine bl_drewN ?_ _) | (with_reducible refine bl_set ?_ (by omega) _) | (with_reducible refine bl_step ?_ (by assumption))))) (by repeat (first | (with_reducible exact Below.refl _ _) | (with_reducible refine bl_alloc ?_ _) | (with_reducible refine Below.drew ?_) | (with_reducible refine bl_drewN ?_ _) | (with_reducible refine bl_set ?_ (by omega) _) | (with_reducible refine bl_step ?_ (by assumption))))
        · exact en_cut (en5 ND.out NC.out (by omega) HQ.out HRR.out) (HC.out.keep (by repeat (first | (with_reducible exact Below.refl _ _) | (with_reducible refine bl_alloc ?_ _) | (with_reducible refine Below.drew ?_) | (with_reducible refine bl_drewN ?_ _) | (with_reducible refine bl_set ?_ (by omega) _) | (with_reducible refine bl_step ?_ (by assumption))))) (HT.out.keep (by repeat (first | (with_reducible exact Below.refl _ _) | (with_reducible refine bl_alloc ?_ _) | (with_reducible refine Below.drew ?_) | (with_reducible refine bl_drewN ?_ _) | (with_reducible refine bl_set ?_ (by omega) _) | (with_reducible refine bl_step ?_ (by assumption))))) (by repeat (first | (with_reducible exact Below.refl _ _) | (with_reducible refine bl_alloc ?_ _) | (with_reducible refine Below.drew ?_) | (with_reducible refine bl_drewN ?_ _) | (with_reducible refine bl_set ?_ (by omega) _) | (with_reducible refine bl_step ?_ (by assumption))))
        · exact en_cut (en3 NA.out HQ.out HRR.out) (HC.out.keep (by repeat (first | (with_reducible exact Below.refl _ _) | (with_reducible refine bl_alloc ?_ _) | (with_reducible refine Below.drew ?_) | (with_reducible refine bl_drewN ?_ _) | (with_reducible refine bl_set ?_ (by omega) _) | (with_reducible refine bl_step ?_ (by assumption))))) (HT.out.keep (by repeat (first | (with_reducible exact Below.refl _ _) | (with_reducible refine bl_alloc ?_ _) | (with_reducible refine Below.drew ?_) | (with_reducible refine bl_drewN ?_ _) | (with_reducible refine bl_set ?_ (by omega) _) | (with_reducible refine bl_step ?_ (by assumption))))) (by repeat (first | (with_reducible exact Below.refl _ _) | (with_reducible refine bl_alloc ?_ _) | (with_reducible refine Below.drew ?_) | (with_reducible refine bl_drewN ?_ _) | (with_reducible refine bl_set ?_ (by omega) _) | (with_reducible refine bl_step ?_ (by assumption))))
        · exact en_cut (en5 NA.out NC.out (by omega) HQ.out HRR.out) (HC.out.keep (by repeat (first | (with_reducible exact Below.refl _ _) | (with_reducible refine bl_alloc ?_ _) | (with_reducible refine Below.drew ?_) | (with_reducible refine bl_drewN ?_ _) | (with_reducible refine bl_set ?_ (by omega) _) | (with_reducible refine bl_step ?_ (by assumption))))) (HT.out.keep (by repeat (first | (with_reducible exact Below.refl _ _) | (with_reducible refine bl_alloc ?_ _) | (with_reducible refine Below.drew ?_) | (with_reducible refine bl_drewN ?_ _) | (with_reducible refine bl_set ?_ (by omega) _) | (with_reducible refine bl_step ?_ (by assumption))))) (by repeat (first | (with_reducible exact Below.refl _ _) | (with_reducible refine bl_alloc ?_ _) | (with_reducible refine Below.drew ?_) | (with_reducible refine bl_drewN ?_ _) | (with_reducible refine bl_set ?_ (by omega) _) | (with_reducible refine bl_step ?_ (by assumption))))
        · exact en_cut (en5 NA.out NB.out (by omega) HQ.out HRR.out) (HC.out.keep (by repeat (first | (with_reducible exact Below.refl _ _) | (with_reducible refine bl_alloc ?_ _) | (with_reducible refine Below.drew ?_) | (with_reducible refine bl_drewN ?_ _) | (with_reducible refine bl_set ?_ (by omega) _) | (with_reducible refine bl_step ?_ (by assumption))))) (HT.out.keep (by repeat (first | (with_reducible exact Below.refl _ _) | (with_reducible refine bl_alloc ?_ _) | (with_reducible refine Below.drew ?_) | (with_reducible refine bl_drewN ?_ _) | (with_reducible refine bl_set ?_ (by omega) _) | (with_reducible refine bl_step ?_ (by assumption))))) (by repeat (first | (with_reducible exact Below.refl _ _) | (with_reducible refine bl_alloc ?_ _) | (with_reducible refine Below.drew ?_) | (with_reducible refine bl_drewN ?_ _) | (with_reducible refine bl_set ?_ (by omega) _) | (with_reducible refine bl_step ?_ (by assumption))))
        · exact en_cut (en4 NA.out HQ.out HRR.out) (HC.out.keep (by repeat (first | (with_reducible exact Below.refl _ _) | (with_reducible refine bl_alloc ?_ _) | (with_reducible refine Below.drew ?_) | (with_reducible refine bl_drewN ?_ _) | (with_reducible refine bl_set ?_ (by omega) _) | (with_reducible refine bl_step ?_ (by assumption))))) (HT.out.keep (by repeat (first | (with_reducible exact Below.refl _ _) | (with_reducible refine bl_alloc ?_ _) | (with_reducible refine Below.drew ?_) | (with_reducible refine bl_drewN ?_ _) | (with_reducible refine bl_set ?_ (by omega) _) | (with_reducible refine bl_step ?_ (by assumption))))) (by repeat (first | (with_reducible exact Below.refl _ _) | (with_reducible refine bl_alloc ?_ _) | (with_reducible refine Below.drew ?_) | (with_reducible refine bl_drewN ?_ _) | (with_reducible refine bl_set ?_ (by omega) _) | (with_reducible refine bl_step ?_ (by assumption))))
        · exact en_cut (en5 NC.out NA.out (by omega) HQ.out HRR.out) (HC.out.keep (by repeat (first | (with_reducible exact Below.refl _ _) | (with_reducible refine bl_alloc ?_ _) | (with_reducible refine Below.drew ?_) | (with_reducible refine bl_drewN ?_ _) | (with_reducible refine bl_set ?_ (by omega) _) | (with_reducible refine bl_step ?_ (by assumption))))) (HT.out.keep (by repeat (first | (with_reducible exact Below.refl _ _) | (with_reducible refine bl_alloc ?_ _) | (with_reducible refine Below.drew ?_) | (with_reducible refine bl_drewN ?_ _) | (with_reducible refine bl_set ?_ (by omega) _) | (with_reducible refine bl_step ?_ (by assumption))))) (by repeat (first | (with_reducible exact Below.refl _ _) | (with_reducible refine bl_alloc ?_ _) | (with_reducible refine Below.drew ?_) | (with_reducible refine bl_drewN ?_ _) | (with_reducible refine bl_set ?_ (by omega) _) | (with_reducible refine bl_step ?_ (by assumption))))
        · exact en_cut (en5 NB.out NA.out (by omega) HQ.out HRR.out) (HC.out.keep (by repeat (first | (with_reducible exact Below.refl _ _) | (with_reducible refine bl_alloc ?_ _) | (with_reducible refine Below.drew ?_) | (with_reducible refine bl_drewN ?_ _) | (with_reducible refine bl_set ?_ (by omega) _) | (with_reducible refine bl_step ?_ (by assumption))))) (HT.out.keep (by repeat (first | (with_reducible exact Below.refl _ _) | (with_reducible refine bl_alloc ?_ _) | (with_reducible refine Below.drew ?_) | (with_reducible refine bl_drewN ?_ _) | (with_reducible refine bl_set ?_ (by omega) _) | (with_reducible refine bl_step ?_ (by assumption))))) (by repeat (first | (with_reducible exact Below.refl _ _) | (with_reducible refine bl_alloc ?_ _) | (with_reducible refine Below.drew ?_) | (with_reducible refine bl_drewN ?_ _) | (with_reducible refine bl_set ?_ (by omega) _) | (with_reducible refine bl_step ?_ (by assumption))))
      case rest =>
        clear HC HB HT
        obtain ⟨M5, M6, sq, oq, lq, cq, sr, or_, lr, cr, rfl, rfl, H5, H6, HQ, HRR, HC, HT, hB2⟩ := hcut
        rename World => V2
        clear hB zV HPT HI10
        have HTY := hid1 (tx_step HTX.out hR0)
        have r0 : 0 ≤ R % 10 := by omega
        have r1 : R % 10 < 10 := by omega
        obtain ⟨y0, y1, y2, y3⟩ := HC.out
        have zy := lt_of_cell y0
        obtain ⟨a0, a1, _, _⟩ := H5.out
        obtain ⟨b0, b1, _, _⟩ := H6.out
        have za := lt_of_cell a0
        have zb := lt_of_cell b0
        obtain ⟨D, eD⟩ : ∃ D, R % 10 = D := ⟨_, rfl⟩
        rw [eD] at HTY r0 r1 HRR
        clear eD
        by_cases hD : D = 0
        · subst hD
          have lr0 := (bg_len2 HRR.out).1 rfl
          subst lr0
          have hcv := conv_one (W := V2) (c := 48) (by omega) (by omega) V2.heap.size rfl
          have ec : UInt8.ofNat (48 : Int).toNat = UInt8.ofNat (48 + (0 : Int).toNat) := by first | rfl | (congr 1; omega)
          rw [ec] at hcv
          clear ec
          obtain ⟨ch, ech⟩ : ∃ ch, UInt8.ofNat (48 + (0 : Int).toNat) = ch := ⟨_, rfl⟩
          rw [ech] at hcv HTY
          clear ech
          have zs : (⟨#[ch]⟩ : ByteArray).size = 1 := rfl
          have nT : ¬ w1.heap.size = w.heap.size := by omega
          go_wp2_with fail
          refine ⟨⟨R / 10, ⟨#[ch]⟩ ++ st, sq, oq, lq, cq, rfl, ?_, ?_, ?_, ?_, ?_⟩, ?_⟩
          · have e : (⟨#[ch]⟩ ++ st : ByteArray).data.toList = ch :: st.data.toList := by simp
            rw [e]; exact HTY
          · exact hid1 (Bc.keep (bc_set HC.out) (bl_alloc (Below.refl _ _) _))
          · exact hid1 ((bg_set HC.out HQ.out).below (bl_alloc (Below.refl _ _) _))
          · exact hid1 (Bc.keep (Bc.other (Bc.other HT.out nT) nT) (bl_alloc (Below.refl _ _) _))
          · repeat (first | (with_reducible exact Below.refl _ _) | (with_reducible refine bl_alloc ?_ _) | (with_reducible refine Below.drew ?_) | (with_reducible refine bl_drewN ?_ _) | (with_reducible refine bl_set ?_ (by omega) _) | (with_reducible refine bl_step ?_ (by assumption)))
          · have e : (⟨#[ch]⟩ ++ st : ByteArray).size = 1 + st.size := by rw [ByteArray.size_append, zs]
            show 100 - (⟨#[ch]⟩ ++ st : ByteArray).size < 100 - st.size
            omega
        · obtain ⟨gr, rfl, rfl, hcell⟩ := bg_small HRR.out (by omega) (by omega)
          have i1 : (0 : Int) < 1 := by omega
          have hcv := conv_one (W := V2) (c := 48 + D) (by omega) (by omega) V2.heap.size rfl
          have ec : UInt8.ofNat (48 + D : Int).toNat = UInt8.ofNat (48 + (D : Int).toNat) := by first | rfl | (congr 1; omega)
          rw [ec] at hcv
          clear ec
          obtain ⟨ch, ech⟩ : ∃ ch, UInt8.ofNat (48 + (D : Int).toNat) = ch := ⟨_, rfl⟩
          rw [ech] at hcv HTY
          clear ech
          have zs : (⟨#[ch]⟩ : ByteArray).size = 1 := rfl
          have nT : ¬ w1.heap.size = w.heap.size := by omega
          go_wp2_with fail
          refine ⟨⟨R / 10, ⟨#[ch]⟩ ++ st, sq, oq, lq, cq, rfl, ?_, ?_, ?_, ?_, ?_⟩, ?_⟩
          · have e : (⟨#[ch]⟩ ++ st : ByteArray).data.toList = ch :: st.data.toList := by simp
            rw [e]; exact HTY
          · exact hid1 (Bc.keep (bc_set HC.out) (bl_alloc (Below.refl _ _) _))
          · exact hid1 ((bg_set HC.out HQ.out).below (bl_alloc (Below.refl _ _) _))
          · exact hid1 (Bc.keep (Bc.other (Bc.other HT.out nT) nT) (bl_alloc (Below.refl _ _) _))
          · repeat (first | (with_reducible exact Below.refl _ _) | (with_reducible refine bl_alloc ?_ _) | (with_reducible refine Below.drew ?_) | (with_reducible refine bl_drewN ?_ _) | (with_reducible refine bl_set ?_ (by omega) _) | (with_reducible refine bl_step ?_ (by assumption)))
          · have e : (⟨#[ch]⟩ ++ st : ByteArray).size = 1 + st.size := by rw [ByteArray.size_append, zs]
            show 100 - (⟨#[ch]⟩ ++ st : ByteArray).size < 100 - st.size
            omega
set_option maxRecDepth 100000 in
theorem text_zero (x : Value) (w : World) (hx : Bg w x 0) :
    Calls Tryd.prog 41 #[x] w fun e w' => e = .returned (.string ⟨(Lib.itoa 0).toArray⟩) ∧ Below w.heap.size w w' := by
  obtain ⟨s, ao, l, c, rfl⟩ := hx.form
  have l0 := (bg_len2 hx).1 rfl
  subst l0
  have e : (⟨(Lib.itoa 0).toArray⟩ : ByteArray) = ⟨#[48]⟩ := by decide +kernel
  rw [e]
  clear hx e
  go_enter Tryd.func41, Tryd.ntmps41
  go_wp2
  go_ret
  exact ⟨rfl, by repeat (first | exact Below.refl _ _ | refine bl_alloc ?_ _ | refine Below.drew ?_ | refine bl_drewN ?_ _ | refine bl_set ?_ (by omega) _ | refine bl_step ?_ (by assumption))⟩
theorem text_any (n : Int) (x : Value) (w : World) (hx : Bg w x n) (hu : (n.natAbs : Int) < 10000000000000000000000000000000000000000) :
    Calls Tryd.prog 41 #[x] w fun e w' => e = .returned (.string ⟨(Lib.itoa n).toArray⟩) ∧ Below w.heap.size w w' := by
  by_cases h : n = 0
  · subst h; exact text_zero x w hx
  · exact text_core n x w hx h hu
theorem show_itoa (n : Int) : showL n = Lib.itoa n := by
  unfold showL Lib.itoa absN
  by_cases h : n < 0
  · rw [if_pos h, if_pos h, if_pos h]
    rw [show (-n).toNat = n.natAbs by omega]
  · rw [if_neg h, if_neg h, if_neg h]
set_option maxHeartbeats 800000 in
set_option maxRecDepth 100000 in
theorem rshow_any (n : Int) (hn : Rng n) (w : World) :
    Calls Tryd.prog 13 #[wv n] w fun e w' => e = .returned (.string ⟨(showL n).toArray⟩) ∧ Below w.heap.size w w' := by
  rw [show_itoa]
  have HT := hid1 (fun (x : Value) (w : World) (hx : Bg w x n) => text_any n x w hx (by unfold Rng at hn; omega))
  obtain ⟨s, hs⟩ : ∃ s : ByteArray, (⟨(Lib.itoa n).toArray⟩ : ByteArray) = s := ⟨_, rfl⟩
  rw [hs] at HT ⊢
  clear hs
  go_enter Tryd.func13, Tryd.ntmps13
  go_wp2_with fail
  refine (rwide_any n hn _).mono ?_
  rintro e w1 ⟨z, rfl, hz, hb1⟩
  have B1 : Below w.heap.size w w1 := by repeat (first | exact Below.refl _ _ | refine bl_alloc ?_ _ | refine Below.drew ?_ | refine bl_drewN ?_ _ | refine bl_set ?_ (by omega) _ | refine bl_step ?_ (by assumption))
  obtain ⟨s1, o1, l1, c1, rfl⟩ := hz.form
  have HZ := hid1 hz
  clear hz hb1
  go_wp2_with fail
  refine (HT.out _ _ HZ.out).mono ?_
  rintro e w2 ⟨rfl, hb2⟩
  have B2 := bl_step B1 hb2
  clear hb2 B1
  go_wp2
  go_ret
  exact ⟨rfl, B2⟩
end Go.Proofs.YtcjglbejmlebhaaDoor
/- THE DOCUMENT'S NUMBERS READ. -/
namespace Go.Proofs.YtcjglbejmlebhaaDoor
open Go.RowKit Go.Shelf
attribute [local go_sem ↓] Go.wp_at_zero Go.wp_at_succ

theorem r_drop (s : ByteArray) (k : Nat) (h : k < s.size) : s.data.toList.drop k = s[k] :: s.data.toList.drop (k + 1) := by
  rw [List.drop_eq_getElem_cons (by simpa using h)]; rfl
theorem r_take (s : ByteArray) (k : Nat) (h : k < s.size) : s.data.toList.take (k + 1) = s.data.toList.take k ++ [s[k]] := by
  rw [List.take_succ_eq_append_getElem (by simpa using h)]; rfl
theorem r_head (s : ByteArray) (h : 0 < s.size) : s.data.toList = s[0] :: s.data.toList.tail := by
  have e := r_drop s 0 h
  rw [List.drop_zero] at e
  rw [e]; simp
theorem r_nil (s : ByteArray) (h : ¬ 0 < s.size) : s.data.toList = [] := List.length_eq_zero_iff.mp (by have : s.data.toList.length = s.size := rfl; omega)
theorem r_tail (s : ByteArray) : (s.extract 1 s.size).data.toList = s.data.toList.tail := by
  simp
  exact List.take_of_length_le (by simp)
theorem r_ext {s t : ByteArray} (h : s.data.toList = t.data.toList) : s = t := by
  apply ByteArray.ext
  apply Array.ext'
  exact h
theorem r_byte {c : UInt8} {k : Nat} (hk : k < 256) : c = UInt8.ofNat k ↔ (c.toNat : Int) = (k : Int) := by
  constructor
  · rintro rfl
    rw [UInt8.toNat_ofNat']; omega
  · intro h
    apply UInt8.toNat_inj.mp
    rw [UInt8.toNat_ofNat']
    omega
theorem r_45 {c : UInt8} : c = 45 ↔ (c.toNat : Int) = 45 := r_byte (k := 45) (by omega)
theorem r_48 {c : UInt8} : c = 48 ↔ (c.toNat : Int) = 48 := r_byte (k := 48) (by omega)
theorem r_dig {c : UInt8} : isDig c = true ↔ (48 ≤ (c.toNat : Int) ∧ (c.toNat : Int) ≤ 57) := by
  unfold isDig
  rw [decide_eq_true_iff]
  omega
theorem valD_take (s : ByteArray) (k : Nat) (h : k < s.size) : valD 0 (s.data.toList.take (k + 1)) = valD 0 (s.data.toList.take k) * 10 + ((s[k].toNat : Int) - 48) := by
  rw [r_take s k h, valD_append]
  simp [valD]
theorem valD_take_bd (s : ByteArray) (k : Nat) (h : ∀ c ∈ s.data.toList, isDig c = true) (hk : k ≤ 40) : 0 ≤ valD 0 (s.data.toList.take k) ∧ valD 0 (s.data.toList.take k) < 10000000000000000000000000000000000000000 := by
  obtain ⟨h1, h2⟩ := valD_bd (s.data.toList.take k) (fun c hc => h c (List.mem_of_mem_take hc))
  refine ⟨h1, Int.lt_of_lt_of_le h2 ?_⟩
  have : (10 : Nat) ^ (s.data.toList.take k).length ≤ 10 ^ 40 := Nat.pow_le_pow_right (by omega) (by rw [List.length_take]; omega)
  have e : ((10 ^ 40 : Nat) : Int) = 10000000000000000000000000000000000000000 := by decide
  omega
/-- What the texts of digits come to. -/
theorem rd_bad_dig {l d : List UInt8} (e2 : cutRest l = d) (h : ¬ ∀ c ∈ d, isDig c = true) : readV l = 0 ∧ readE l = 1 := by
  refine read_bad ?_
  unfold readOk
  rw [e2]
  have : isWr d = false := by
    cases hw : isWr d
    · rfl
    · exact absurd (isWr_all hw) h
  rw [this]; rfl
theorem rd_bad_front {l d : List UInt8} (hl : ¬ l = [48]) (e2 : cutRest l = d) (h : d = [] ∨ ∃ r, d = 48 :: r) : readV l = 0 ∧ readE l = 1 := by
  refine read_bad ?_
  unfold readOk
  rw [e2]
  rcases h with rfl | ⟨r, rfl⟩
  · rfl
  · cases r with
    | nil =>
      have : cutNeg l = true := by
        cases hn : cutNeg l
        · exfalso
          unfold cutRest at e2
          rw [hn] at e2
          exact hl e2
        · rfl
      rw [this]; rfl
    | cons x r => simp [isWr]
theorem rd_good {l d : List UInt8} {ng : Bool} (e1 : cutNeg l = ng) (e2 : cutRest l = d) (h0 : ¬ d = []) (h1 : ∀ r, ¬ d = 48 :: r) (h : ∀ c ∈ d, isDig c = true) : readV l = fitV (sgB (valD 0 d) ng) ∧ readE l = errV (sgB (valD 0 d) ng) := by
  have hok : readOk l = true := by
    unfold readOk
    rw [e2]
    cases d with
    | nil => exact absurd rfl h0
    | cons c r =>
      have hc : ¬ c = 48 := fun e => h1 r (by rw [e])
      have : isWr (c :: r) = true := by
        simp only [isWr, Bool.and_eq_true, List.all_eq_true]
        exact ⟨by simp [hc], h⟩
      rw [this]
      have e : ((c :: r) == [48]) = false := by
        apply beq_false_of_ne
        intro e
        injection e with e _
        exact hc e
      rw [e]; simp
  rw [(read_good hok).1, (read_good hok).2, e1, e2]
  exact ⟨rfl, rfl⟩
theorem rd_far {d : List UInt8} {ng : Bool} (h0 : ¬ d = []) (h1 : ∀ r, ¬ d = 48 :: r) (h : ∀ c ∈ d, isDig c = true) (hl : 40 < d.length) : fitV (sgB (valD 0 d) ng) = 0 ∧ errV (sgB (valD 0 d) ng) = 10 := by
  have hv : 10000000000000000000000000000000000000000 ≤ valD 0 d := by
    cases d with
    | nil => exact absurd rfl h0
    | cons c r =>
      rw [valD]
      have hc : ¬ c = 48 := fun e => h1 r (by rw [e])
      have hd := r_dig.1 (h c (by simp))
      have hc' : ¬ (c.toNat : Int) = 48 := fun e => hc (r_48.2 e)
      have := valD_mono (n := 0 * 10 + ((c.toNat : Int) - 48)) r (fun x hx => h x (by simp [hx]))
      have h40 : (10 : Nat) ^ 40 ≤ 10 ^ r.length := Nat.pow_le_pow_right (by omega) (by simp at hl; omega)
      have e : ((10 ^ 40 : Nat) : Int) = 10000000000000000000000000000000000000000 := by decide
      have h1 : (1 : Int) * ((10 ^ r.length : Nat) : Int) ≤ (0 * 10 + ((c.toNat : Int) - 48)) * ((10 ^ r.length : Nat) : Int) := Int.mul_le_mul_of_nonneg_right (by omega) (by omega)
      generalize (10 : Nat) ^ r.length = p at *
      omega
  exact fit_out (by unfold Rng sgB; split <;> omega)
theorem sv2 {W X : World} {g : Nat} {u v : Value} (h : Sv W g u v) (hb : Below W.heap.size W X) : X.cell? ⟨g, 0, none⟩ = some u ∧ X.cell? ⟨g, 1, none⟩ = some v := ⟨(h.keep hb).1, (h.keep hb).2.1⟩
theorem sg_bd {v : Int} {ng : Bool} (h0 : 0 ≤ v) (h1 : v < 10000000000000000000000000000000000000000) : ((sgB v ng).natAbs : Int) < 65536 ^ 40 := b40 (by unfold sgB; split <;> omega) (by unfold sgB; split <;> omega)
set_option maxHeartbeats 12800000 in
set_option maxRecDepth 100000 in
theorem rread_core (s : ByteArray) (RV RE : Int) (hV : readV s.data.toList = RV) (hE : readE s.data.toList = RE) (hs : s.size ≤ 281474976710656) (w : World) :
    Calls Tryd.prog 15 #[.string s] w fun e w' => e = .returned (.tuple #[wv RV, .int .i64 RE]) ∧ Below w.heap.size w w' := by
  have G : ∀ {x y : Int}, (readV s.data.toList = x ∧ readE s.data.toList = y) → RV = x ∧ RE = y := fun h => ⟨hV.symm.trans h.1, hE.symm.trans h.2⟩
  clear hV hE
  by_cases h48 : s.data.toList = [48]
  · have HG := hid1 (G (show readV s.data.toList = 0 ∧ readE s.data.toList = 0 by rw [h48]; decide))
    have e48 : (s.toList == [48]) = true := by rw [blist, h48]; rfl
    have e48' : s.toList = [48] := by rw [blist, h48]
    clear G h48
    go_enter Tryd.func15, Tryd.ntmps15
    go_wp2_with fail
    rw [HG.out.1, HG.out.2]
    simp [bodyPost, results, Tryd.results15, go_sem]
    refine ⟨by decide, ?_⟩
    repeat (first | exact Below.refl _ _ | refine bl_alloc ?_ _ | refine Below.drew ?_ | refine bl_drewN ?_ _ | refine bl_set ?_ (by omega) _ | refine bl_step ?_ (by assumption))
  · have hl := h48
    have h48' : (s.toList == [48]) = false := by rw [blist]; exact beq_false_of_ne h48
    by_cases h0 : 0 < s.size
    · have h0' : (0 : Int) < (s.size : Int) := by omega
      by_cases h45 : s[0] = 45
      · have q45 : (s[0].toNat : Int) = 45 := r_45.1 h45
        have q1 : (1 : Int) ≤ (s.size : Int) := by omega
        have e1 : cutNeg s.data.toList = true := by rw [r_head s h0, h45]; rfl
        have e2 : cutRest s.data.toList = s.data.toList.tail := by unfold cutRest; rw [e1, if_pos rfl]
        clear h45 h48
        go_enter Tryd.func15, Tryd.ntmps15
        go_upto_region 7 with fail
        obtain ⟨d, hd⟩ : ∃ d, s.extract 1 s.size = d := ⟨_, rfl⟩
        rw [hd]
        replace e2 : cutRest s.data.toList = d.data.toList := e2.trans (by rw [← hd]; exact (r_tail s).symm)
        have hs2 : d.size ≤ 281474976710656 := by
          have e : d.data.toList.length = s.data.toList.length - 1 := by rw [← hd, r_tail]; simp
          have e3 : d.data.toList.length = d.size := rfl
          have e4 : s.data.toList.length = s.size := rfl
          omega
        clear q1 h48' hd
        have ed0 : d.data.toList.length = d.size := rfl
        by_cases hf : d.data.toList = [] ∨ ∃ r, d.data.toList = 48 :: r
        · have HG := hid1 (G (rd_bad_front hl e2 hf))
          by_cases hz : 0 < d.size
          · have hz' : (0 : Int) < (d.size : Int) := by omega
            have nz : ¬ d.toList = [] := by rw [blist]; intro e; rw [e] at ed0; simp at ed0; omega
            have nz' : (d.toList == []) = false := beq_false_of_ne nz
            have q48 : (d[0].toNat : Int) = 48 := by
              rcases hf with hf | ⟨r, hf⟩
              · rw [hf] at ed0; simp at ed0; omega
              · rw [r_head d hz] at hf
                injection hf with hf _
                exact r_48.1 hf
            clear hf e1 e2 hl G
            go_wp2_with fail
            rw [HG.out.1, HG.out.2]
            simp [bodyPost, results, Tryd.results15, go_sem]
            refine ⟨by decide, ?_⟩
            repeat (first | exact Below.refl _ _ | refine bl_alloc ?_ _ | refine Below.drew ?_ | refine bl_drewN ?_ _ | refine bl_set ?_ (by omega) _ | refine bl_step ?_ (by assumption))
          · have nz : d.toList = [] := by rw [blist]; exact r_nil d hz
            clear hf e1 e2 hl G
            go_wp2_with fail
            rw [HG.out.1, HG.out.2]
            simp [bodyPost, results, Tryd.results15, go_sem]
            refine ⟨by decide, ?_⟩
            repeat (first | exact Below.refl _ _ | refine bl_alloc ?_ _ | refine Below.drew ?_ | refine bl_drewN ?_ _ | refine bl_set ?_ (by omega) _ | refine bl_step ?_ (by assumption))
        · have k0 : ¬ d.data.toList = [] := fun e => hf (.inl e)
          have h1 : ∀ r, ¬ d.data.toList = 48 :: r := fun r e => hf (.inr ⟨r, e⟩)
          have hz : 0 < d.size := by
            rcases Nat.eq_zero_or_pos d.size with k | k
            · exact absurd (r_nil d (by omega)) k0
            · exact k
          have hz' : (0 : Int) < (d.size : Int) := by omega
          have nz : ¬ d.toList = [] := by rw [blist]; exact k0
          have nz' : (d.toList == []) = false := beq_false_of_ne nz
          have q48 : ¬ (d[0].toNat : Int) = 48 := fun e => h1 d.data.toList.tail (by conv => lhs; rw [r_head d hz]; rw [r_48.2 e])
          have q48' : ((d[0].toNat : Int) == 48) = false := beq_false_of_ne q48
          have HX := hid1 (And.intro k0 h1)
          have HBD := hid1 (fun (h : ¬ ∀ c ∈ d.data.toList, isDig c = true) => G (rd_bad_dig e2 h))
          have HGD := hid1 (fun (h : ∀ c ∈ d.data.toList, isDig c = true) => G (rd_good e1 e2 k0 h1 h))
          clear hf k0 h1 e1 e2 hl G
          go_wp2_with fail
          clear q48 q48' nz nz'
          go_loopw [6] (fun q wr => ∃ k : Nat, k ≤ d.size ∧ q = .int .i64 k ∧ Hid (∀ j (hj : j < d.size), j < k → isDig d[j] = true) ∧ Hid (Zw wr w.heap.size) ∧ Below w.heap.size w wr) (fun q _ => d.size - (intOf q).toNat)
          case atStart => exact ⟨0, Nat.zero_le _, rfl, hid1 (fun j hj h => by omega), hid1 (zw_new rfl), by repeat (first | exact Below.refl _ _ | refine bl_alloc ?_ _ | refine Below.drew ?_ | refine bl_drewN ?_ _ | refine bl_set ?_ (by omega) _ | refine bl_step ?_ (by assumption))⟩
          case round =>
            obtain ⟨k, hk, rfl, HJ, ZR, BV⟩ := hrel
            rename World => V
            have ik0 : (0 : Int) ≤ (k : Int) := by omega
            by_cases hlt : k < d.size
            · have hlt' : (k : Int) < (d.size : Int) := by omega
              by_cases hd : isDig d[k] = true
              · obtain ⟨d1, d2⟩ := r_dig.1 hd
                have HJ2 : Hid (∀ j (hj : j < d.size), j < k + 1 → isDig d[j] = true) := hid1 (fun j hj h => by
                  rcases Nat.lt_or_ge j k with h2 | h2
                  · exact HJ.out j hj h2
                  · obtain rfl : j = k := by omega
                    exact hd)
                have d3 : decide ((d[k].toNat : Int) < 48) = false := decide_eq_false (by omega)
                have d4 : decide ((d[k].toNat : Int) > 57) = false := decide_eq_false (by omega)
                have d5 : decide (57 < (d[k].toNat : Int)) = false := decide_eq_false (by omega)
                clear hd
                go_wp2_with fail
                exact ⟨⟨k + 1, by omega, by go_num, HJ2, ZR, BV⟩, by simp [intOf]; omega⟩
              · have HG := hid1 (HBD.out (fun h => hd (h d[k] (by rw [show d[k] = d.data.toList[k]'(by simpa using hlt) from rfl]; exact List.getElem_mem _))))
                obtain ⟨r0, r1, t0, t1⟩ := ZR.out
                by_cases d1 : (d[k].toNat : Int) < 48
                · clear hd
                  go_wp2_with fail
                  rw [HG.out.1, HG.out.2]
                  simp [bodyPost, results, Tryd.results15, go_sem, r0, r1]
                  refine ⟨by decide, ?_⟩
                  repeat (first | exact Below.refl _ _ | refine bl_alloc ?_ _ | refine Below.drew ?_ | refine bl_drewN ?_ _ | refine bl_set ?_ (by omega) _ | refine bl_step ?_ (by assumption))
                · have d2 : (d[k].toNat : Int) > 57 := by
                    have : ¬ (48 ≤ (d[k].toNat : Int) ∧ (d[k].toNat : Int) ≤ 57) := fun h => hd (r_dig.2 h)
                    omega
                  have d3 : decide ((d[k].toNat : Int) < 48) = false := decide_eq_false d1
                  clear hd d1
                  go_wp2_with fail
                  rw [HG.out.1, HG.out.2]
                  simp [bodyPost, results, Tryd.results15, go_sem, r0, r1]
                  refine ⟨by decide, ?_⟩
                  repeat (first | exact Below.refl _ _ | refine bl_alloc ?_ _ | refine Below.drew ?_ | refine bl_drewN ?_ _ | refine bl_set ?_ (by omega) _ | refine bl_step ?_ (by assumption))
            · obtain rfl : k = d.size := by omega
              have hall : ∀ c ∈ d.data.toList, isDig c = true := by
                intro c hc
                obtain ⟨j, hj, e⟩ := List.mem_iff_getElem.1 hc
                rw [← e]
                exact HJ.out j (by simpa using hj) (by simpa using hj)
              have HD := hid1 hall
              have HG0 := hid1 (HGD.out hall)
              clear HJ HBD HGD hall
              by_cases hlen : 40 < d.size
              · have hlen' : (40 : Int) < (d.size : Int) := by omega
                have FO := rd_far (ng := true) HX.out.1 HX.out.2 HD.out (by rw [ed0]; exact hlen)
                have HG := hid1 (And.intro (HG0.out.1.trans FO.1) (HG0.out.2.trans FO.2))
                clear FO HG0
                obtain ⟨r0, r1, t0, t1⟩ := ZR.out
                go_wp2_with fail
                rw [HG.out.1, HG.out.2]
                simp [bodyPost, results, Tryd.results15, go_sem, r0, r1]
                refine ⟨by decide, ?_⟩
                repeat (first | exact Below.refl _ _ | refine bl_alloc ?_ _ | refine Below.drew ?_ | refine bl_drewN ?_ _ | refine bl_set ?_ (by omega) _ | refine bl_step ?_ (by assumption))
              · have hlen' : decide ((d.size : Int) > 40) = false := decide_eq_false (by omega)
                have hlen2 : decide (40 < (d.size : Int)) = false := decide_eq_false (by omega)
                have HG := HG0
                clear HG0 HX
                have zr := lt_of_cell ZR.out.1
                go_wp2_with fail
                have hz7 : V.heap.size = V.heap.size := rfl
                obtain ⟨g7, eg7⟩ : ∃ g7, V.heap.size = g7 := ⟨_, rfl⟩
                have S7 : Hid (Zb (V.alloc (.cells #[.bool false, .slice none 0 0] 44)) g7) := hid1 (zb_new eg7)
                have B7 : Hid (Bg (V.alloc (.cells #[.bool false, .slice none 0 0] 44)) (.agg #[.bool false, .slice none 0 0]) (valD 0 (d.data.toList.take 0))) := hid1 ⟨_, [], by simp [valD], .inl ⟨rfl, rfl⟩, fun _ h => by simp at h, .inl rfl, rfl⟩
                replace ZR : Hid (Zw (V.alloc (.cells #[.bool false, .slice none 0 0] 44)) w.heap.size) := hid1 (Sv.alloc ZR.out _)
                replace BV : Below w.heap.size w (V.alloc (.cells #[.bool false, .slice none 0 0] 44)) := bl_alloc BV _
                have g7w : w.heap.size < g7 := by omega
                rw [eg7]
                clear hz7 eg7
                go_loopw [8] (fun q wr => ∃ (k : Nat) (s : Bool) (ao : Option Addr) (l c : Nat), k ≤ d.size ∧ q = .int .i64 k ∧ Hid (Sv wr g7 (.bool s) (.slice ao l c)) ∧ Hid (Bg wr (.agg #[.bool s, .slice ao l c]) (valD 0 (d.data.toList.take k))) ∧ Hid (Zw wr w.heap.size) ∧ Below w.heap.size w wr) (fun q _ => d.size - (intOf q).toNat)
                case atStart => exact ⟨0, false, none, 0, 0, Nat.zero_le _, rfl, S7, B7, ZR, BV⟩
                case round =>
                  clear S7 B7 ZR BV
                  obtain ⟨k, s, ao, l, c, hk, rfl, S7, B7, ZR, BV⟩ := hrel
                  rename World => Y
                  have ik0 : (0 : Int) ≤ (k : Int) := by omega
                  by_cases hlt : k < d.size
                  · have hlt' : (k : Int) < (d.size : Int) := by omega
                    obtain ⟨d1, d2⟩ := r_dig.1 (HD.out d[k] (by rw [show d[k] = d.data.toList[k]'(by simpa using hlt) from rfl]; exact List.getElem_mem _))
                    have VB := hid1 (valD_take_bd d k HD.out (by omega))
                    have VN := hid1 (valD_take d k hlt)
                    obtain ⟨D, eD⟩ : ∃ D, (d[k].toNat : Int) - 48 = D := ⟨_, rfl⟩
                    have D0 : 0 ≤ D := by omega
                    have D1 : D ≤ 9 := by omega
                    have wD : IntKind.u8.wrap ((d[k].toNat : Int) - 48) = D := by rw [← eD]; simp [IntKind.wrap, IntKind.signed, IntKind.bits]; omega
                    have wD1 : IntKind.u8.wrap D = D := by simp [IntKind.wrap, IntKind.signed, IntKind.bits]; omega
                    have wD3 : IntKind.i64.wrap D = D := by simp [IntKind.wrap, IntKind.signed, IntKind.bits]; omega
                    have wD2 : wrap64 D = D := by unfold wrap64; omega
                    obtain ⟨v, ev⟩ : ∃ v, valD 0 (d.data.toList.take k) = v := ⟨_, rfl⟩
                    rw [ev] at VB VN B7
                    rw [eD] at VN
                    have HI10 := hid1 (rint_any 10 (by unfold I64; omega))
                    have HID := hid1 (rint_any D (by unfold I64; omega))
                    have HMU := hid1 (fun (x y : Value) (w : World) (hx : Bg w x v) (hy : Bg w y 10) => rmul_any v 10 x y w hx hy (b16 (by have := VB.out; omega) (by have := VB.out; omega)) (b16 (by omega) (by omega)))
                    have HAD := hid1 (fun (x y : Value) (w : World) (hx : Bg w x (v * 10)) (hy : Bg w y D) => radd_any (v * 10) D x y w hx hy (b40 (by have := VB.out; omega) (by have := VB.out; omega)) (b40 (by omega) (by omega)))
                    obtain ⟨p0, p1, q0, q1⟩ := S7.out
                    have zz := lt_of_cell p0
                    go_upto_region 20 with fail
                    go_region_with (first
                      | (go_at_call 46; refine (HAD.out _ _ _ (HY2.out.below (by repeat (first | (with_reducible exact Below.refl _ _) | (with_reducible refine bl_alloc ?_ _) | (with_reducible refine Below.drew ?_) | (with_reducible refine bl_drewN ?_ _) | (with_reducible refine bl_set ?_ (by omega) _) | (with_reducible refine bl_step ?_ (by assumption))))) (HY3.out.below (by repeat (first | (with_reducible exact Below.refl _ _) | (with_reducible refine bl_alloc ?_ _) | (with_reducible refine Below.drew ?_) | (with_reducible refine bl_drewN ?_ _) | (with_reducible refine bl_set ?_ (by omega) _) | (with_reducible refine bl_step ?_ (by assumption)))))).mono ?_; rintro e X4 ⟨y4, rfl, hy4, hb4⟩; obtain ⟨s4, o4, l4, c4, rfl⟩ := hy4.form; have HY4 := hid1 hy4; clear hy4; have C4 : Hid (Below Y.heap.size Y X4) := hid1 (by repeat (first | (with_reducible exact Below.refl _ _) | (with_reducible refine bl_alloc ?_ _) | (with_reducible refine Below.drew ?_) | (with_reducible refine bl_drewN ?_ _) | (with_reducible refine bl_set ?_ (by omega) _) | (with_reducible refine bl_step ?_ (by assumption)))); have p0 := (S7.out.keep C4.out).1; have p1 := (S7.out.keep C4.out).2.1; have q0 := (S7.out.keep C4.out).2.2.1; have q1 := (S7.out.keep C4.out).2.2.2)
                      | (go_at_call 47; refine (HMU.out _ _ _ (B7.out.below (by repeat (first | (with_reducible exact Below.refl _ _) | (with_reducible refine bl_alloc ?_ _) | (with_reducible refine Below.drew ?_) | (with_reducible refine bl_drewN ?_ _) | (with_reducible refine bl_set ?_ (by omega) _) | (with_reducible refine bl_step ?_ (by assumption))))) (HY1.out.below (by repeat (first | (with_reducible exact Below.refl _ _) | (with_reducible refine bl_alloc ?_ _) | (with_reducible refine Below.drew ?_) | (with_reducible refine bl_drewN ?_ _) | (with_reducible refine bl_set ?_ (by omega) _) | (with_reducible refine bl_step ?_ (by assumption)))))).mono ?_; rintro e X2 ⟨y2, rfl, hy2, hb2⟩; obtain ⟨s2, o2, l2, c2, rfl⟩ := hy2.form; have HY2 := hid1 hy2; clear hy2; have C2 : Hid (Below Y.heap.size Y X2) := hid1 (by repeat (first | (with_reducible exact Below.refl _ _) | (with_reducible refine bl_alloc ?_ _) | (with_reducible refine Below.drew ?_) | (with_reducible refine bl_drewN ?_ _) | (with_reducible refine bl_set ?_ (by omega) _) | (with_reducible refine bl_step ?_ (by assumption)))); have p0 := (S7.out.keep C2.out).1; have p1 := (S7.out.keep C2.out).2.1)
                      | (go_at_call 35; (with_reducible refine (HID.out _).mono ?_); rintro e X3 ⟨y3, rfl, hy3, hb3⟩; obtain ⟨s3, o3, l3, c3, rfl⟩ := hy3.form; have HY3 := hid1 hy3; clear hy3; have C3 : Hid (Below Y.heap.size Y X3) := hid1 (by repeat (first | (with_reducible exact Below.refl _ _) | (with_reducible refine bl_alloc ?_ _) | (with_reducible refine Below.drew ?_) | (with_reducible refine bl_drewN ?_ _) | (with_reducible refine bl_set ?_ (by omega) _) | (with_reducible refine bl_step ?_ (by assumption)))); have p0 := (S7.out.keep C3.out).1; have p1 := (S7.out.keep C3.out).2.1)
                      | (go_at_call 35; (with_reducible refine (HI10.out _).mono ?_); rintro e X1 ⟨y1, rfl, hy1, hb1⟩; obtain ⟨s1, o1, l1, c1, rfl⟩ := hy1.form; have HY1 := hid1 hy1; clear hy1; have C1 : Hid (Below Y.heap.size Y X1) := hid1 (by repeat (first | (with_reducible exact Below.refl _ _) | (with_reducible refine bl_alloc ?_ _) | (with_reducible refine Below.drew ?_) | (with_reducible refine bl_drewN ?_ _) | (with_reducible refine bl_set ?_ (by omega) _) | (with_reducible refine bl_step ?_ (by assumption)))); have p0 := (S7.out.keep C1.out).1; have p1 := (S7.out.keep C1.out).2.1))
                    all_goals (
                      refine gen_any (fun W' => Hid (Sv W' g7 (.bool s4) (.slice o4 l4 c4)) ∧ Hid (Bg W' (.agg #[.bool s4, .slice o4 l4 c4]) (v * 10 + D)) ∧ Hid (Zw W' w.heap.size) ∧ Below w.heap.size w W') ⟨hid1 (Sv.own' (S7.out.keep C4.out)), hid1 (HY4.out.set3 (S7.out.keep C4.out)), hid1 (Sv.oth (Sv.oth (ZR.out.keep C4.out) (by omega)) (by omega)), bl_set (bl_set (bl_step BV C4.out) (by omega) _) (by omega) _⟩ ?_
                      clear p0 p1 q0 q1 S7 B7 ZR BV zz
                      rintro Y9 ⟨S7, B7, ZR, BV⟩
                      simp only [Exit.inBlock, Exit.then]
                      go_wp2_with fail
                      exact ⟨⟨k + 1, s4, o4, l4, c4, by omega, by go_num, S7, hid1 (by rw [VN.out]; exact B7.out), ZR, BV⟩, by simp [intOf]; omega⟩)
                  · obtain rfl : k = d.size := by omega
                    have ef : valD 0 (d.data.toList.take d.size) = valD 0 d.data.toList := by rw [List.take_of_length_le (by rw [show d.data.toList.length = d.size from rfl]; omega)]
                    rw [ef] at B7
                    have VB := hid1 (valD_take_bd d d.size HD.out (by omega))
                    rw [ef] at VB
                    clear ef
                    obtain ⟨v, ev⟩ : ∃ v, valD 0 d.data.toList = v := ⟨_, rfl⟩
                    rw [ev] at VB B7 HG
                    clear ev
                    have HF := hid1 (fun (x : Value) (w : World) (hx : Bg w x (sgB v true)) => rfit_any (sgB v true) x w hx (sg_bd VB.out.1 VB.out.2))
                    obtain ⟨p0, p1, q0, q1⟩ := S7.out
                    have zz := lt_of_cell p0
                    go_wp2_with fail
                    refine (rneg_any v _ _ B7.out).mono ?_
                    rintro e X1 ⟨y1, rfl, hy1, hb1⟩
                    obtain ⟨s1, o1, l1, c1, rfl⟩ := hy1.form
                    have T7 := S7.out.keep hb1
                    have HY : Hid (Bg ((X1.setCell ⟨g7, 0, none⟩ (.bool s1)).setCell ⟨g7, 1, none⟩ (.slice o1 l1 c1)) (.agg #[.bool s1, .slice o1 l1 c1]) (sgB v true)) := hid1 (hy1.set3 T7)
                    have BY : Below w.heap.size w ((X1.setCell ⟨g7, 0, none⟩ (.bool s1)).setCell ⟨g7, 1, none⟩ (.slice o1 l1 c1)) := bl_set (bl_set (bl_step BV hb1) (by omega) _) (by omega) _
                    have ZY : Hid (Zw ((X1.setCell ⟨g7, 0, none⟩ (.bool s1)).setCell ⟨g7, 1, none⟩ (.slice o1 l1 c1)) w.heap.size) := hid1 (Sv.oth (Sv.oth (ZR.out.keep hb1) (by omega)) (by omega))
                    clear p0 p1 q0 q1 hy1 S7 B7
                    obtain ⟨p0, p1, q0, q1⟩ := T7
                    go_wp2_with fail
                    refine gen_calls (fun W' => Below w.heap.size w W' ∧ Hid (Zw W' w.heap.size) ∧ Hid (Bg W' (.agg #[.bool s1, .slice o1 l1 c1]) (sgB v true))) ⟨BY, ZY, HY⟩ ?_
                    clear p0 p1 q0 q1 BY ZY HY hb1 BV ZR
                    rintro X2 ⟨BV, ZR, HY⟩
                    refine (HF.out _ _ HY.out).mono ?_
                    rintro e X3 ⟨rfl, hb3⟩
                    obtain ⟨r0, r1, t0, t1⟩ := ZR.out.keep hb3
                    have BZ := bl_step BV hb3
                    clear hb3
                    go_wp2_with fail
                    rw [HG.out.1, HG.out.2]
                    simp [bodyPost, results, Tryd.results15, go_sem, r0, r1]
                    repeat (first | exact Below.refl _ _ | refine bl_alloc ?_ _ | refine Below.drew ?_ | refine bl_drewN ?_ _ | refine bl_set ?_ (by omega) _ | refine bl_step ?_ (by assumption))
      · have q45 : ¬ (s[0].toNat : Int) = 45 := fun k => h45 (r_45.2 k)
        have q45' : ((s[0].toNat : Int) == 45) = false := beq_false_of_ne q45
        have e1 : cutNeg s.data.toList = false := by
          rw [r_head s h0]
          exact beq_false_of_ne h45
        have e2 : cutRest s.data.toList = s.data.toList := by unfold cutRest; rw [e1]; rfl
        clear h45 h48
        go_enter Tryd.func15, Tryd.ntmps15
        go_upto_region 7 with fail
        clear q45 q45' h48'
        obtain ⟨d, rfl⟩ : ∃ d, d = s := ⟨_, rfl⟩
        have ed0 : d.data.toList.length = d.size := rfl
        by_cases hf : d.data.toList = [] ∨ ∃ r, d.data.toList = 48 :: r
        · have HG := hid1 (G (rd_bad_front hl e2 hf))
          by_cases hz : 0 < d.size
          · have hz' : (0 : Int) < (d.size : Int) := by omega
            have nz : ¬ d.toList = [] := by rw [blist]; intro e; rw [e] at ed0; simp at ed0; omega
            have nz' : (d.toList == []) = false := beq_false_of_ne nz
            have q48 : (d[0].toNat : Int) = 48 := by
              rcases hf with hf | ⟨r, hf⟩
              · rw [hf] at ed0; simp at ed0; omega
              · rw [r_head d hz] at hf
                injection hf with hf _
                exact r_48.1 hf
            clear hf e1 e2 hl G
            go_wp2_with fail
            rw [HG.out.1, HG.out.2]
            simp [bodyPost, results, Tryd.results15, go_sem]
            refine ⟨by decide, ?_⟩
            repeat (first | exact Below.refl _ _ | refine bl_alloc ?_ _ | refine Below.drew ?_ | refine bl_drewN ?_ _ | refine bl_set ?_ (by omega) _ | refine bl_step ?_ (by assumption))
          · exact absurd h0 hz
        · have k0 : ¬ d.data.toList = [] := fun e => hf (.inl e)
          have h1 : ∀ r, ¬ d.data.toList = 48 :: r := fun r e => hf (.inr ⟨r, e⟩)
          have hz : 0 < d.size := by
            rcases Nat.eq_zero_or_pos d.size with k | k
            · exact absurd (r_nil d (by omega)) k0
            · exact k
          have hz' : (0 : Int) < (d.size : Int) := by omega
          have nz : ¬ d.toList = [] := by rw [blist]; exact k0
          have nz' : (d.toList == []) = false := beq_false_of_ne nz
          have q48 : ¬ (d[0].toNat : Int) = 48 := fun e => h1 d.data.toList.tail (by conv => lhs; rw [r_head d hz]; rw [r_48.2 e])
          have q48' : ((d[0].toNat : Int) == 48) = false := beq_false_of_ne q48
          have HX := hid1 (And.intro k0 h1)
          have HBD := hid1 (fun (h : ¬ ∀ c ∈ d.data.toList, isDig c = true) => G (rd_bad_dig e2 h))
          have HGD := hid1 (fun (h : ∀ c ∈ d.data.toList, isDig c = true) => G (rd_good e1 e2 k0 h1 h))
          clear hf k0 h1 e1 e2 hl G
          go_wp2_with fail
          clear q48 q48' nz nz'
          go_loopw [6] (fun q wr => ∃ k : Nat, k ≤ d.size ∧ q = .int .i64 k ∧ Hid (∀ j (hj : j < d.size), j < k → isDig d[j] = true) ∧ Hid (Zw wr w.heap.size) ∧ Below w.heap.size w wr) (fun q _ => d.size - (intOf q).toNat)
          case atStart => exact ⟨0, Nat.zero_le _, rfl, hid1 (fun j hj h => by omega), hid1 (zw_new rfl), by repeat (first | exact Below.refl _ _ | refine bl_alloc ?_ _ | refine Below.drew ?_ | refine bl_drewN ?_ _ | refine bl_set ?_ (by omega) _ | refine bl_step ?_ (by assumption))⟩
          case round =>
            obtain ⟨k, hk, rfl, HJ, ZR, BV⟩ := hrel
            rename World => V
            have ik0 : (0 : Int) ≤ (k : Int) := by omega
            by_cases hlt : k < d.size
            · have hlt' : (k : Int) < (d.size : Int) := by omega
              by_cases hd : isDig d[k] = true
              · obtain ⟨d1, d2⟩ := r_dig.1 hd
                have HJ2 : Hid (∀ j (hj : j < d.size), j < k + 1 → isDig d[j] = true) := hid1 (fun j hj h => by
                  rcases Nat.lt_or_ge j k with h2 | h2
                  · exact HJ.out j hj h2
                  · obtain rfl : j = k := by omega
                    exact hd)
                have d3 : decide ((d[k].toNat : Int) < 48) = false := decide_eq_false (by omega)
                have d4 : decide ((d[k].toNat : Int) > 57) = false := decide_eq_false (by omega)
                have d5 : decide (57 < (d[k].toNat : Int)) = false := decide_eq_false (by omega)
                clear hd
                go_wp2_with fail
                exact ⟨⟨k + 1, by omega, by go_num, HJ2, ZR, BV⟩, by simp [intOf]; omega⟩
              · have HG := hid1 (HBD.out (fun h => hd (h d[k] (by rw [show d[k] = d.data.toList[k]'(by simpa using hlt) from rfl]; exact List.getElem_mem _))))
                obtain ⟨r0, r1, t0, t1⟩ := ZR.out
                by_cases d1 : (d[k].toNat : Int) < 48
                · clear hd
                  go_wp2_with fail
                  rw [HG.out.1, HG.out.2]
                  simp [bodyPost, results, Tryd.results15, go_sem, r0, r1]
                  refine ⟨by decide, ?_⟩
                  repeat (first | exact Below.refl _ _ | refine bl_alloc ?_ _ | refine Below.drew ?_ | refine bl_drewN ?_ _ | refine bl_set ?_ (by omega) _ | refine bl_step ?_ (by assumption))
                · have d2 : (d[k].toNat : Int) > 57 := by
                    have : ¬ (48 ≤ (d[k].toNat : Int) ∧ (d[k].toNat : Int) ≤ 57) := fun h => hd (r_dig.2 h)
                    omega
                  have d3 : decide ((d[k].toNat : Int) < 48) = false := decide_eq_false d1
                  clear hd d1
                  go_wp2_with fail
                  rw [HG.out.1, HG.out.2]
                  simp [bodyPost, results, Tryd.results15, go_sem, r0, r1]
                  refine ⟨by decide, ?_⟩
                  repeat (first | exact Below.refl _ _ | refine bl_alloc ?_ _ | refine Below.drew ?_ | refine bl_drewN ?_ _ | refine bl_set ?_ (by omega) _ | refine bl_step ?_ (by assumption))
            · obtain rfl : k = d.size := by omega
              have hall : ∀ c ∈ d.data.toList, isDig c = true := by
                intro c hc
                obtain ⟨j, hj, e⟩ := List.mem_iff_getElem.1 hc
                rw [← e]
                exact HJ.out j (by simpa using hj) (by simpa using hj)
              have HD := hid1 hall
              have HG0 := hid1 (HGD.out hall)
              clear HJ HBD HGD hall
              by_cases hlen : 40 < d.size
              · have hlen' : (40 : Int) < (d.size : Int) := by omega
                have FO := rd_far (ng := false) HX.out.1 HX.out.2 HD.out (by rw [ed0]; exact hlen)
                have HG := hid1 (And.intro (HG0.out.1.trans FO.1) (HG0.out.2.trans FO.2))
                clear FO HG0
                obtain ⟨r0, r1, t0, t1⟩ := ZR.out
                go_wp2_with fail
                rw [HG.out.1, HG.out.2]
                simp [bodyPost, results, Tryd.results15, go_sem, r0, r1]
                refine ⟨by decide, ?_⟩
                repeat (first | exact Below.refl _ _ | refine bl_alloc ?_ _ | refine Below.drew ?_ | refine bl_drewN ?_ _ | refine bl_set ?_ (by omega) _ | refine bl_step ?_ (by assumption))
              · have hlen' : decide ((d.size : Int) > 40) = false := decide_eq_false (by omega)
                have hlen2 : decide (40 < (d.size : Int)) = false := decide_eq_false (by omega)
                have HG := HG0
                clear HG0 HX
                have zr := lt_of_cell ZR.out.1
                go_wp2_with fail
                have hz7 : V.heap.size = V.heap.size := rfl
                obtain ⟨g7, eg7⟩ : ∃ g7, V.heap.size = g7 := ⟨_, rfl⟩
                have S7 : Hid (Zb (V.alloc (.cells #[.bool false, .slice none 0 0] 44)) g7) := hid1 (zb_new eg7)
                have B7 : Hid (Bg (V.alloc (.cells #[.bool false, .slice none 0 0] 44)) (.agg #[.bool false, .slice none 0 0]) (valD 0 (d.data.toList.take 0))) := hid1 ⟨_, [], by simp [valD], .inl ⟨rfl, rfl⟩, fun _ h => by simp at h, .inl rfl, rfl⟩
                replace ZR : Hid (Zw (V.alloc (.cells #[.bool false, .slice none 0 0] 44)) w.heap.size) := hid1 (Sv.alloc ZR.out _)
                replace BV : Below w.heap.size w (V.alloc (.cells #[.bool false, .slice none 0 0] 44)) := bl_alloc BV _
                have g7w : w.heap.size < g7 := by omega
                rw [eg7]
                clear hz7 eg7
                go_loopw [8] (fun q wr => ∃ (k : Nat) (s : Bool) (ao : Option Addr) (l c : Nat), k ≤ d.size ∧ q = .int .i64 k ∧ Hid (Sv wr g7 (.bool s) (.slice ao l c)) ∧ Hid (Bg wr (.agg #[.bool s, .slice ao l c]) (valD 0 (d.data.toList.take k))) ∧ Hid (Zw wr w.heap.size) ∧ Below w.heap.size w wr) (fun q _ => d.size - (intOf q).toNat)
                case atStart => exact ⟨0, false, none, 0, 0, Nat.zero_le _, rfl, S7, B7, ZR, BV⟩
                case round =>
                  clear S7 B7 ZR BV
                  obtain ⟨k, s, ao, l, c, hk, rfl, S7, B7, ZR, BV⟩ := hrel
                  rename World => Y
                  have ik0 : (0 : Int) ≤ (k : Int) := by omega
                  by_cases hlt : k < d.size
                  · have hlt' : (k : Int) < (d.size : Int) := by omega
                    obtain ⟨d1, d2⟩ := r_dig.1 (HD.out d[k] (by rw [show d[k] = d.data.toList[k]'(by simpa using hlt) from rfl]; exact List.getElem_mem _))
                    have VB := hid1 (valD_take_bd d k HD.out (by omega))
                    have VN := hid1 (valD_take d k hlt)
                    obtain ⟨D, eD⟩ : ∃ D, (d[k].toNat : Int) - 48 = D := ⟨_, rfl⟩
                    have D0 : 0 ≤ D := by omega
                    have D1 : D ≤ 9 := by omega
                    have wD : IntKind.u8.wrap ((d[k].toNat : Int) - 48) = D := by rw [← eD]; simp [IntKind.wrap, IntKind.signed, IntKind.bits]; omega
                    have wD1 : IntKind.u8.wrap D = D := by simp [IntKind.wrap, IntKind.signed, IntKind.bits]; omega
                    have wD3 : IntKind.i64.wrap D = D := by simp [IntKind.wrap, IntKind.signed, IntKind.bits]; omega
                    have wD2 : wrap64 D = D := by unfold wrap64; omega
                    obtain ⟨v, ev⟩ : ∃ v, valD 0 (d.data.toList.take k) = v := ⟨_, rfl⟩
                    rw [ev] at VB VN B7
                    rw [eD] at VN
                    have HI10 := hid1 (rint_any 10 (by unfold I64; omega))
                    have HID := hid1 (rint_any D (by unfold I64; omega))
                    have HMU := hid1 (fun (x y : Value) (w : World) (hx : Bg w x v) (hy : Bg w y 10) => rmul_any v 10 x y w hx hy (b16 (by have := VB.out; omega) (by have := VB.out; omega)) (b16 (by omega) (by omega)))
                    have HAD := hid1 (fun (x y : Value) (w : World) (hx : Bg w x (v * 10)) (hy : Bg w y D) => radd_any (v * 10) D x y w hx hy (b40 (by have := VB.out; omega) (by have := VB.out; omega)) (b40 (by omega) (by omega)))
                    obtain ⟨p0, p1, q0, q1⟩ := S7.out
                    have zz := lt_of_cell p0
                    go_upto_region 20 with fail
                    go_region_with (first
                      | (go_at_call 46; refine (HAD.out _ _ _ (HY2.out.below (by repeat (first | (with_reducible exact Below.refl _ _) | (with_reducible refine bl_alloc ?_ _) | (with_reducible refine Below.drew ?_) | (with_reducible refine bl_drewN ?_ _) | (with_reducible refine bl_set ?_ (by omega) _) | (with_reducible refine bl_step ?_ (by assumption))))) (HY3.out.below (by repeat (first | (with_reducible exact Below.refl _ _) | (with_reducible refine bl_alloc ?_ _) | (with_reducible refine Below.drew ?_) | (with_reducible refine bl_drewN ?_ _) | (with_reducible refine bl_set ?_ (by omega) _) | (with_reducible refine bl_step ?_ (by assumption)))))).mono ?_; rintro e X4 ⟨y4, rfl, hy4, hb4⟩; obtain ⟨s4, o4, l4, c4, rfl⟩ := hy4.form; have HY4 := hid1 hy4; clear hy4; have C4 : Hid (Below Y.heap.size Y X4) := hid1 (by repeat (first | (with_reducible exact Below.refl _ _) | (with_reducible refine bl_alloc ?_ _) | (with_reducible refine Below.drew ?_) | (with_reducible refine bl_drewN ?_ _) | (with_reducible refine bl_set ?_ (by omega) _) | (with_reducible refine bl_step ?_ (by assumption)))); have p0 := (S7.out.keep C4.out).1; have p1 := (S7.out.keep C4.out).2.1; have q0 := (S7.out.keep C4.out).2.2.1; have q1 := (S7.out.keep C4.out).2.2.2)
                      | (go_at_call 47; refine (HMU.out _ _ _ (B7.out.below (by repeat (first | (with_reducible exact Below.refl _ _) | (with_reducible refine bl_alloc ?_ _) | (with_reducible refine Below.drew ?_) | (with_reducible refine bl_drewN ?_ _) | (with_reducible refine bl_set ?_ (by omega) _) | (with_reducible refine bl_step ?_ (by assumption))))) (HY1.out.below (by repeat (first | (with_reducible exact Below.refl _ _) | (with_reducible refine bl_alloc ?_ _) | (with_reducible refine Below.drew ?_) | (with_reducible refine bl_drewN ?_ _) | (with_reducible refine bl_set ?_ (by omega) _) | (with_reducible refine bl_step ?_ (by assumption)))))).mono ?_; rintro e X2 ⟨y2, rfl, hy2, hb2⟩; obtain ⟨s2, o2, l2, c2, rfl⟩ := hy2.form; have HY2 := hid1 hy2; clear hy2; have C2 : Hid (Below Y.heap.size Y X2) := hid1 (by repeat (first | (with_reducible exact Below.refl _ _) | (with_reducible refine bl_alloc ?_ _) | (with_reducible refine Below.drew ?_) | (with_reducible refine bl_drewN ?_ _) | (with_reducible refine bl_set ?_ (by omega) _) | (with_reducible refine bl_step ?_ (by assumption)))); have p0 := (S7.out.keep C2.out).1; have p1 := (S7.out.keep C2.out).2.1)
                      | (go_at_call 35; (with_reducible refine (HID.out _).mono ?_); rintro e X3 ⟨y3, rfl, hy3, hb3⟩; obtain ⟨s3, o3, l3, c3, rfl⟩ := hy3.form; have HY3 := hid1 hy3; clear hy3; have C3 : Hid (Below Y.heap.size Y X3) := hid1 (by repeat (first | (with_reducible exact Below.refl _ _) | (with_reducible refine bl_alloc ?_ _) | (with_reducible refine Below.drew ?_) | (with_reducible refine bl_drewN ?_ _) | (with_reducible refine bl_set ?_ (by omega) _) | (with_reducible refine bl_step ?_ (by assumption)))); have p0 := (S7.out.keep C3.out).1; have p1 := (S7.out.keep C3.out).2.1)
                      | (go_at_call 35; (with_reducible refine (HI10.out _).mono ?_); rintro e X1 ⟨y1, rfl, hy1, hb1⟩; obtain ⟨s1, o1, l1, c1, rfl⟩ := hy1.form; have HY1 := hid1 hy1; clear hy1; have C1 : Hid (Below Y.heap.size Y X1) := hid1 (by repeat (first | (with_reducible exact Below.refl _ _) | (with_reducible refine bl_alloc ?_ _) | (with_reducible refine Below.drew ?_) | (with_reducible refine bl_drewN ?_ _) | (with_reducible refine bl_set ?_ (by omega) _) | (with_reducible refine bl_step ?_ (by assumption)))); have p0 := (S7.out.keep C1.out).1; have p1 := (S7.out.keep C1.out).2.1))
                    all_goals (
                      refine gen_any (fun W' => Hid (Sv W' g7 (.bool s4) (.slice o4 l4 c4)) ∧ Hid (Bg W' (.agg #[.bool s4, .slice o4 l4 c4]) (v * 10 + D)) ∧ Hid (Zw W' w.heap.size) ∧ Below w.heap.size w W') ⟨hid1 (Sv.own' (S7.out.keep C4.out)), hid1 (HY4.out.set3 (S7.out.keep C4.out)), hid1 (Sv.oth (Sv.oth (ZR.out.keep C4.out) (by omega)) (by omega)), bl_set (bl_set (bl_step BV C4.out) (by omega) _) (by omega) _⟩ ?_
                      clear p0 p1 q0 q1 S7 B7 ZR BV zz
                      rintro Y9 ⟨S7, B7, ZR, BV⟩
                      simp only [Exit.inBlock, Exit.then]
                      go_wp2_with fail
                      exact ⟨⟨k + 1, s4, o4, l4, c4, by omega, by go_num, S7, hid1 (by rw [VN.out]; exact B7.out), ZR, BV⟩, by simp [intOf]; omega⟩)
                  · obtain rfl : k = d.size := by omega
                    have ef : valD 0 (d.data.toList.take d.size) = valD 0 d.data.toList := by rw [List.take_of_length_le (by rw [show d.data.toList.length = d.size from rfl]; omega)]
                    rw [ef] at B7
                    have VB := hid1 (valD_take_bd d d.size HD.out (by omega))
                    rw [ef] at VB
                    clear ef
                    obtain ⟨v, ev⟩ : ∃ v, valD 0 d.data.toList = v := ⟨_, rfl⟩
                    rw [ev] at VB B7 HG
                    clear ev
                    have HF := hid1 (fun (x : Value) (w : World) (hx : Bg w x (sgB v false)) => rfit_any (sgB v false) x w hx (sg_bd VB.out.1 VB.out.2))
                    obtain ⟨p0, p1, q0, q1⟩ := S7.out
                    have zz := lt_of_cell p0
                    go_wp2_with fail
                    refine (HF.out _ _ B7.out).mono ?_
                    rintro e X3 ⟨rfl, hb3⟩
                    obtain ⟨r0, r1, t0, t1⟩ := ZR.out.keep hb3
                    have BZ := bl_step BV hb3
                    clear hb3
                    go_wp2_with fail
                    rw [HG.out.1, HG.out.2]
                    simp [bodyPost, results, Tryd.results15, go_sem, r0, r1]
                    repeat (first | exact Below.refl _ _ | refine bl_alloc ?_ _ | refine Below.drew ?_ | refine bl_drewN ?_ _ | refine bl_set ?_ (by omega) _ | refine bl_step ?_ (by assumption))
    · have HG := hid1 (G (rd_bad_front (d := s.data.toList) hl (by rw [r_nil s h0]; rfl) (.inl (r_nil s h0))))
      have nz : s.toList = [] := by rw [blist]; exact r_nil s h0
      have z0 : s.size = 0 := by omega
      clear G hl h48
      go_enter Tryd.func15, Tryd.ntmps15
      go_wp2_with fail
      rw [HG.out.1, HG.out.2]
      simp [bodyPost, results, Tryd.results15, go_sem]
      refine ⟨by decide, ?_⟩
      repeat (first | exact Below.refl _ _ | refine bl_alloc ?_ _ | refine Below.drew ?_ | refine bl_drewN ?_ _ | refine bl_set ?_ (by omega) _ | refine bl_step ?_ (by assumption))
theorem rread_any (s : ByteArray) (hs : s.size ≤ 281474976710656) (w : World) :
    Calls Tryd.prog 15 #[.string s] w fun e w' => e = .returned (.tuple #[wv (readV s.data.toList), .int .i64 (readE s.data.toList)]) ∧ Below w.heap.size w w' := rread_core s _ _ rfl rfl hs w
end Go.Proofs.YtcjglbejmlebhaaDoor
/- WIDETEXTS, WALKED. -/
namespace Go.Proofs.YtcjglbejmlebhaaDoor
open Go.RowKit Go.Shelf
attribute [local go_sem ↓] Go.wp_at_zero Go.wp_at_succ

/-- Both readings answer the same. -/
theorem both_read (s : ByteArray) (hl : s.size ≤ 281474976710656) : ∃ n e : Int, (∀ w : World, Laid w → Calls Tryd.prog 14 #[.string s] w fun e' w' => e' = .returned (.tuple #[wv n, .int .i64 e]) ∧ Below w.heap.size w w') ∧
    (∀ w : World, Calls Tryd.prog 15 #[.string s] w fun e' w' => e' = .returned (.tuple #[wv n, .int .i64 e]) ∧ Below w.heap.size w w') :=
  ⟨_, _, fun w L => read_any s (Nat.le_trans hl (by decide)) w L, fun w => rread_any s hl w⟩
theorem both_show (n : Int) (hn : Rng n) : ∃ t : ByteArray, (∀ w : World, Laid w → Calls Tryd.prog 12 #[wv n] w fun e' w' => e' = .returned (.string t) ∧ Below w.heap.size w w') ∧
    (∀ w : World, Calls Tryd.prog 13 #[wv n] w fun e' w' => e' = .returned (.string t) ∧ Below w.heap.size w w') :=
  ⟨_, fun w L => show_any n hn w L, fun w => rshow_any n hn w⟩
set_option maxHeartbeats 3200000 in
set_option maxRecDepth 100000 in
theorem wtexts_walk (ao : Option Addr) (m cm : Nat) (hm : m ≤ 9223372036854775807) (bo : Option Addr) (n cn : Nat) (hn : n ≤ 9223372036854775807) (w : World) (L : Laid w) (L1 : Lwi w ao m) (L2 : Lst w bo n) :
    Calls Tryd.prog 4 #[.slice ao m cm, .slice bo n cn] w fun e w' => e = .returned (.bool true) ∧ Below w.heap.size w w' := by
  have H1 := hid1 L1
  have H2 := hid1 L2
  have HL := hid1 L
  clear L1 L2 L
  go_enter Tryd.func4, Tryd.ntmps4
  go_wp2_with fail
  refine (begun_any _ HL.out).mono ?_
  rintro e w1 ⟨rfl, hb1⟩
  go_wp2_with fail
  go_loopw [6] (fun i wr => ∃ k : Nat, k ≤ m ∧ i = .int .i64 k ∧ Below w.heap.size w wr) (fun i _ => m - (intOf i).toNat)
  case atStart => exact ⟨0, Nat.zero_le _, rfl, hb1⟩
  case round =>
    obtain ⟨i, hi, rfl, hnx⟩ := hrel
    have ii0 : (0 : Int) ≤ (i : Int) := by omega
    by_cases hli : i < m
    · have ii : (i : Int) < (m : Int) := by omega
      obtain ⟨g, o, a, rfl, ra, a0, a1⟩ := (H1.out.keep hnx) i hli
      obtain ⟨t, h1, h2⟩ := both_show a ra
      have HA := hid1 h1
      have HB := hid1 h2
      clear h1 h2 ra
      go_wp2_with fail
      refine (HA.out _ (HL.out.on hnx)).mono ?_
      rintro e x1 ⟨rfl, hx⟩
      replace a0 := keepc hx a0; replace a1 := keepc hx a1
      replace hnx := bl_step hnx hx
      clear hx
      go_wp2_with fail
      refine (HB.out _).mono ?_
      rintro e x2 ⟨rfl, hx⟩
      replace hnx := bl_step hnx hx
      clear hx
      go_wp2_with fail
      exact ⟨⟨i + 1, by omega, by go_num, hnx⟩, by simp [intOf]; omega⟩
    · have : i = m := by omega
      subst this
      go_wp2_with fail
      go_loopw [9] (fun q wr => ∃ k : Nat, k ≤ n ∧ q = .int .i64 k ∧ Below w.heap.size w wr) (fun q _ => n - (intOf q).toNat)
      case atStart => exact ⟨0, Nat.zero_le _, rfl, hnx⟩
      case round =>
        clear hnx
        obtain ⟨k, hk, rfl, hnx⟩ := hrel
        rename World => V
        have ik0 : (0 : Int) ≤ (k : Int) := by omega
        by_cases l1 : k < n
        · have j1 : (k : Int) < (n : Int) := by omega
          obtain ⟨g, o, s, rfl, hs, a0⟩ := (H2.out.keep hnx) k l1
          obtain ⟨v, er, h1, h2⟩ := both_read s hs
          have HA := hid1 h1
          have HB := hid1 h2
          clear h1 h2 hs
          go_wp2_with fail
          refine (HA.out _ (HL.out.on hnx)).mono ?_
          rintro e x1 ⟨rfl, hx⟩
          replace a0 := keepc hx a0
          replace hnx : Below w.heap.size w x1 := by repeat (first | (with_reducible exact Below.refl _ _) | (with_reducible refine bl_alloc ?_ _) | (with_reducible refine Below.drew ?_) | (with_reducible refine bl_drewN ?_ _) | (with_reducible refine bl_set ?_ (by omega) _) | (with_reducible refine bl_step ?_ (by assumption)))
          clear hx
          have za := lt_of_cell a0
          go_wp2_with fail
          refine gen_calls (fun W' => Below w.heap.size w W' ∧ Hid (Sv W' x1.heap.size (.int .i64 (hiOf v)) (.int .u64 (loOf v)))) ⟨by repeat (first | (with_reducible exact Below.refl _ _) | (with_reducible refine bl_alloc ?_ _) | (with_reducible refine Below.drew ?_) | (with_reducible refine bl_drewN ?_ _) | (with_reducible refine bl_set ?_ (by omega) _) | (with_reducible refine bl_step ?_ (by assumption))), hid1 (sv_new rfl)⟩ ?_
          rintro x2 ⟨B2, HF⟩
          clear a0 za hnx
          refine (HB.out _).mono ?_
          rintro e x3 ⟨rfl, hx⟩
          replace HF := hid1 (HF.out.keep hx)
          have hnx : Below w.heap.size w x3 := by repeat (first | (with_reducible exact Below.refl _ _) | (with_reducible refine bl_alloc ?_ _) | (with_reducible refine Below.drew ?_) | (with_reducible refine bl_drewN ?_ _) | (with_reducible refine bl_set ?_ (by omega) _) | (with_reducible refine bl_step ?_ (by assumption)))
          clear hx B2
          obtain ⟨f0, f1, _, _⟩ := HF.out
          have zf := lt_of_cell f0
          go_wp2_with fail
          exact ⟨⟨k + 1, by omega, by go_num, by repeat (first | (with_reducible exact Below.refl _ _) | (with_reducible refine bl_alloc ?_ _) | (with_reducible refine Below.drew ?_) | (with_reducible refine bl_drewN ?_ _) | (with_reducible refine bl_set ?_ (by omega) _) | (with_reducible refine bl_step ?_ (by assumption)))⟩, by simp [intOf]; omega⟩
        · have : k = n := by omega
          subst this
          go_wp2
          go_ret
          exact ⟨rfl, hnx⟩
end Go.Proofs.YtcjglbejmlebhaaDoor
/- WHAT BOTH ANSWER: Fit, Neg, Add, Cmp, Scale, Of, Mul. -/
namespace Go.Proofs.YtcjglbejmlebhaaDoor
open Go.RowKit Go.Shelf
attribute [local go_sem ↓] Go.wp_at_zero Go.wp_at_succ

def f6 (n : Int) : Int := if -9223372036854775808 ≤ n ∧ n < 9223372036854775808 then n else 0
def e6 (n : Int) : Int := if -9223372036854775808 ≤ n ∧ n < 9223372036854775808 then 0 else 10
theorem f6_in {n : Int} (h : I64 n) : f6 n = n ∧ e6 n = 0 := ⟨if_pos h, if_pos h⟩
theorem f6_out {n : Int} (h : ¬ I64 n) : f6 n = 0 ∧ e6 n = 10 := ⟨if_neg h, if_neg h⟩
theorem wrap_i64 (x : Int) : I64 (wrap64 x) := by unfold I64 wrap64; omega
set_option maxRecDepth 100000 in
theorem fit_no (n : Int) (hr : Rng n) (hn : ¬ I64 n) (w : World) :
    Calls Tryd.prog 16 #[wv n] w fun e w' => e = .returned (.tuple #[.int .i64 0, .int .i64 10]) ∧ Below w.heap.size w w' := by
  obtain ⟨m, hm⟩ : ∃ m, wrap64 (loOf n) = m := ⟨_, rfl⟩
  have hi : I64 m := by rw [← hm]; exact wrap_i64 _
  have ne : ¬ hiOf m = hiOf n := by
    unfold I64 at hi hn
    unfold Rng at hr
    unfold wrap64 loOf at hm
    unfold hiOf
    omega
  have ne' : (hiOf m == hiOf n) = false := beq_false_of_ne ne
  have ne2 : ¬ hiOf n = hiOf m := fun e => ne e.symm
  have MM := hid1 hi
  clear hi hr hn
  go_enter Tryd.func16, Tryd.ntmps16
  go_wp2_with fail
  go_region_held3 (fun w' => w'.cell? ⟨w.heap.size, 0, none⟩ = some (.int .i64 (hiOf n)) ∧ w'.cell? ⟨w.heap.size, 1, none⟩ = some (.int .u64 (loOf n))) (first | (simp [go_sem]; done) | exact ⟨keepc hb (by simp [go_sem]), keepc hb (by simp [go_sem])⟩)
    (first | (go_at_call 27; refine (of_any m MM.out _).mono ?_; rintro e w' ⟨rfl, hb⟩))
  go_wp2
  go_ret2
  refine ⟨rfl, ?_⟩
  repeat (first | exact Below.refl _ _ | refine bl_alloc ?_ _ | refine Below.drew ?_ | refine bl_drewN ?_ _ | refine bl_set ?_ (by omega) _ | refine bl_step ?_ (by assumption))
theorem fit64_any (n : Int) (hr : Rng n) (w : World) : Calls Tryd.prog 16 #[wv n] w fun e w' => e = .returned (.tuple #[.int .i64 (f6 n), .int .i64 (e6 n)]) ∧ Below w.heap.size w w' := by
  by_cases h : I64 n
  · rw [(f6_in h).1, (f6_in h).2]; exact fit_ok n h w
  · rw [(f6_out h).1, (f6_out h).2]; exact fit_no n hr h w
theorem cmp_sgn (a b : Int) : cmpN a b = sgnOf (a - b) := by
  unfold cmpN sgnOf
  by_cases h1 : a < b
  · rw [if_pos h1, if_neg (by omega), if_pos (by omega)]
  · rw [if_neg h1]
    by_cases h2 : a = b
    · rw [if_pos h2, if_pos (by omega)]
    · rw [if_neg h2, if_neg (by omega), if_neg (by omega)]
theorem sgn_gt (d : Int) : sgnOf d > 0 ↔ d > 0 := by unfold sgnOf; split <;> (try split) <;> omega
set_option maxHeartbeats 3200000 in
set_option maxRecDepth 100000 in
theorem rfit64_core (n v u F E : Int) (hr : Rng n) (hv : sgnOf (n - (-9223372036854775808)) = v) (hu : sgnOf (n - 9223372036854775807) = u) (hc : (v < 0 ∧ F = 0 ∧ E = 10) ∨ (¬ v < 0 ∧ u > 0 ∧ F = 0 ∧ E = 10) ∨ (¬ v < 0 ∧ ¬ u > 0 ∧ F = wrap64 (loOf n) ∧ E = 0)) (w : World) :
    Calls Tryd.prog 17 #[wv n] w fun e w' => e = .returned (.tuple #[.int .i64 F, .int .i64 E]) ∧ Below w.heap.size w w' := by
  have HR := hid1 hr
  have HV := hid1 hv
  have HU := hid1 hu
  have HC := hid1 hc
  have KN : Hid ((n.natAbs : Int) < 65536 ^ 40) := hid1 (b40 (by unfold Rng at hr; omega) (by unfold Rng at hr; omega))
  have K1 : Hid (((-9223372036854775808 : Int).natAbs : Int) < 65536 ^ 40) := hid1 (b40 (by decide) (by decide))
  have K2 : Hid (((9223372036854775807 : Int).natAbs : Int) < 65536 ^ 40) := hid1 (b40 (by decide) (by decide))
  clear hr hv hu hc
  go_enter Tryd.func17, Tryd.ntmps17
  go_wp2_with fail
  refine gen_calls (fun W' => Below w.heap.size w W' ∧ Sv W' w.heap.size (.int .i64 (hiOf n)) (.int .u64 (loOf n))) ⟨by repeat (first | exact Below.refl _ _ | refine bl_alloc ?_ _ | refine Below.drew ?_ | refine bl_drewN ?_ _ | refine bl_set ?_ (by omega) _ | refine bl_step ?_ (by assumption)), sv_new rfl⟩ ?_
  rintro W ⟨B0, sa⟩
  have SA := hid1 sa
  have z0 := lt_of_cell sa.1
  clear sa
  refine (rwide_any n HR.out _).mono ?_
  rintro e w1 ⟨x1, rfl, hx1, hb1⟩
  obtain ⟨s1, o1, l1, c1, rfl⟩ := hx1.form
  have H1 := hid1 hx1
  have z1 := hb1.size
  replace SA := hid1 (SA.out.keep hb1)
  clear hx1
  go_wp2_with fail
  refine gen_calls (fun W' => Below w.heap.size w W' ∧ Sv W' w.heap.size (.int .i64 (hiOf n)) (.int .u64 (loOf n)) ∧ Sv W' w1.heap.size (.bool s1) (.slice o1 l1 c1) ∧ Bg W' (.agg #[.bool s1, .slice o1 l1 c1]) n ∧ w1.heap.size < W'.heap.size) ⟨by repeat (first | exact Below.refl _ _ | refine bl_alloc ?_ _ | refine Below.drew ?_ | refine bl_drewN ?_ _ | refine bl_set ?_ (by omega) _ | refine bl_step ?_ (by assumption)), Sv.alloc SA.out _, sv_new rfl, Bg.alloc H1.out _, by simp⟩ ?_
  clear SA H1
  rintro W1 ⟨B1, sa, s4, h4, z4⟩
  have SA := hid1 sa
  have S4 := hid1 s4
  have H4 := hid1 h4
  clear sa s4 h4 hb1 B0
  refine (rint_any (-9223372036854775808) ⟨by omega, by omega⟩ _).mono ?_
  rintro e w2 ⟨x2, rfl, hx2, hb2⟩
  obtain ⟨s2, o2, l2, c2, rfl⟩ := hx2.form
  have H2 := hid1 hx2
  have z2 := hb2.size
  replace SA := hid1 (SA.out.keep hb2)
  replace S4 := hid1 (S4.out.keep hb2)
  replace H4 := hid1 (H4.out.below hb2)
  clear hx2
  go_wp2_with fail
  refine gen_calls (fun W' => Below w.heap.size w W' ∧ Sv W' w.heap.size (.int .i64 (hiOf n)) (.int .u64 (loOf n)) ∧ Sv W' w1.heap.size (.bool s1) (.slice o1 l1 c1) ∧ Bg W' (.agg #[.bool s1, .slice o1 l1 c1]) n ∧ Sv W' w2.heap.size (.bool s2) (.slice o2 l2 c2) ∧ Bg W' (.agg #[.bool s2, .slice o2 l2 c2]) (-9223372036854775808) ∧ w2.heap.size < W'.heap.size) ⟨by repeat (first | exact Below.refl _ _ | refine bl_alloc ?_ _ | refine Below.drew ?_ | refine bl_drewN ?_ _ | refine bl_set ?_ (by omega) _ | refine bl_step ?_ (by assumption)), Sv.alloc SA.out _, Sv.alloc S4.out _, Bg.alloc H4.out _, sv_new rfl, Bg.alloc H2.out _, by simp⟩ ?_
  clear SA S4 H4 H2
  rintro W2 ⟨B2, sa, s4, h4, s5, h5, z5⟩
  have SA := hid1 sa
  have S4 := hid1 s4
  have H4 := hid1 h4
  have S5 := hid1 s5
  have H5 := hid1 h5
  clear sa s4 h4 s5 h5 hb2 B1
  refine (rint_any 9223372036854775807 ⟨by omega, by omega⟩ _).mono ?_
  rintro e w3 ⟨x3, rfl, hx3, hb3⟩
  obtain ⟨s3, o3, l3, c3, rfl⟩ := hx3.form
  have H3 := hid1 hx3
  have z3 := hb3.size
  replace SA := hid1 (SA.out.keep hb3)
  replace S4 := hid1 (S4.out.keep hb3)
  replace H4 := hid1 (H4.out.below hb3)
  replace S5 := hid1 (S5.out.keep hb3)
  replace H5 := hid1 (H5.out.below hb3)
  have B3 := bl_step B2 hb3
  clear hx3 hb3 B2
  obtain ⟨q0, q1, _, _⟩ := S4.out
  obtain ⟨t0, t1, _, _⟩ := S5.out
  have zq := lt_of_cell q0
  have zt := lt_of_cell t0
  go_wp2_with fail
  refine gen_calls (fun W' => Below w.heap.size w W' ∧ Sv W' w.heap.size (.int .i64 (hiOf n)) (.int .u64 (loOf n)) ∧ Sv W' w1.heap.size (.bool s1) (.slice o1 l1 c1) ∧ Bg W' (.agg #[.bool s1, .slice o1 l1 c1]) n ∧ Bg W' (.agg #[.bool s2, .slice o2 l2 c2]) (-9223372036854775808) ∧ Sv W' w3.heap.size (.bool s3) (.slice o3 l3 c3) ∧ Bg W' (.agg #[.bool s3, .slice o3 l3 c3]) 9223372036854775807) ⟨by repeat (first | exact Below.refl _ _ | refine bl_alloc ?_ _ | refine Below.drew ?_ | refine bl_drewN ?_ _ | refine bl_set ?_ (by omega) _ | refine bl_step ?_ (by assumption)), Sv.alloc SA.out _, Sv.alloc S4.out _, Bg.alloc H4.out _, Bg.alloc H5.out _, sv_new rfl, Bg.alloc H3.out _⟩ ?_
  clear SA S4 H4 H3 S5 H5 q0 q1 t0 t1 zq zt
  rintro W3 ⟨B4, sa, s4, h4, h5, s6, h6⟩
  have SA := hid1 sa
  have S4 := hid1 s4
  have H4 := hid1 h4
  have S6 := hid1 s6
  have H6 := hid1 h6
  clear sa s4 h4 s6 h6
  refine (rcmp_val n (-9223372036854775808) v _ _ _ H4.out h5 KN.out K1.out HV.out).mono ?_
  rintro e w4 ⟨rfl, hb4⟩
  replace SA := hid1 (SA.out.keep hb4)
  replace S4 := hid1 (S4.out.keep hb4)
  replace H4 := hid1 (H4.out.below hb4)
  replace S6 := hid1 (S6.out.keep hb4)
  replace H6 := hid1 (H6.out.below hb4)
  have B5 := bl_step B4 hb4
  clear h5 hb4 B4 B3
  obtain ⟨a0, a1, _, _⟩ := SA.out
  obtain ⟨q0, q1, _, _⟩ := S4.out
  obtain ⟨t0, t1, _, _⟩ := S6.out
  rcases HC.out with ⟨hv, eF, eE⟩ | ⟨hv, hu, eF, eE⟩ | ⟨hv, hu, eF, eE⟩
  · subst eF eE
    go_wp2
    go_ret2
    exact ⟨rfl, B5⟩
  · subst eF eE
    go_wp2_with fail
    refine (rcmp_val n 9223372036854775807 u _ _ _ H4.out H6.out KN.out K2.out HU.out).mono ?_
    rintro e w5 ⟨rfl, hb5⟩
    have B6 := bl_step B5 hb5
    clear hb5
    go_wp2
    go_ret2
    exact ⟨rfl, B6⟩
  · have EF := hid1 eF
    subst eE
    have hv1 : decide (v < 0) = false := decide_eq_false (by omega)
    have hu1 : decide (u > 0) = false := decide_eq_false (by omega)
    have hu2 : decide (0 < u) = false := decide_eq_false (by omega)
    clear eF HC hu
    go_wp2_with fail
    refine (rcmp_val n 9223372036854775807 u _ _ _ H4.out H6.out KN.out K2.out HU.out).mono ?_
    rintro e w5 ⟨rfl, hb5⟩
    have B6 := bl_step B5 hb5
    obtain ⟨a0, a1, _, _⟩ := SA.out.keep hb5
    clear hb5
    go_wp2
    go_ret2
    exact ⟨by rw [EF.out]; rfl, B6⟩
theorem rfit64_any (n : Int) (hr : Rng n) (w : World) : Calls Tryd.prog 17 #[wv n] w fun e w' => e = .returned (.tuple #[.int .i64 (f6 n), .int .i64 (e6 n)]) ∧ Below w.heap.size w w' := by
  refine rfit64_core n _ _ _ _ hr rfl rfl ?_ w
  by_cases h1 : n < -9223372036854775808
  · have h : ¬ I64 n := by unfold I64; omega
    exact .inl ⟨(sgn_lt _).2 (by omega), (f6_out h).1, (f6_out h).2⟩
  · by_cases h2 : n > 9223372036854775807
    · have h : ¬ I64 n := by unfold I64; omega
      exact .inr (.inl ⟨fun k => h1 (by have := (sgn_lt _).1 k; omega), (sgn_gt _).2 (by omega), (f6_out h).1, (f6_out h).2⟩)
    · have h : I64 n := by unfold I64; omega
      exact .inr (.inr ⟨fun k => h1 (by have := (sgn_lt _).1 k; omega), fun k => h2 (by have := (sgn_gt _).1 k; omega), by rw [(f6_in h).1, fit_lo h], (f6_in h).2⟩)
end Go.Proofs.YtcjglbejmlebhaaDoor
/- WIDESUMS, WALKED. -/
namespace Go.Proofs.YtcjglbejmlebhaaDoor
open Go.RowKit Go.Shelf
attribute [local go_sem ↓] Go.wp_at_zero Go.wp_at_succ

theorem both_add (a b : Int) (ha : Rng a) (hb : Rng b) : ∃ v e : Int, (∀ w : World, Calls Tryd.prog 20 #[wv a, wv b] w fun e' w' => e' = .returned (.tuple #[wv v, .int .i64 e]) ∧ Below w.heap.size w w') ∧
    (∀ w : World, Calls Tryd.prog 21 #[wv a, wv b] w fun e' w' => e' = .returned (.tuple #[wv v, .int .i64 e]) ∧ Below w.heap.size w w') := by
  refine ⟨_, _, fun w => ?_, fun w => rsum_any a b ha hb w⟩
  by_cases h : Rng (a + b)
  · rw [(fit_in h).1, (fit_in h).2]; exact wadd_ok a b h w
  · rw [(fit_out h).1, (fit_out h).2]; exact wadd_no a b ha hb h w
theorem rcmp_cmp (a b : Int) (ha : Rng a) (hb : Rng b) (x y : Value) (w : World) (hx : Bg w x a) (hy : Bg w y b) :
    Calls Tryd.prog 23 #[x, y] w fun e w' => e = .returned (.int .i64 (cmpN a b)) ∧ Below w.heap.size w w' :=
  rcmp_val a b _ x y w hx hy (b40 (by unfold Rng at ha; omega) (by unfold Rng at ha; omega)) (b40 (by unfold Rng at hb; omega) (by unfold Rng at hb; omega)) (cmp_sgn a b).symm
set_option maxHeartbeats 12800000 in
set_option maxRecDepth 100000 in
theorem wsums_walk (ao : Option Addr) (m cm : Nat) (hm : m ≤ 9223372036854775807) (bo : Option Addr) (n cn : Nat) (hn : n ≤ 9223372036854775807) (w : World) (L : Laid w) (L1 : Lwi w ao m) (L2 : Li6 w bo n) :
    Calls Tryd.prog 5 #[.slice ao m cm, .slice bo n cn] w fun e w' => e = .returned (.bool true) ∧ Below w.heap.size w w' := by
  have H1 := hid1 L1
  have H2 := hid1 L2
  have HL := hid1 L
  clear L1 L2 L
  go_enter Tryd.func5, Tryd.ntmps5
  go_wp2_with fail
  refine (begun_any _ HL.out).mono ?_
  rintro e w1 ⟨rfl, hb1⟩
  go_wp2_with fail
  go_loopw [6] (fun i wr => ∃ k : Nat, k ≤ m ∧ i = .int .i64 k ∧ Below w.heap.size w wr) (fun i _ => m - (intOf i).toNat)
  case atStart => exact ⟨0, Nat.zero_le _, rfl, hb1⟩
  case round =>
    obtain ⟨i, hi, rfl, hnx⟩ := hrel
    have ii0 : (0 : Int) ≤ (i : Int) := by omega
    by_cases hli : i < m
    · have ii : (i : Int) < (m : Int) := by omega
      obtain ⟨g, o, a, eg, ra, a0, a1⟩ := (H1.out.keep hnx) i hli
      subst eg
      go_wp2_with fail
      refine (fit64_any a ra _).mono ?_
      rintro e x1 ⟨rfl, hx⟩
      replace a0 := keepc hx a0; replace a1 := keepc hx a1; replace hnx := bl_step hnx hx
      clear hx
      go_wp2_with fail
      refine (rfit64_any a ra _).mono ?_
      rintro e x2 ⟨rfl, hx⟩
      replace a0 := keepc hx a0; replace a1 := keepc hx a1; replace hnx := bl_step hnx hx
      clear hx
      go_wp2_with fail
      refine (neg_any a ra _).mono ?_
      rintro e x3 ⟨rfl, hx⟩
      replace a0 := keepc hx a0; replace a1 := keepc hx a1; replace hnx := bl_step hnx hx
      clear hx
      have za := lt_of_cell a0
      go_wp2_with fail
      refine gen_calls (fun W' => Below w.heap.size w W' ∧ Below x3.heap.size x3 W' ∧ Hid (Sv W' x3.heap.size (.int .i64 (hiOf (fitV (-a)))) (.int .u64 (loOf (fitV (-a)))))) ⟨by repeat (first | (with_reducible exact Below.refl _ _) | (with_reducible refine bl_alloc ?_ _) | (with_reducible refine Below.drew ?_) | (with_reducible refine bl_drewN ?_ _) | (with_reducible refine bl_set ?_ (by omega) _) | (with_reducible refine bl_step ?_ (by assumption))), by repeat (first | (with_reducible exact Below.refl _ _) | (with_reducible refine bl_alloc ?_ _) | (with_reducible refine Below.drew ?_) | (with_reducible refine bl_drewN ?_ _) | (with_reducible refine bl_set ?_ (by omega) _) | (with_reducible refine bl_step ?_ (by assumption))), hid1 (sv_new rfl)⟩ ?_
      rintro x4 ⟨B4, b4, HR⟩
      clear za hnx a0 a1 b4
      refine (ropposite_any a ra _).mono ?_
      rintro e x5 ⟨rfl, hx⟩
      replace HR := hid1 (HR.out.keep hx)
      have hnx : Below w.heap.size w x5 := by repeat (first | (with_reducible exact Below.refl _ _) | (with_reducible refine bl_alloc ?_ _) | (with_reducible refine Below.drew ?_) | (with_reducible refine bl_drewN ?_ _) | (with_reducible refine bl_set ?_ (by omega) _) | (with_reducible refine bl_step ?_ (by assumption)))
      clear hx B4 ra
      obtain ⟨r0, r1, _, _⟩ := HR.out
      have zr := lt_of_cell r0
      go_wp2_with fail
      clear r0 r1 zr HR
      go_loopw [15] (fun q wr => ∃ k : Nat, k ≤ m ∧ q = .int .i64 k ∧ Below w.heap.size w wr) (fun q _ => m - (intOf q).toNat)
      case atStart => exact ⟨0, Nat.zero_le _, rfl, by repeat (first | (with_reducible exact Below.refl _ _) | (with_reducible refine bl_alloc ?_ _) | (with_reducible refine Below.drew ?_) | (with_reducible refine bl_drewN ?_ _) | (with_reducible refine bl_set ?_ (by omega) _) | (with_reducible refine bl_step ?_ (by assumption)))⟩
      case round =>
        clear hnx
        obtain ⟨k, hk, rfl, hnx⟩ := hrel
        rename World => V
        have ik0 : (0 : Int) ≤ (k : Int) := by omega
        by_cases l1 : k < m
        · have j1 : (k : Int) < (m : Int) := by omega
          obtain ⟨g1, o1, a, eg, ra, a0, a1⟩ := (H1.out.keep hnx) i hli
          obtain ⟨rfl, rfl⟩ : g = g1 ∧ o = o1 := by
            injection eg with eg
            injection eg with e1 e2
            exact ⟨e1, e2⟩
          clear eg
          obtain ⟨g', o', b, eg, rb, b0, b1⟩ := (H1.out.keep hnx) k l1
          obtain ⟨rfl, rfl⟩ : g = g' ∧ o = o' := by
            injection eg with eg
            injection eg with e1 e2
            exact ⟨e1, e2⟩
          clear eg
          obtain ⟨sv, se, p1, p2⟩ := both_add a b ra rb
          have HAD := hid1 p1
          have HSU := hid1 p2
          have HCM := hid1 (fun (x y : Value) (w : World) (hx : Bg w x a) (hy : Bg w y b) => rcmp_cmp a b ra rb x y w hx hy)
          have HWA := hid1 (fun w => rwide_any a ra w)
          have HWB := hid1 (fun w => rwide_any b rb w)
          clear p1 p2 ra rb
          go_wp2_with fail
          go_cut [16, 17] (fun p e wx => ∃ gg, p = .pointer (some ⟨gg, 0, none⟩) ∧ e = .int .i64 se ∧ Below V.heap.size V wx ∧ Sv wx gg (.int .i64 (hiOf sv)) (.int .u64 (loOf sv)))
          case rest =>
            obtain ⟨g1, rfl, rfl, hx, s1⟩ := hcut
            rename World => V1
            replace a0 := keepc hx a0; replace a1 := keepc hx a1; replace b0 := keepc hx b0; replace b1 := keepc hx b1; replace hnx := bl_step hnx hx; have S1 := hid1 s1; clear s1; clear hx
            go_wp2_with fail
            go_cut [18, 19] (fun p e wx => ∃ gg, p = .pointer (some ⟨gg, 0, none⟩) ∧ e = .int .i64 se ∧ Below V1.heap.size V1 wx ∧ Sv wx gg (.int .i64 (hiOf sv)) (.int .u64 (loOf sv)))
            case rest =>
              obtain ⟨g2, rfl, rfl, hx, s2⟩ := hcut
              rename World => V2
              replace a0 := keepc hx a0; replace a1 := keepc hx a1; replace b0 := keepc hx b0; replace b1 := keepc hx b1; replace hnx := bl_step hnx hx; have S2 := hid1 s2; clear s2; replace S1 := hid1 (S1.out.keep hx); clear hx
              go_wp2_with fail
              go_region_held3 (fun X => X.cell? ⟨g, o + i * 2, none⟩ = some (.int .i64 (hiOf a)) ∧ X.cell? ⟨g, o + i * 2 + 1, none⟩ = some (.int .u64 (loOf a)) ∧ X.cell? ⟨g, o + k * 2, none⟩ = some (.int .i64 (hiOf b)) ∧ X.cell? ⟨g, o + k * 2 + 1, none⟩ = some (.int .u64 (loOf b))) (((try dsimp only); (with_reducible refine kq4 (W := V2) a0 a1 b0 b1 ?_); repeat (first | exact Below.refl _ _ | refine bl_alloc ?_ _ | refine Below.drew ?_ | refine bl_drewN ?_ _ | refine bl_set ?_ (by omega) _ | refine bl_step ?_ (by assumption))))
                (first | (go_at_call 22; refine (cmp_any a b _).mono ?_; rintro e V3 ⟨rfl, hx0⟩))
              have hx : Below V2.heap.size V2 V3 := by repeat (first | exact Below.refl _ _ | refine bl_alloc ?_ _ | refine Below.drew ?_ | refine bl_drewN ?_ _ | refine bl_set ?_ (by omega) _ | refine bl_step ?_ (by assumption))
              clear hx0
              replace a0 := keepc hx a0; replace a1 := keepc hx a1; replace b0 := keepc hx b0; replace b1 := keepc hx b1; replace hnx := bl_step hnx hx; replace S1 := hid1 (S1.out.keep hx); replace S2 := hid1 (S2.out.keep hx); clear hx
              go_wp2_with fail
              go_cut [21] (fun v wx => v = .int .i64 (cmpN a b) ∧ Below V3.heap.size V3 wx)
              case rest =>
                obtain ⟨rfl, hx⟩ := hcut
                rename World => V4
                replace a0 := keepc hx a0; replace a1 := keepc hx a1; replace b0 := keepc hx b0; replace b1 := keepc hx b1; replace hnx := bl_step hnx hx; replace S1 := hid1 (S1.out.keep hx); replace S2 := hid1 (S2.out.keep hx); clear hx
                obtain ⟨c0, c1, _, _⟩ := S1.out
                obtain ⟨d0, d1, _, _⟩ := S2.out
                clear S1 S2 a0 a1 b0 b1
                go_wp2_with fail
                exact ⟨⟨k + 1, by omega, by go_num, hnx⟩, by simp [intOf]; omega⟩
              go_region_held3 (fun X => X.cell? ⟨g, o + i * 2, none⟩ = some (.int .i64 (hiOf a)) ∧ X.cell? ⟨g, o + i * 2 + 1, none⟩ = some (.int .u64 (loOf a)) ∧ X.cell? ⟨g, o + k * 2, none⟩ = some (.int .i64 (hiOf b)) ∧ X.cell? ⟨g, o + k * 2 + 1, none⟩ = some (.int .u64 (loOf b))) (((try dsimp only); (with_reducible refine kq4 (W := V3) a0 a1 b0 b1 ?_); repeat (first | exact Below.refl _ _ | refine bl_alloc ?_ _ | refine Below.drew ?_ | refine bl_drewN ?_ _ | refine bl_set ?_ (by omega) _ | refine bl_step ?_ (by assumption))))
                (first
                  | (go_at_call 23; refine (HCM.out _ _ _ (HY1.out.below (by repeat (first | exact Below.refl _ _ | refine bl_alloc ?_ _ | refine Below.drew ?_ | refine bl_drewN ?_ _ | refine bl_set ?_ (by omega) _ | refine bl_step ?_ (by assumption)))) (HY2.out.below (by repeat (first | exact Below.refl _ _ | refine bl_alloc ?_ _ | refine Below.drew ?_ | refine bl_drewN ?_ _ | refine bl_set ?_ (by omega) _ | refine bl_step ?_ (by assumption))))).mono ?_; rintro e y3 ⟨rfl, hy3⟩)
                  | (go_at_call_of 24 a; refine (HWA.out _).mono ?_; rintro e y1 ⟨z1, rfl, hz1, hy1⟩; obtain ⟨s1, o1, l1, c1, rfl⟩ := hz1.form; have HY1 := hid1 hz1; clear hz1)
                  | (go_at_call_of 24 b; refine (HWB.out _).mono ?_; rintro e y2 ⟨z2, rfl, hz2, hy2⟩; obtain ⟨s2, o2, l2, c2, rfl⟩ := hz2.form; have HY2 := hid1 hz2; clear hz2))
              all_goals go_wp2_with fail
              all_goals go_meet
              all_goals exact ⟨rfl, by repeat (first | exact Below.refl _ _ | refine bl_alloc ?_ _ | refine Below.drew ?_ | refine bl_drewN ?_ _ | refine bl_set ?_ (by omega) _ | refine bl_step ?_ (by assumption))⟩
            go_region_held3 (fun X => X.cell? ⟨g, o + i * 2, none⟩ = some (.int .i64 (hiOf a)) ∧ X.cell? ⟨g, o + i * 2 + 1, none⟩ = some (.int .u64 (loOf a)) ∧ X.cell? ⟨g, o + k * 2, none⟩ = some (.int .i64 (hiOf b)) ∧ X.cell? ⟨g, o + k * 2 + 1, none⟩ = some (.int .u64 (loOf b))) (((try dsimp only); (with_reducible refine kq4 (W := V1) a0 a1 b0 b1 ?_); repeat (first | exact Below.refl _ _ | refine bl_alloc ?_ _ | refine Below.drew ?_ | refine bl_drewN ?_ _ | refine bl_set ?_ (by omega) _ | refine bl_step ?_ (by assumption))))
              (first | (go_at_call 21; refine (HSU.out _).mono ?_; rintro e y1 ⟨rfl, hy1⟩; (first | (have Z : Zw y1 V1.heap.size := Sv.keep (zw_new (W := V1.drew) rfl) hy1; have t0 := Z.1; have t1 := Z.2.1; have t2 := Z.2.2.1; have t3 := Z.2.2.2; have t4 := lt_of_cell t0) | (have Z : Zw y1 V1.heap.size := Sv.keep (zw_new (W := V1) rfl) hy1; have t0 := Z.1; have t1 := Z.2.1; have t2 := Z.2.2.1; have t3 := Z.2.2.2; have t4 := lt_of_cell t0) | skip)))
            all_goals go_wp2_with fail
            all_goals go_meet
            all_goals exact ⟨_, rfl, rfl, by repeat (first | exact Below.refl _ _ | refine bl_alloc ?_ _ | refine Below.drew ?_ | refine bl_drewN ?_ _ | refine bl_set ?_ (by omega) _ | refine bl_step ?_ (by assumption)), by repeat (first | (with_reducible assumption) | (with_reducible refine Sv.ownw ?_) | (with_reducible refine Sv.oth ?_ (by omega)) | (with_reducible exact sv_new (by simp)) | (with_reducible refine Sv.alloc ?_ _) | (with_reducible refine Sv.drew ?_))⟩
          go_region_held3 (fun X => X.cell? ⟨g, o + i * 2, none⟩ = some (.int .i64 (hiOf a)) ∧ X.cell? ⟨g, o + i * 2 + 1, none⟩ = some (.int .u64 (loOf a)) ∧ X.cell? ⟨g, o + k * 2, none⟩ = some (.int .i64 (hiOf b)) ∧ X.cell? ⟨g, o + k * 2 + 1, none⟩ = some (.int .u64 (loOf b))) (((try dsimp only); (with_reducible refine kq4 (W := V) a0 a1 b0 b1 ?_); repeat (first | exact Below.refl _ _ | refine bl_alloc ?_ _ | refine Below.drew ?_ | refine bl_drewN ?_ _ | refine bl_set ?_ (by omega) _ | refine bl_step ?_ (by assumption))))
            (first | (go_at_call 20; refine (HAD.out _).mono ?_; rintro e y1 ⟨rfl, hy1⟩; (first | (have Z : Zw y1 V.heap.size := Sv.keep (zw_new (W := V.drew) rfl) hy1; have t0 := Z.1; have t1 := Z.2.1; have t2 := Z.2.2.1; have t3 := Z.2.2.2; have t4 := lt_of_cell t0) | (have Z : Zw y1 V.heap.size := Sv.keep (zw_new (W := V) rfl) hy1; have t0 := Z.1; have t1 := Z.2.1; have t2 := Z.2.2.1; have t3 := Z.2.2.2; have t4 := lt_of_cell t0) | skip)))
          all_goals go_wp2_with fail
          all_goals go_meet
          all_goals exact ⟨_, rfl, rfl, by repeat (first | exact Below.refl _ _ | refine bl_alloc ?_ _ | refine Below.drew ?_ | refine bl_drewN ?_ _ | refine bl_set ?_ (by omega) _ | refine bl_step ?_ (by assumption)), by repeat (first | (with_reducible assumption) | (with_reducible refine Sv.ownw ?_) | (with_reducible refine Sv.oth ?_ (by omega)) | (with_reducible exact sv_new (by simp)) | (with_reducible refine Sv.alloc ?_ _) | (with_reducible refine Sv.drew ?_))⟩
        · have : k = m := by omega
          subst this
          clear hk l1 ik0
          go_wp2_with fail
          go_loopw [22] (fun q wr => ∃ k : Nat, k ≤ n ∧ q = .int .i64 k ∧ Below w.heap.size w wr) (fun q _ => n - (intOf q).toNat)
          case atStart => exact ⟨0, Nat.zero_le _, rfl, by repeat (first | (with_reducible exact Below.refl _ _) | (with_reducible refine bl_alloc ?_ _) | (with_reducible refine Below.drew ?_) | (with_reducible refine bl_drewN ?_ _) | (with_reducible refine bl_set ?_ (by omega) _) | (with_reducible refine bl_step ?_ (by assumption)))⟩
          case round =>
            clear hnx
            obtain ⟨k, hk, rfl, hnx⟩ := hrel
            rename World => V
            have ik0 : (0 : Int) ≤ (k : Int) := by omega
            by_cases l1 : k < n
            · have j1 : (k : Int) < (n : Int) := by omega
              obtain ⟨g1, o1, a, eg, ra, a0, a1⟩ := (H1.out.keep hnx) i hli
              obtain ⟨rfl, rfl⟩ : g = g1 ∧ o = o1 := by
                injection eg with eg
                injection eg with e1 e2
                exact ⟨e1, e2⟩
              clear eg
              obtain ⟨h, q, b, rfl, rb, b0⟩ := (H2.out.keep hnx) k l1
              have HS1 := hid1 (fun w => scale_any a b ra rb w)
              have HS2 := hid1 (fun w => rscale_any a b ra rb w)
              clear ra rb
              go_wp2_with fail
              go_cut [23, 24] (fun p e wx => ∃ gg, p = .pointer (some ⟨gg, 0, none⟩) ∧ e = .int .i64 (errV (a * b)) ∧ Below V.heap.size V wx ∧ Sv wx gg (.int .i64 (hiOf (fitV (a * b)))) (.int .u64 (loOf (fitV (a * b)))))
              case rest =>
                obtain ⟨g1, rfl, rfl, hx, s1⟩ := hcut
                rename World => V1
                replace a0 := keepc hx a0; replace a1 := keepc hx a1; replace b0 := keepc hx b0; replace hnx := bl_step hnx hx; have S1 := hid1 s1; clear s1; clear hx
                go_wp2_with fail
                go_cut [25, 26] (fun p e wx => ∃ gg, p = .pointer (some ⟨gg, 0, none⟩) ∧ e = .int .i64 (errV (a * b)) ∧ Below V1.heap.size V1 wx ∧ Sv wx gg (.int .i64 (hiOf (fitV (a * b)))) (.int .u64 (loOf (fitV (a * b)))))
                case rest =>
                  obtain ⟨g2, rfl, rfl, hx, s2⟩ := hcut
                  rename World => V2
                  replace a0 := keepc hx a0; replace a1 := keepc hx a1; replace b0 := keepc hx b0; replace hnx := bl_step hnx hx; have S2 := hid1 s2; clear s2; replace S1 := hid1 (S1.out.keep hx); clear hx
                  obtain ⟨c0, c1, _, _⟩ := S1.out
                  obtain ⟨d0, d1, _, _⟩ := S2.out
                  clear S1 S2 a0 a1 b0
                  go_wp2_with fail
                  exact ⟨⟨k + 1, by omega, by go_num, hnx⟩, by simp [intOf]; omega⟩
                go_region_held3 (fun X => X.cell? ⟨g, o + i * 2, none⟩ = some (.int .i64 (hiOf a)) ∧ X.cell? ⟨g, o + i * 2 + 1, none⟩ = some (.int .u64 (loOf a)) ∧ X.cell? ⟨h, q + k, none⟩ = some (.int .i64 b)) (((try dsimp only); (with_reducible refine kp3 (W := V1) a0 a1 b0 ?_); repeat (first | exact Below.refl _ _ | refine bl_alloc ?_ _ | refine Below.drew ?_ | refine bl_drewN ?_ _ | refine bl_set ?_ (by omega) _ | refine bl_step ?_ (by assumption))))
                  (first | (go_at_call 26; refine (HS2.out _).mono ?_; rintro e y1 ⟨rfl, hy1⟩; (first | (have Z : Zw y1 V1.heap.size := Sv.keep (zw_new (W := V1.drew) rfl) hy1; have t0 := Z.1; have t1 := Z.2.1; have t2 := Z.2.2.1; have t3 := Z.2.2.2; have t4 := lt_of_cell t0) | (have Z : Zw y1 V1.heap.size := Sv.keep (zw_new (W := V1) rfl) hy1; have t0 := Z.1; have t1 := Z.2.1; have t2 := Z.2.2.1; have t3 := Z.2.2.2; have t4 := lt_of_cell t0) | skip)))
                all_goals go_wp2_with fail
                all_goals go_meet
                all_goals exact ⟨_, rfl, rfl, by repeat (first | exact Below.refl _ _ | refine bl_alloc ?_ _ | refine Below.drew ?_ | refine bl_drewN ?_ _ | refine bl_set ?_ (by omega) _ | refine bl_step ?_ (by assumption)), by repeat (first | (with_reducible assumption) | (with_reducible refine Sv.ownw ?_) | (with_reducible refine Sv.oth ?_ (by omega)) | (with_reducible exact sv_new (by simp)) | (with_reducible refine Sv.alloc ?_ _) | (with_reducible refine Sv.drew ?_))⟩
              go_region_held3 (fun X => X.cell? ⟨g, o + i * 2, none⟩ = some (.int .i64 (hiOf a)) ∧ X.cell? ⟨g, o + i * 2 + 1, none⟩ = some (.int .u64 (loOf a)) ∧ X.cell? ⟨h, q + k, none⟩ = some (.int .i64 b)) (((try dsimp only); (with_reducible refine kp3 (W := V) a0 a1 b0 ?_); repeat (first | exact Below.refl _ _ | refine bl_alloc ?_ _ | refine Below.drew ?_ | refine bl_drewN ?_ _ | refine bl_set ?_ (by omega) _ | refine bl_step ?_ (by assumption))))
                (first | (go_at_call 25; refine (HS1.out _).mono ?_; rintro e y1 ⟨rfl, hy1⟩; (first | (have Z : Zw y1 V.heap.size := Sv.keep (zw_new (W := V.drew) rfl) hy1; have t0 := Z.1; have t1 := Z.2.1; have t2 := Z.2.2.1; have t3 := Z.2.2.2; have t4 := lt_of_cell t0) | (have Z : Zw y1 V.heap.size := Sv.keep (zw_new (W := V) rfl) hy1; have t0 := Z.1; have t1 := Z.2.1; have t2 := Z.2.2.1; have t3 := Z.2.2.2; have t4 := lt_of_cell t0) | skip)))
              all_goals go_wp2_with fail
              all_goals go_meet
              all_goals exact ⟨_, rfl, rfl, by repeat (first | exact Below.refl _ _ | refine bl_alloc ?_ _ | refine Below.drew ?_ | refine bl_drewN ?_ _ | refine bl_set ?_ (by omega) _ | refine bl_step ?_ (by assumption)), by repeat (first | (with_reducible assumption) | (with_reducible refine Sv.ownw ?_) | (with_reducible refine Sv.oth ?_ (by omega)) | (with_reducible exact sv_new (by simp)) | (with_reducible refine Sv.alloc ?_ _) | (with_reducible refine Sv.drew ?_))⟩
            · have : k = n := by omega
              subst this
              clear hk l1 ik0
              go_wp2_with fail
              exact ⟨⟨i + 1, by omega, by go_num, hnx⟩, by simp [intOf]; omega⟩
    · have : i = m := by omega
      subst this
      clear hi hli ii0
      go_wp2_with fail
      go_loopw [27] (fun i wr => ∃ k : Nat, k ≤ n ∧ i = .int .i64 k ∧ Below w.heap.size w wr) (fun i _ => n - (intOf i).toNat)
      case atStart => exact ⟨0, Nat.zero_le _, rfl, hnx⟩
      case round =>
        clear hnx
        obtain ⟨i, hi, rfl, hnx⟩ := hrel
        have ii0 : (0 : Int) ≤ (i : Int) := by omega
        by_cases hli : i < n
        · have ii : (i : Int) < (n : Int) := by omega
          obtain ⟨h, q, a, eg, ra, a0⟩ := (H2.out.keep hnx) i hli
          subst eg
          go_wp2_with fail
          refine (of_any a ra _).mono ?_
          rintro e x3 ⟨rfl, hx⟩
          replace a0 := keepc hx a0; replace hnx := bl_step hnx hx
          clear hx
          have za := lt_of_cell a0
          go_wp2_with fail
          refine gen_calls (fun W' => Below w.heap.size w W' ∧ Hid (Sv W' x3.heap.size (.int .i64 (hiOf a)) (.int .u64 (loOf a)))) ⟨by repeat (first | (with_reducible exact Below.refl _ _) | (with_reducible refine bl_alloc ?_ _) | (with_reducible refine Below.drew ?_) | (with_reducible refine bl_drewN ?_ _) | (with_reducible refine bl_set ?_ (by omega) _) | (with_reducible refine bl_step ?_ (by assumption))), hid1 (sv_new rfl)⟩ ?_
          rintro x4 ⟨B4, HR⟩
          clear za hnx a0
          refine (rof_any a ra _).mono ?_
          rintro e x5 ⟨rfl, hx⟩
          replace HR := hid1 (HR.out.keep hx)
          have hnx : Below w.heap.size w x5 := by repeat (first | (with_reducible exact Below.refl _ _) | (with_reducible refine bl_alloc ?_ _) | (with_reducible refine Below.drew ?_) | (with_reducible refine bl_drewN ?_ _) | (with_reducible refine bl_set ?_ (by omega) _) | (with_reducible refine bl_step ?_ (by assumption)))
          clear hx B4 ra
          obtain ⟨r0, r1, _, _⟩ := HR.out
          have zr := lt_of_cell r0
          go_wp2_with fail
          clear r0 r1 zr HR
          go_loopw [30] (fun q wr => ∃ k : Nat, k ≤ n ∧ q = .int .i64 k ∧ Below w.heap.size w wr) (fun q _ => n - (intOf q).toNat)
          case atStart => exact ⟨0, Nat.zero_le _, rfl, by repeat (first | (with_reducible exact Below.refl _ _) | (with_reducible refine bl_alloc ?_ _) | (with_reducible refine Below.drew ?_) | (with_reducible refine bl_drewN ?_ _) | (with_reducible refine bl_set ?_ (by omega) _) | (with_reducible refine bl_step ?_ (by assumption)))⟩
          case round =>
            clear hnx
            obtain ⟨k, hk, rfl, hnx⟩ := hrel
            rename World => V
            have ik0 : (0 : Int) ≤ (k : Int) := by omega
            by_cases l1 : k < n
            · have j1 : (k : Int) < (n : Int) := by omega
              obtain ⟨h1, q1, a, eg, ra, a0⟩ := (H2.out.keep hnx) i hli
              obtain ⟨rfl, rfl⟩ : h = h1 ∧ q = q1 := by
                injection eg with eg
                injection eg with e1 e2
                exact ⟨e1, e2⟩
              clear eg
              obtain ⟨h', q', b, eg, rb, b0⟩ := (H2.out.keep hnx) k l1
              obtain ⟨rfl, rfl⟩ : h = h' ∧ q = q' := by
                injection eg with eg
                injection eg with e1 e2
                exact ⟨e1, e2⟩
              clear eg
              have HP1 := hid1 (fun w => mul_any a b ra rb w)
              have HP2 := hid1 (fun w => rproduct_any a b ra rb w)
              clear ra rb
              go_wp2_with fail
              go_cut [31] (fun p wx => ∃ gg, p = .pointer (some ⟨gg, 0, none⟩) ∧ Below V.heap.size V wx ∧ Sv wx gg (.int .i64 (hiOf (a * b))) (.int .u64 (loOf (a * b))))
              case rest =>
                obtain ⟨g1, rfl, hx, s1⟩ := hcut
                rename World => V1
                replace a0 := keepc hx a0; replace b0 := keepc hx b0; replace hnx := bl_step hnx hx; have S1 := hid1 s1; clear s1; clear hx
                go_wp2_with fail
                go_cut [32] (fun p wx => ∃ gg, p = .pointer (some ⟨gg, 0, none⟩) ∧ Below V1.heap.size V1 wx ∧ Sv wx gg (.int .i64 (hiOf (a * b))) (.int .u64 (loOf (a * b))))
                case rest =>
                  obtain ⟨g2, rfl, hx, s2⟩ := hcut
                  rename World => V2
                  replace a0 := keepc hx a0; replace b0 := keepc hx b0; replace hnx := bl_step hnx hx; have S2 := hid1 s2; clear s2; replace S1 := hid1 (S1.out.keep hx); clear hx
                  obtain ⟨c0, c1, _, _⟩ := S1.out
                  obtain ⟨d0, d1, _, _⟩ := S2.out
                  clear S1 S2 a0 b0
                  go_wp2_with fail
                  exact ⟨⟨k + 1, by omega, by go_num, hnx⟩, by simp [intOf]; omega⟩
                go_region_held3 (fun X => X.cell? ⟨h, q + i, none⟩ = some (.int .i64 a) ∧ X.cell? ⟨h, q + k, none⟩ = some (.int .i64 b)) (((try dsimp only); (with_reducible refine kq2 (W := V1) a0 b0 ?_); repeat (first | exact Below.refl _ _ | refine bl_alloc ?_ _ | refine Below.drew ?_ | refine bl_drewN ?_ _ | refine bl_set ?_ (by omega) _ | refine bl_step ?_ (by assumption))))
                  (first | (go_at_call 30; refine (HP2.out _).mono ?_; rintro e y1 ⟨rfl, hy1⟩; (first | (have Z : Zw y1 V1.heap.size := Sv.keep (zw_new (W := V1.drew) rfl) hy1; have t0 := Z.1; have t1 := Z.2.1; have t2 := Z.2.2.1; have t3 := Z.2.2.2; have t4 := lt_of_cell t0) | (have Z : Zw y1 V1.heap.size := Sv.keep (zw_new (W := V1) rfl) hy1; have t0 := Z.1; have t1 := Z.2.1; have t2 := Z.2.2.1; have t3 := Z.2.2.2; have t4 := lt_of_cell t0) | skip)))
                all_goals go_wp2_with fail
                all_goals go_meet
                all_goals exact ⟨_, rfl, by repeat (first | exact Below.refl _ _ | refine bl_alloc ?_ _ | refine Below.drew ?_ | refine bl_drewN ?_ _ | refine bl_set ?_ (by omega) _ | refine bl_step ?_ (by assumption)), by repeat (first | (with_reducible assumption) | (with_reducible refine Sv.ownw ?_) | (with_reducible refine Sv.oth ?_ (by omega)) | (with_reducible exact sv_new (by simp)) | (with_reducible refine Sv.alloc ?_ _) | (with_reducible refine Sv.drew ?_))⟩
              go_region_held3 (fun X => X.cell? ⟨h, q + i, none⟩ = some (.int .i64 a) ∧ X.cell? ⟨h, q + k, none⟩ = some (.int .i64 b)) (((try dsimp only); (with_reducible refine kq2 (W := V) a0 b0 ?_); repeat (first | exact Below.refl _ _ | refine bl_alloc ?_ _ | refine Below.drew ?_ | refine bl_drewN ?_ _ | refine bl_set ?_ (by omega) _ | refine bl_step ?_ (by assumption))))
                (first | (go_at_call 29; refine (HP1.out _).mono ?_; rintro e y1 ⟨rfl, hy1⟩; (first | (have Z : Zw y1 V.heap.size := Sv.keep (zw_new (W := V.drew) rfl) hy1; have t0 := Z.1; have t1 := Z.2.1; have t2 := Z.2.2.1; have t3 := Z.2.2.2; have t4 := lt_of_cell t0) | (have Z : Zw y1 V.heap.size := Sv.keep (zw_new (W := V) rfl) hy1; have t0 := Z.1; have t1 := Z.2.1; have t2 := Z.2.2.1; have t3 := Z.2.2.2; have t4 := lt_of_cell t0) | skip)))
              all_goals go_wp2_with fail
              all_goals go_meet
              all_goals exact ⟨_, rfl, by repeat (first | exact Below.refl _ _ | refine bl_alloc ?_ _ | refine Below.drew ?_ | refine bl_drewN ?_ _ | refine bl_set ?_ (by omega) _ | refine bl_step ?_ (by assumption)), by repeat (first | (with_reducible assumption) | (with_reducible refine Sv.ownw ?_) | (with_reducible refine Sv.oth ?_ (by omega)) | (with_reducible exact sv_new (by simp)) | (with_reducible refine Sv.alloc ?_ _) | (with_reducible refine Sv.drew ?_))⟩
            · have : k = n := by omega
              subst this
              clear hk l1 ik0
              go_wp2_with fail
              exact ⟨⟨i + 1, by omega, by go_num, hnx⟩, by simp [intOf]; omega⟩
        · have : i = n := by omega
          subst this
          go_wp2
          go_ret
          exact ⟨rfl, hnx⟩
end Go.Proofs.YtcjglbejmlebhaaDoor
