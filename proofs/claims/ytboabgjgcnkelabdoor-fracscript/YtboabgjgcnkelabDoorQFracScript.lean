import Derived.Test.YtboabgjgcnkelabDoorQA
import Derived.Deep.DeepCutAuto
import Derived.Lib.SlBytesRow
import Derived.StillTailTactics
import Derived.Test.YtboabgjgcnkelabDoorFW7
import Derived.ProofKit
import Derived.LaidMore
import Derived.LaidSub
import Derived.MakeChecks
import Derived.OpenShut
import Derived.ShutString
import Derived.ChangeOld
import Derived.Stop.Joined
import Derived.Lib.SmallJoins
import Derived.SizedLaws
import Derived.Deep.Slices
import Derived.ChangeSame
import Derived.SliceStrings
import Derived.Stop.LaidErr
import Derived.Test.YtboabgjgcnkelabDoorCards
import Derived.Test.YtboabgjgcnkelabDoorTie
import Derived.SevenTiedAt
/- THE DOCUMENT'S NUMBERS WRITTEN: Text. -/
namespace Go.Proofs.YtboabgjgcnkelabDoor
open Go.RowKit Go.Shelf
attribute [local go_sem ↓] Go.wp_at_zero Go.wp_at_succ

theorem bc_E1 {W w' : World} {t : TypeId} (hb : Below (W.alloc (.cells #[.bool false, .slice none 0 0] t)).drew.heap.size (W.alloc (.cells #[.bool false, .slice none 0 0] t)).drew w') : Bc w' W.heap.size false none 0 0 :=
  Bc.keep (Bc.keep (bc_new rfl) (Below.drew (Below.refl _ _))) hb
theorem bc_E2 {W w' : World} {t t' : TypeId} (hb : Below ((W.alloc (.cells #[.bool false, .slice none 0 0] t)).alloc (.cells #[.bool false, .slice none 0 0] t')).drew.heap.size ((W.alloc (.cells #[.bool false, .slice none 0 0] t)).alloc (.cells #[.bool false, .slice none 0 0] t')).drew w') : Bc w' W.heap.size false none 0 0 ∧ Bc w' (W.heap.size + 1) false none 0 0 :=
  ⟨Bc.keep (Bc.keep (bc_new rfl) (Below.drew (bl_alloc (Below.refl _ _) _))) hb, Bc.keep (Bc.keep (bc_new (by simp)) (Below.drew (Below.refl _ _))) hb⟩
theorem bc_02 {W w' : World} {t t' : TypeId} (hb : Below ((W.alloc (.cells #[.bool false, .slice none 0 0] t)).alloc (.cells #[.bool false, .slice none 0 0] t')).heap.size ((W.alloc (.cells #[.bool false, .slice none 0 0] t)).alloc (.cells #[.bool false, .slice none 0 0] t')) w') : Bc w' W.heap.size false none 0 0 ∧ Bc w' (W.heap.size + 1) false none 0 0 :=
  ⟨Bc.keep (Bc.keep (bc_new rfl) (bl_alloc (Below.refl _ _) _)) hb, Bc.keep (bc_new (by simp)) hb⟩
theorem Bc.other {W : World} {g k o : Nat} {s : Bool} {ao : Option Addr} {l c : Nat} {u : Value} (h : Bc W g s ao l c) (hk : ¬ k = g) : Bc (W.setCell ⟨k, o, none⟩ u) g s ao l c := by
  obtain ⟨x0, x1, x2, x3⟩ := h
  have z := lt_of_cell x0
  have hk2 : ¬ g = k := fun e => hk e.symm
  exact ⟨by simp [go_sem, *], by simp [go_sem, *], by simp [go_sem, *], by simp [go_sem, *]⟩
def strLen (v : Value) : Nat := match v with | .string s => s.size | _ => 0
/-- What is written so far, behind what is left. -/
def Tx (u R : Int) (s : List UInt8) : Prop := 0 ≤ R ∧ (R = 0 → s = Lib.decDigits u.toNat) ∧ (0 < R → Lib.decDigits R.toNat ++ s = Lib.decDigits u.toNat)
theorem tx_step {u R : Int} {s : List UInt8} (h : Tx u R s) (hR : 0 < R) : Tx u (R / 10) (UInt8.ofNat (48 + (R % 10).toNat) :: s) := by
  obtain ⟨_, _, h3⟩ := h
  have e := h3 hR
  refine ⟨by omega, fun h0 => ?_, fun h0 => ?_⟩
  · rw [← e, Lib.decDigits, dif_pos (by omega)]
    have : (R % 10).toNat = R.toNat := by omega
    rw [this]; rfl
  · rw [← e]
    conv => rhs; rw [Lib.decDigits, dif_neg (show ¬ R.toNat < 10 by omega)]
    have e1 : (R / 10).toNat = R.toNat / 10 := by omega
    have e2 : (R % 10).toNat = R.toNat % 10 := by omega
    rw [e1, e2]; simp
theorem tx_len {u R : Int} {s : List UInt8} (h : Tx u R s) (hR : 0 < R) (hu : u < 10000000000000000000) : s.length ≤ 19 := by
  have e := congrArg List.length (h.2.2 hR)
  have b := dec_len (k := 18) (K := u.toNat) (by omega)
  have c := dec_len_pos R.toNat
  rw [List.length_append] at e
  omega
end Go.Proofs.YtboabgjgcnkelabDoor
/- THE DOCUMENT'S NUMBERS WRITTEN: Text, walked. -/
namespace Go.Proofs.YtboabgjgcnkelabDoor
open Go.RowKit Go.Shelf
attribute [local go_sem ↓] Go.wp_at_zero Go.wp_at_succ

theorem dec_big : ∀ {k K : Nat}, 10 ^ k ≤ K → k + 1 ≤ (Lib.decDigits K).length
  | 0, K, _ => dec_len_pos K
  | k + 1, K, h => by
    have hp : 1 ≤ 10 ^ k := Nat.one_le_pow _ _ (by decide)
    rw [Nat.pow_succ] at h
    rw [dec_step (by omega), List.length_append]
    have := dec_big (k := k) (K := K / 10) (by omega)
    simp
    omega
theorem bc2 {W X : World} {T : Nat} {s : Bool} {ao : Option Addr} {l c : Nat} (h : Bc W T s ao l c) (hb : Below W.heap.size W X) : X.cell? ⟨T, 0, none⟩ = some (.bool s) ∧ X.cell? ⟨T, 1, none⟩ = some (.slice ao l c) := ⟨(h.keep hb).1, (h.keep hb).2.1⟩
theorem bg_len {w : World} {s : Bool} {ao : Option Addr} {l c : Nat} {R : Int} (h : Bg w (.agg #[.bool s, .slice ao l c]) R) : (R = 0 → l = 0) ∧ (0 < R → 0 < l) := by
  obtain ⟨v, ds, e, rd, dg, tr, vd⟩ := h
  obtain ⟨ao', cap', ev, _⟩ := rd.parts
  subst ev
  have el : l = ds.length := by
    have := e
    simp at this
    omega
  constructor
  · intro hR
    have := len_le (k := 0) dg tr (by rw [vd, hR]; decide)
    omega
  · intro hR
    rcases Nat.eq_zero_or_pos ds.length with k | k
    · have : ds = [] := List.length_eq_zero_iff.mp k
      subst this
      simp [val] at vd
      omega
    · omega
theorem bg_small {w : World} {s : Bool} {ao : Option Addr} {l c : Nat} {r : Int} (h : Bg w (.agg #[.bool s, .slice ao l c]) r) (h0 : 0 < r) (h1 : r < 65536) : ∃ g, ao = some ⟨g, 0, none⟩ ∧ l = 1 ∧ w.cell? ⟨g, 0, none⟩ = some (.int .i64 r) := by
  obtain ⟨v, ds, e, rd, dg, tr, vd⟩ := h
  have hl := len_le (k := 1) dg tr (by rw [vd]; omega)
  obtain ⟨ao', cap', ev, hc⟩ := rd.parts
  subst ev
  have e2 : ao = ao' ∧ l = ds.length := by
    have := e
    simp at this
    exact ⟨this.2.1, this.2.2.1⟩
  match ds, hl, vd, hc, e2 with
  | [], _, vd, _, _ => simp [val] at vd; omega
  | [d], _, vd, hc, e2 =>
    obtain ⟨g, eg, hcell⟩ := hc 0 (by simp)
    refine ⟨g, e2.1.trans eg, e2.2, ?_⟩
    have : d = r := by simp [val] at vd; omega
    rw [hcell]
    simp [dat, this]
  | _ :: _ :: _, hl, _, _, _ => simp at hl
theorem und_bytes : Tryd.prog.underlying 82 = some (.slice 5) := by kernel_rfl
theorem conv_one {W : World} {c : Int} (h0 : 0 ≤ c) (h1 : c < 256) (g : Nat) (hg : g = W.heap.size) :
    (convert 82 9 (.slice (some ⟨g, 0, none⟩) 1 1)).run Tryd.prog (W.alloc (.cells #[.int .u8 c] 5)) = .ok (.string ⟨#[UInt8.ofNat c.toNat]⟩) (W.alloc (.cells #[.int .u8 c] 5)) := by
  subst hg
  refine Lib.run_convert_whole (W.alloc (.cells #[.int .u8 c] 5)) 82 5 9 und_bytes Tryd.underlying5 Tryd.underlying9 W.heap.size 0 ⟨#[UInt8.ofNat c.toNat]⟩ (fun i hi => ?_) 1
  have : i = 0 := by have : i < 1 := hi; omega
  subst this
  have e : ((⟨#[UInt8.ofNat c.toNat]⟩ : ByteArray)[0].toNat : Int) = c := by
    show ((UInt8.ofNat c.toNat).toNat : Int) = c
    rw [UInt8.toNat_ofNat']
    omega
  rw [e]
  simp [go_sem]
/-- Two big numbers laid down. -/
def En (w : World) (M5 M6 : Nat) (sq : Bool) (oq : Option Addr) (lq cq : Nat) (sr : Bool) (or_ : Option Addr) (lr cr : Nat) (a b : Int) : Prop :=
  Bc w M5 sq oq lq cq ∧ Bc w M6 sr or_ lr cr ∧ Bg w (.agg #[.bool sq, .slice oq lq cq]) a ∧ Bg w (.agg #[.bool sr, .slice or_ lr cr]) b
section
variable {X : World} {t t' : TypeId} {G H : Nat} {sq sr g h : Bool} {oq or_ go ho : Option Addr} {lq cq lr cr gl gc hl hc : Nat} {a b : Int}
theorem en1 (hq : Bg X (.agg #[.bool sq, .slice oq lq cq]) a) (hr : Bg X (.agg #[.bool sr, .slice or_ lr cr]) b) : En ((X.alloc (.cells #[.bool sq, .slice oq lq cq] t)).alloc (.cells #[.bool sr, .slice or_ lr cr] t')) X.heap.size (X.heap.size + 1) sq oq lq cq sr or_ lr cr a b :=
  ⟨Bc.keep (bc_new rfl) (bl_alloc (Below.refl _ _) _), bc_new (by simp), hq.below (bl_alloc (bl_alloc (Below.refl _ _) _) _), hr.below (bl_alloc (bl_alloc (Below.refl _ _) _) _)⟩
theorem en2 (hq : Bg X (.agg #[.bool sq, .slice oq lq cq]) a) (hr : Bg X (.agg #[.bool sr, .slice or_ lr cr]) b) : En ((X.alloc (.cells #[.bool sr, .slice or_ lr cr] t)).alloc (.cells #[.bool sq, .slice oq lq cq] t')) (X.heap.size + 1) X.heap.size sq oq lq cq sr or_ lr cr a b :=
  ⟨bc_new (by simp), Bc.keep (bc_new rfl) (bl_alloc (Below.refl _ _) _), hq.below (bl_alloc (bl_alloc (Below.refl _ _) _) _), hr.below (bl_alloc (bl_alloc (Below.refl _ _) _) _)⟩
theorem en3 (hG : Bc X G g go gl gc) (hq : Bg X (.agg #[.bool sq, .slice oq lq cq]) a) (hr : Bg X (.agg #[.bool sr, .slice or_ lr cr]) b) : En (((X.setCell ⟨G, 0, none⟩ (.bool sq)).setCell ⟨G, 1, none⟩ (.slice oq lq cq)).alloc (.cells #[.bool sr, .slice or_ lr cr] t)) G X.heap.size sq oq lq cq sr or_ lr cr a b :=
  ⟨Bc.keep (bc_set hG) (bl_alloc (Below.refl _ _) _), bc_new (by simp), (bg_set hG hq).below (bl_alloc (Below.refl _ _) _), (bg_set hG hr).below (bl_alloc (Below.refl _ _) _)⟩
theorem en4 (hG : Bc X G g go gl gc) (hq : Bg X (.agg #[.bool sq, .slice oq lq cq]) a) (hr : Bg X (.agg #[.bool sr, .slice or_ lr cr]) b) : En (((X.setCell ⟨G, 0, none⟩ (.bool sr)).setCell ⟨G, 1, none⟩ (.slice or_ lr cr)).alloc (.cells #[.bool sq, .slice oq lq cq] t)) X.heap.size G sq oq lq cq sr or_ lr cr a b :=
  ⟨bc_new (by simp), Bc.keep (bc_set hG) (bl_alloc (Below.refl _ _) _), (bg_set hG hq).below (bl_alloc (Below.refl _ _) _), (bg_set hG hr).below (bl_alloc (Below.refl _ _) _)⟩
theorem en5 (hG : Bc X G g go gl gc) (hH : Bc X H h ho hl hc) (ne : ¬ G = H) (hq : Bg X (.agg #[.bool sq, .slice oq lq cq]) a) (hr : Bg X (.agg #[.bool sr, .slice or_ lr cr]) b) : En ((((X.setCell ⟨G, 0, none⟩ (.bool sq)).setCell ⟨G, 1, none⟩ (.slice oq lq cq)).setCell ⟨H, 0, none⟩ (.bool sr)).setCell ⟨H, 1, none⟩ (.slice or_ lr cr)) G H sq oq lq cq sr or_ lr cr a b :=
  ⟨Bc.other (Bc.other (bc_set hG) (fun e => ne e.symm)) (fun e => ne e.symm), bc_set (Bc.other (Bc.other hH ne) ne), bg_set (Bc.other (Bc.other hH ne) ne) (bg_set hG hq), bg_set (Bc.other (Bc.other hH ne) ne) (bg_set hG hr)⟩
end
theorem en_cut {wx w : World} {A B T4 T1 : Nat} {sq : Bool} {oq : Option Addr} {lq cq : Nat} {sr : Bool} {or_ : Option Addr} {lr cr : Nat} {a b : Int} {s ng : Bool} {ao ao0 : Option Addr} {l c l0 c0 : Nat}
    (e : En wx A B sq oq lq cq sr or_ lr cr a b) (h4 : Bc wx T4 s ao l c) (h1 : Bc wx T1 ng ao0 l0 c0) (hB : Below w.heap.size w wx) :
    ∃ M5 M6 sq oq lq cq sr or_ lr cr, Value.pointer (some ⟨A, 0, none⟩) = .pointer (some ⟨M5, 0, none⟩) ∧ Value.pointer (some ⟨B, 0, none⟩) = .pointer (some ⟨M6, 0, none⟩) ∧ Hid (Bc wx M5 sq oq lq cq) ∧ Hid (Bc wx M6 sr or_ lr cr) ∧ Hid (Bg wx (.agg #[.bool sq, .slice oq lq cq]) a) ∧ Hid (Bg wx (.agg #[.bool sr, .slice or_ lr cr]) b) ∧ Hid (Bc wx T4 s ao l c) ∧ Hid (Bc wx T1 ng ao0 l0 c0) ∧ Below w.heap.size w wx :=
  ⟨A, B, sq, oq, lq, cq, sr, or_, lr, cr, rfl, rfl, hid1 e.1, hid1 e.2.1, hid1 e.2.2.1, hid1 e.2.2.2, hid1 h4, hid1 h1, hB⟩
set_option maxHeartbeats 3200000 in
set_option maxRecDepth 100000 in
theorem text_core (n : Int) (x : Value) (w : World) (hx : Bg w x n) (hn0 : ¬ n = 0) (hu : (n.natAbs : Int) < 10000000000000000000) :
    Calls Tryd.prog 23 #[x] w fun e w' => e = .returned (.string ⟨(Lib.itoa n).toArray⟩) ∧ Below w.heap.size w w' := by
  obtain ⟨v, ds, rfl, rd, dg, tr, vd⟩ := hx
  obtain ⟨ao0, cap0, rfl, _⟩ := rd.parts
  have hl : 0 < ds.length := by
    rcases Nat.eq_zero_or_pos ds.length with k | k
    · have : ds = [] := List.length_eq_zero_iff.mp k
      subst this
      simp [val] at vd
      omega
    · exact k
  have hl' : ((ds.length : Int) == 0) = false := beq_false_of_ne (by omega)
  have HRD := hid1 rd
  have HDG := hid1 dg
  have HVD := hid1 vd
  clear rd dg tr vd
  obtain ⟨u, eu⟩ : ∃ u : Int, u = (n.natAbs : Int) := ⟨_, rfl⟩
  have HU := hid1 eu
  have u0 : 0 < u := by omega
  rw [← eu] at hu
  clear eu
  obtain ⟨ng, eng⟩ : ∃ ng, decide (n < 0) = ng := ⟨_, rfl⟩
  have HNG := hid1 eng
  rw [eng]
  clear eng
  go_enter Tryd.func23, Tryd.ntmps23
  go_wp2_with fail
  refine (trim_num u false _ ds _ (HRD.out.below (by repeat (first | exact Below.refl _ _ | refine bl_alloc ?_ _ | refine Below.drew ?_ | refine bl_drewN ?_ _ | refine bl_set ?_ (by omega) _ | refine bl_step ?_ (by assumption)))) HDG.out (by rw [HVD.out, HU.out]; simp) (fun _ => rfl) (fun h => by omega)).mono ?_
  rintro e w1 ⟨x1, b1, ao1, m1, cap1, rfl, rfl, hx1, hb1⟩
  have HX := hid1 hx1
  have HT1 : Hid (Bc w1 w.heap.size ng ao0 ds.length cap0) := hid1 (Bc.keep (bc_new rfl) hb1)
  have B1 : Below w.heap.size w w1 := by repeat (first | exact Below.refl _ _ | refine bl_alloc ?_ _ | refine Below.drew ?_ | refine bl_drewN ?_ _ | refine bl_set ?_ (by omega) _ | refine bl_step ?_ (by assumption))
  have zw := lt_of_cell HT1.out.1
  clear hx1 hb1
  go_wp2_with fail
  go_loopw [3] (fun s3 wr => ∃ (R : Int) (st : ByteArray) (s : Bool) (ao : Option Addr) (l c : Nat), s3 = .string st ∧ Hid (Tx u R st.data.toList) ∧ Hid (Bc wr w1.heap.size s ao l c) ∧ Hid (Bg wr (.agg #[.bool s, .slice ao l c]) R) ∧ Hid (Bc wr w.heap.size ng ao0 ds.length cap0) ∧ Below w.heap.size w wr) (fun s3 _ => 100 - strLen s3)
  case atStart =>
    refine ⟨u, ⟨#[]⟩, b1, ao1, m1, cap1, rfl, hid1 ⟨by omega, fun h => by omega, fun _ => by simp⟩, hid1 (bc_new rfl), hid1 (HX.out.below (by repeat (first | exact Below.refl _ _ | refine bl_alloc ?_ _ | refine Below.drew ?_ | refine bl_drewN ?_ _ | refine bl_set ?_ (by omega) _ | refine bl_step ?_ (by assumption)))), hid1 (HT1.out.keep (by repeat (first | exact Below.refl _ _ | refine bl_alloc ?_ _ | refine Below.drew ?_ | refine bl_drewN ?_ _ | refine bl_set ?_ (by omega) _ | refine bl_step ?_ (by assumption)))), by repeat (first | exact Below.refl _ _ | refine bl_alloc ?_ _ | refine Below.drew ?_ | refine bl_drewN ?_ _ | refine bl_set ?_ (by omega) _ | refine bl_step ?_ (by assumption))⟩
  case round =>
    obtain ⟨R, st, s, ao, l, c, rfl, HTX, HC, HB, HT, hB⟩ := hrel
    rename World => V
    have R0 := HTX.out.1
    obtain ⟨q1, q2⟩ := bg_len HB.out
    by_cases hR : R = 0
    · have l0 := q1 hR
      subst l0
      have hs := HTX.out.2.1 hR
      have HS := hid1 hs
      clear hs q1 q2
      obtain ⟨y0, y1, _, _⟩ := HC.out
      obtain ⟨x0, x1, _, _⟩ := HT.out
      by_cases hn : n < 0
      · have g : ng = true := by rw [← HNG.out]; exact decide_eq_true hn
        subst g
        have hstz : st.size ≤ 20 := by
          have e : st.size = st.data.toList.length := rfl
          rw [e, HS.out]
          have := dec_len (k := 18) (K := u.toNat) (by omega)
          omega
        have HE : Hid ((⟨#[45]⟩ ++ st : ByteArray) = ⟨(Lib.itoa n).toArray⟩) := hid1 (by
          apply ByteArray.ext
          apply Array.ext'
          have e : u.toNat = n.natAbs := by have := HU.out; omega
          have e2 : st.data.toList = Lib.decDigits n.natAbs := by rw [HS.out, e]
          unfold Lib.itoa
          rw [if_pos hn]
          simp [e2])
        go_wp2
        go_ret
        exact ⟨by rw [← HE.out]; rfl, hB⟩
      · have g : ng = false := by rw [← HNG.out]; exact decide_eq_false hn
        subst g
        have HE : Hid (st = ⟨(Lib.itoa n).toArray⟩) := hid1 (by
          apply ByteArray.ext
          apply Array.ext'
          have e : u.toNat = n.toNat := by have := HU.out; omega
          unfold Lib.itoa
          rw [if_neg hn]
          rw [HS.out, e])
        go_wp2
        go_ret
        exact ⟨by rw [← HE.out]; rfl, hB⟩
    · have hR0 : 0 < R := by omega
      have l0 := q2 hR0
      have l0' : (0 : Int) < (l : Int) := by omega
      have hst := tx_len HTX.out hR0 hu
      have hstz : st.size ≤ 19 := hst
      clear q1 q2 hst
      obtain ⟨y0, y1, _, _⟩ := HC.out
      have zV := hB.size
      have HI10 := hid1 (rint_any 10 (by unfold I64; omega))
      have hR2 : R ≤ 10000000000000000000 := by
        have e := congrArg List.length (HTX.out.2.2 hR0)
        have b := dec_len (k := 18) (K := u.toNat) (by omega)
        rw [List.length_append] at e
        rcases Int.lt_or_le 10000000000000000000 R with k | k
        · exfalso
          have := dec_big (k := 19) (K := R.toNat) (by omega)
          omega
        · exact k
      have HPT := hid1 (fun (y z : Value) (w : World) (hy : Bg w y R) (hz : Bg w z 10) => rparts_any R 10 y z w hy hz (by omega) (by omega) (lt16 ⟨by omega, by omega⟩) (lt16 ⟨by omega, by omega⟩))
      clear hR2
      go_upto_region 6 with fail
      clear y0 y1
      go_cut [5, 6] (fun s5 s6 wx => ∃ M5 M6 sq oq lq cq sr or_ lr cr, s5 = .pointer (some ⟨M5, 0, none⟩) ∧ s6 = .pointer (some ⟨M6, 0, none⟩) ∧ Hid (Bc wx M5 sq oq lq cq) ∧ Hid (Bc wx M6 sr or_ lr cr) ∧ Hid (Bg wx (.agg #[.bool sq, .slice oq lq cq]) (R / 10)) ∧ Hid (Bg wx (.agg #[.bool sr, .slice or_ lr cr]) (R % 10)) ∧ Hid (Bc wx w1.heap.size s ao l c) ∧ Hid (Bc wx w.heap.size ng ao0 ds.length cap0) ∧ Below w.heap.size w wx)
      case first =>
        obtain ⟨y0, y1, _, _⟩ := HC.out
        go_region_held3 (fun X => X.cell? ⟨w1.heap.size, 0, none⟩ = some (.bool s) ∧ X.cell? ⟨w1.heap.size, 1, none⟩ = some (.slice ao l c)) (((try dsimp only); (with_reducible refine bc2 HC.out ?_); repeat (first | (with_reducible exact Below.refl _ _) | (with_reducible refine bl_alloc ?_ _) | (with_reducible refine Below.drew ?_) | (with_reducible refine bl_drewN ?_ _) | (with_reducible refine bl_set ?_ (by omega) _) | (with_reducible refine bl_step ?_ (by assumption)))))
          (first
            | (go_at_call 24; (with_reducible refine (HI10.out _).mono ?_); rintro e X1 ⟨i1, rfl, hi1, hb1⟩; obtain ⟨si, oi, li, ci, rfl⟩ := hi1.form; have HI1 := hid1 hi1; clear hi1; have z1 : V.heap.size ≤ X1.heap.size := Nat.le_trans (by first | exact Nat.le_refl _ | (simp; done) | (simp; omega)) hb1.size; (first | ((with_reducible have NE := bc_E2 (W := V) hb1); have NA := hid1 NE.1; have NB := hid1 NE.2; clear NE) | (with_reducible have NA := hid1 (bc_E1 (W := V) hb1)) | skip); (try (have zNA := lt_of_cell NA.out.1; have n1 := Nat.ne_of_lt zNA; have n2 := Nat.ne_of_gt zNA)))
            | (go_at_call 41; (with_reducible refine (HPT.out _ _ _ (HB.out.below (by repeat (first | (with_reducible exact Below.refl _ _) | (with_reducible refine bl_alloc ?_ _) | (with_reducible refine Below.drew ?_) | (with_reducible refine bl_drewN ?_ _) | (with_reducible refine bl_set ?_ (by omega) _) | (with_reducible refine bl_step ?_ (by assumption))))) (HI1.out.below (by repeat (first | (with_reducible exact Below.refl _ _) | (with_reducible refine bl_alloc ?_ _) | (with_reducible refine Below.drew ?_) | (with_reducible refine bl_drewN ?_ _) | (with_reducible refine bl_set ?_ (by omega) _) | (with_reducible refine bl_step ?_ (by assumption)))))).mono ?_); rintro e X2 ⟨vq, vr, rfl, hq, hr, hb2⟩; obtain ⟨sq, oq, lq, cq, rfl⟩ := hq.form; obtain ⟨sr, or_, lr, cr, rfl⟩ := hr.form; have HQ := hid1 hq; have HRR := hid1 hr; clear hq hr; have z2 : X1.heap.size ≤ X2.heap.size := Nat.le_trans (by first | exact Nat.le_refl _ | (simp; done) | (simp; omega)) hb2.size; have b12 : Below X1.heap.size X1 X2 := (by repeat (first | (with_reducible exact Below.refl _ _) | (with_reducible refine bl_alloc ?_ _) | (with_reducible refine Below.drew ?_) | (with_reducible refine bl_drewN ?_ _) | (with_reducible refine bl_set ?_ (by omega) _) | (with_reducible refine bl_step ?_ (by assumption)))); (try (with_reducible have NA := hid1 (NA.out.keep b12))); (try (with_reducible have NB := hid1 (NB.out.keep b12))); clear b12; (first | ((with_reducible have NE := bc_02 (W := X1) hb2); have NC := hid1 NE.1; have ND := hid1 NE.2; clear NE) | (with_reducible have NC := hid1 (bc_0 (W := X1) hb2)) | skip); (try (obtain ⟨pa0, pa1, pa2, pa3⟩ := NA.out; have za := lt_of_cell pa0)); (try (obtain ⟨pb0, pb1, pb2, pb3⟩ := NB.out; have zb := lt_of_cell pb0)); (try (obtain ⟨pc0, pc1, pc2, pc3⟩ := NC.out; have zc := lt_of_cell pc0)); (try (obtain ⟨pd0, pd1, pd2, pd3⟩ := ND.out; have zd := lt_of_cell pd0))))
        all_goals go_wp2_with fail
        all_goals go_meet
        · exact en_cut (en1 HQ.out HRR.out) (HC.out.keep (by repeat (first | (with_reducible exact Below.refl _ _) | (with_reducible refine bl_alloc ?_ _) | (with_reducible refine Below.drew ?_) | (with_reducible refine bl_drewN ?_ _) | (with_reducible refine bl_set ?_ (by omega) _) | (with_reducible refine bl_step ?_ (by assumption))))) (HT.out.keep (by repeat (first | (with_reducible exact Below.refl _ _) | (with_reducible refine bl_alloc ?_ _) | (with_reducible refine Below.drew ?_) | (with_reducible refine bl_drewN ?_ _) | (with_reducible refine bl_set ?_ (by omega) _) | (with_reducible refine bl_step ?_ (by assumption))))) (by repeat (first | (with_reducible exact Below.refl _ _) | (with_reducible refine bl_alloc ?_ _) | (with_reducible refine Below.drew ?_) | (with_reducible refine bl_drewN ?_ _) | (with_reducible refine bl_set ?_ (by omega) _) | (with_reducible refine bl_step ?_ (by assumption))))
        · exact en_cut (en2 HQ.out HRR.out) (HC.out.keep (by repeat (first | (with_reducible exact Below.refl _ _) | (with_reducible refine bl_alloc ?_ _) | (with_reducible refine Below.drew ?_) | (with_reducible refine bl_drewN ?_ _) | (with_reducible refine bl_set ?_ (by omega) _) | (with_reducible refine bl_step ?_ (by assumption))))) (HT.out.keep (by repeat (first | (with_reducible exact Below.refl _ _) | (with_reducible refine bl_alloc ?_ _) | (with_reducible refine Below.drew ?_) | (with_reducible refine bl_drewN ?_ _) | (with_reducible refine bl_set ?_ (by omega) _) | (with_reducible refine bl_step ?_ (by assumption))))) (by repeat (first | (with_reducible exact Below.refl _ _) | (with_reducible refine bl_alloc ?_ _) | (with_reducible refine Below.drew ?_) | (with_reducible refine bl_drewN ?_ _) | (with_reducible refine bl_set ?_ (by omega) _) | (with_reducible refine bl_step ?_ (by assumption))))
        · exact en_cut (en3 NC.out HQ.out HRR.out) (HC.out.keep (by repeat (first | (with_reducible exact Below.refl _ _) | (with_reducible refine bl_alloc ?_ _) | (with_reducible refine Below.drew ?_) | (with_reducible refine bl_drewN ?_ _) | (with_reducible refine bl_set ?_ (by omega) _) | (with_reducible refine bl_step ?_ (by assumption))))) (HT.out.keep (by repeat (first | (with_reducible exact Below.refl _ _) | (with_reducible refine bl_alloc ?_ _) | (with_reducible refine Below.drew ?_) | (with_reducible refine bl_drewN ?_ _) | (with_reducible refine bl_set ?_ (by omega) _) | (with_reducible refine bl_step ?_ (by assumption))))) (by repeat (first | (with_reducible exact Below.refl _ _) | (with_reducible refine bl_alloc ?_ _) | (with_reducible refine Below.drew ?_) | (with_reducible refine bl_drewN ?_ _) | (with_reducible refine bl_set ?_ (by omega) _) | (with_reducible refine bl_step ?_ (by assumption))))
        · exact en_cut (en5 NC.out ND.out (by omega) HQ.out HRR.out) (HC.out.keep (by repeat (first | (with_reducible exact Below.refl _ _) | (with_reducible refine bl_alloc ?_ _) | (with_reducible refine Below.drew ?_) | (with_reducible refine bl_drewN ?_ _) | (with_reducible refine bl_set ?_ (by omega) _) | (with_reducible refine bl_step ?_ (by assumption))))) (HT.out.keep (by repeat (first | (with_reducible exact Below.refl _ _) | (with_reducible refine bl_alloc ?_ _) | (with_reducible refine Below.drew ?_) | (with_reducible refine bl_drewN ?_ _) | (with_reducible refine bl_set ?_ (by omega) _) | (with_reducible refine bl_step ?_ (by assumption))))) (by repeat (first | (with_reducible exact Below.refl _ _) | (with_reducible refine bl_alloc ?_ _) | (with_reducible refine Below.drew ?_) | (with_reducible refine bl_drewN ?_ _) | (with_reducible refine bl_set ?_ (by omega) _) | (with_reducible refine bl_step ?_ (by assumption))))
        · exact en_cut (en4 NC.out HQ.out HRR.out) (HC.out.keep (by repeat (first | (with_reducible exact Below.refl _ _) | (with_reducible refine bl_alloc ?_ _) | (with_reducible refine Below.drew ?_) | (with_reducible refine bl_drewN ?_ _) | (with_reducible refine bl_set ?_ (by omega) _) | (with_reducible refine bl_step ?_ (by assumption))))) (HT.out.keep (by repeat (first | (with_reducible exact Below.refl _ _) | (with_reducible refine bl_alloc ?_ _) | (with_reducible refine Below.drew ?_) | (with_reducible refine bl_drewN ?_ _) | (with_reducible refine bl_set ?_ (by omega) _) | (with_reducible refine bl_step ?_ (by assumption))))) (by repeat (first | (with_reducible exact Below.refl _ _) | (with_reducible refine bl_alloc ?_ _) | (with_reducible refine Below.drew ?_) | (with_reducible refine bl_drewN ?_ _) | (with_reducible refine bl_set ?_ (by omega) _) | (with_reducible refine bl_step ?_ (by assumption))))
        · exact en_cut (en5 ND.out NC.out (by omega) HQ.out HRR.out) (HC.out.keep (by repeat (first | (with_reducible exact Below.refl _ _) | (with_reducible refine bl_alloc ?_ _) | (with_reducible refine Below.drew ?_) | (with_reducible refine bl_drewN ?_ _) | (with_reducible refine bl_set ?_ (by omega) _) | (with_reducible refine bl_step ?_ (by assumption))))) (HT.out.keep (by repeat (first | (with_reducible exact Below.refl _ _) | (with_reducible refine bl_alloc ?_ _) | (with_reducible refine Below.drew ?_) | (with_reducible refine bl_drewN ?_ _) | (with_reducible refine bl_set ?_ (by omega) _) | (with_reducible refine bl_step ?_ (by assumption))))) (by repeat (first | (with_reducible exact Below.refl _ _) | (with_reducible refine bl_alloc ?_ _) | (with_reducible refine Below.drew ?_) | (with_reducible refine bl_drewN ?_ _) | (with_reducible refine bl_set ?_ (by omega) _) | (with_reducible refine bl_step ?_ (by assumption))))
        · exact en_cut (en3 NA.out HQ.out HRR.out) (HC.out.keep (by repeat (first | (with_reducible exact Below.refl _ _) | (with_reducible refine bl_alloc ?_ _) | (with_reducible refine Below.drew ?_) | (with_reducible refine bl_drewN ?_ _) | (with_reducible refine bl_set ?_ (by omega) _) | (with_reducible refine bl_step ?_ (by assumption))))) (HT.out.keep (by repeat (first | (with_reducible exact Below.refl _ _) | (with_reducible refine bl_alloc ?_ _) | (with_reducible refine Below.drew ?_) | (with_reducible refine bl_drewN ?_ _) | (with_reducible refine bl_set ?_ (by omega) _) | (with_reducible refine bl_step ?_ (by assumption))))) (by repeat (first | (with_reducible exact Below.refl _ _) | (with_reducible refine bl_alloc ?_ _) | (with_reducible refine Below.drew ?_) | (with_reducible refine bl_drewN ?_ _) | (with_reducible refine bl_set ?_ (by omega) _) | (with_reducible refine bl_step ?_ (by assumption))))
        · exact en_cut (en5 NA.out NC.out (by omega) HQ.out HRR.out) (HC.out.keep (by repeat (first | (with_reducible exact Below.refl _ _) | (with_reducible refine bl_alloc ?_ _) | (with_reducible refine Below.drew ?_) | (with_reducible refine bl_drewN ?_ _) | (with_reducible refine bl_set ?_ (by omega) _) | (with_reducible refine bl_step ?_ (by assumption))))) (HT.out.keep (by repeat (first | (with_reducible exact Below.refl _ _) | (with_reducible refine bl_alloc ?_ _) | (with_reducible refine Below.drew ?_) | (with_reducible refine bl_drewN ?_ _) | (with_reducible refine bl_set ?_ (by omega) _) | (with_reducible refine bl_step ?_ (by assumption))))) (by repeat (first | (with_reducible exact Below.refl _ _) | (with_reducible refine bl_alloc ?_ _) | (with_reducible refine Below.drew ?_) | (with_reducible refine bl_drewN ?_ _) | (with_reducible refine bl_set ?_ (by omega) _) | (with_reducible refine bl_step ?_ (by assumption))))
        · exact en_cut (en5 NA.out NB.out (by omega) HQ.out HRR.out) (HC.out.keep (by repeat (first | (with_reducible exact Below.refl _ _) | (with_reducible refine bl_alloc ?_ _) | (with_reducible refine Below.drew ?_) | (with_reducible refine bl_drewN ?_ _) | (with_reducible refine bl_set ?_ (by omega) _) | (with_reducible refine bl_step ?_ (by assumption))))) (HT.out.keep (by repeat (first | (with_reducible exact Below.refl _ _) | (with_reducible refine bl_alloc ?_ _) | (with_reducible refine Below.drew ?_) | (with_reducible refine bl_drewN ?_ _) | (with_reducible refine bl_set ?_ (by omega) _) | (with_reducible refine bl_step ?_ (by assumption))))) (by repeat (first | (with_reducible exact Below.refl _ _) | (with_reducible refine bl_alloc ?_ _) | (with_reducible refine Below.drew ?_) | (with_reducible refine bl_drewN ?_ _) | (with_reducible refine bl_set ?_ (by omega) _) | (with_reducible refine bl_step ?_ (by assumption))))
        · exact en_cut (en4 NA.out HQ.out HRR.out) (HC.out.keep (by repeat (first | (with_reducible exact Below.refl _ _) | (with_reducible refine bl_alloc ?_ _) | (with_reducible refine Below.drew ?_) | (with_reducible refine bl_drewN ?_ _) | (with_reducible refine bl_set ?_ (by omega) _) | (with_reducible refine bl_step ?_ (by assumption))))) (HT.out.keep (by repeat (first | (with_reducible exact Below.refl _ _) | (with_reducible refine bl_alloc ?_ _) | (with_reducible refine Below.drew ?_) | (with_reducible refine bl_drewN ?_ _) | (with_reducible refine bl_set ?_ (by omega) _) | (with_reducible refine bl_step ?_ (by assumption))))) (by repeat (first | (with_reducible exact Below.refl _ _) | (with_reducible refine bl_alloc ?_ _) | (with_reducible refine Below.drew ?_) | (with_reducible refine bl_drewN ?_ _) | (with_reducible refine bl_set ?_ (by omega) _) | (with_reducible refine bl_step ?_ (by assumption))))
        · exact en_cut (en5 NC.out NA.out (by omega) HQ.out HRR.out) (HC.out.keep (by repeat (first | (with_reducible exact Below.refl _ _) | (with_reducible refine bl_alloc ?_ _) | (with_reducible refine Below.drew ?_) | (with_reducible refine bl_drewN ?_ _) | (with_reducible refine bl_set ?_ (by omega) _) | (with_reducible refine bl_step ?_ (by assumption))))) (HT.out.keep (by repeat (first | (with_reducible exact Below.refl _ _) | (with_reducible refine bl_alloc ?_ _) | (with_reducible refine Below.drew ?_) | (with_reducible refine bl_drewN ?_ _) | (with_reducible refine bl_set ?_ (by omega) _) | (with_reducible refine bl_step ?_ (by assumption))))) (by repeat (first | (with_reducible exact Below.refl _ _) | (with_reducible refine bl_alloc ?_ _) | (with_reducible refine Below.drew ?_) | (with_reducible refine bl_drewN ?_ _) | (with_reducible refine bl_set ?_ (by omega) _) | (with_reducible refine bl_step ?_ (by assumption))))
        · exact en_cut (en5 NB.out NA.out (by omega) HQ.out HRR.out) (HC.out.keep (by repeat (first | (with_reducible exact Below.refl _ _) | (with_reducible refine bl_alloc ?_ _) | (with_reducible refine Below.drew ?_) | (with_reducible refine bl_drewN ?_ _) | (with_reducible refine bl_set ?_ (by omega) _) | (with_reducible refine bl_step ?_ (by assumption))))) (HT.out.keep (by repeat (first | (with_reducible exact Below.refl _ _) | (with_reducible refine bl_alloc ?_ _) | (with_reducible refine Below.drew ?_) | (with_reducible refine bl_drewN ?_ _) | (with_reducible refine bl_set ?_ (by omega) _) | (with_reducible refine bl_step ?_ (by assumption))))) (by repeat (first | (with_reducible exact Below.refl _ _) | (with_reducible refine bl_alloc ?_ _) | (with_reducible refine Below.drew ?_) | (with_reducible refine bl_drewN ?_ _) | (with_reducible refine bl_set ?_ (by omega) _) | (with_reducible refine bl_step ?_ (by assumption))))
      case rest =>
        clear HC HB HT
        obtain ⟨M5, M6, sq, oq, lq, cq, sr, or_, lr, cr, rfl, rfl, H5, H6, HQ, HRR, HC, HT, hB2⟩ := hcut
        rename World => V2
        clear hB zV HPT HI10
        have HTY := hid1 (tx_step HTX.out hR0)
        have r0 : 0 ≤ R % 10 := by omega
        have r1 : R % 10 < 10 := by omega
        obtain ⟨y0, y1, y2, y3⟩ := HC.out
        have zy := lt_of_cell y0
        obtain ⟨a0, a1, _, _⟩ := H5.out
        obtain ⟨b0, b1, _, _⟩ := H6.out
        have za := lt_of_cell a0
        have zb := lt_of_cell b0
        obtain ⟨D, eD⟩ : ∃ D, R % 10 = D := ⟨_, rfl⟩
        rw [eD] at HTY r0 r1 HRR
        clear eD
        by_cases hD : D = 0
        · subst hD
          have lr0 := (bg_len HRR.out).1 rfl
          subst lr0
          have hcv := conv_one (W := V2) (c := 48) (by omega) (by omega) V2.heap.size rfl
          have ec : UInt8.ofNat (48 : Int).toNat = UInt8.ofNat (48 + (0 : Int).toNat) := by first | rfl | (congr 1; omega)
          rw [ec] at hcv
          clear ec
          obtain ⟨ch, ech⟩ : ∃ ch, UInt8.ofNat (48 + (0 : Int).toNat) = ch := ⟨_, rfl⟩
          rw [ech] at hcv HTY
          clear ech
          have zs : (⟨#[ch]⟩ : ByteArray).size = 1 := rfl
          have nT : ¬ w1.heap.size = w.heap.size := by omega
          go_wp2_with fail
          refine ⟨⟨R / 10, ⟨#[ch]⟩ ++ st, sq, oq, lq, cq, rfl, ?_, ?_, ?_, ?_, ?_⟩, ?_⟩
          · have e : (⟨#[ch]⟩ ++ st : ByteArray).data.toList = ch :: st.data.toList := by simp
            rw [e]; exact HTY
          · exact hid1 (Bc.keep (bc_set HC.out) (bl_alloc (Below.refl _ _) _))
          · exact hid1 ((bg_set HC.out HQ.out).below (bl_alloc (Below.refl _ _) _))
          · exact hid1 (Bc.keep (Bc.other (Bc.other HT.out nT) nT) (bl_alloc (Below.refl _ _) _))
          · repeat (first | (with_reducible exact Below.refl _ _) | (with_reducible refine bl_alloc ?_ _) | (with_reducible refine Below.drew ?_) | (with_reducible refine bl_drewN ?_ _) | (with_reducible refine bl_set ?_ (by omega) _) | (with_reducible refine bl_step ?_ (by assumption)))
          · have e : (⟨#[ch]⟩ ++ st : ByteArray).size = 1 + st.size := by rw [ByteArray.size_append, zs]
            show 100 - (⟨#[ch]⟩ ++ st : ByteArray).size < 100 - st.size
            omega
        · obtain ⟨gr, rfl, rfl, hcell⟩ := bg_small HRR.out (by omega) (by omega)
          have i1 : (0 : Int) < 1 := by omega
          have hcv := conv_one (W := V2) (c := 48 + D) (by omega) (by omega) V2.heap.size rfl
          have ec : UInt8.ofNat (48 + D : Int).toNat = UInt8.ofNat (48 + (D : Int).toNat) := by first | rfl | (congr 1; omega)
          rw [ec] at hcv
          clear ec
          obtain ⟨ch, ech⟩ : ∃ ch, UInt8.ofNat (48 + (D : Int).toNat) = ch := ⟨_, rfl⟩
          rw [ech] at hcv HTY
          clear ech
          have zs : (⟨#[ch]⟩ : ByteArray).size = 1 := rfl
          have nT : ¬ w1.heap.size = w.heap.size := by omega
          go_wp2_with fail
          refine ⟨⟨R / 10, ⟨#[ch]⟩ ++ st, sq, oq, lq, cq, rfl, ?_, ?_, ?_, ?_, ?_⟩, ?_⟩
          · have e : (⟨#[ch]⟩ ++ st : ByteArray).data.toList = ch :: st.data.toList := by simp
            rw [e]; exact HTY
          · exact hid1 (Bc.keep (bc_set HC.out) (bl_alloc (Below.refl _ _) _))
          · exact hid1 ((bg_set HC.out HQ.out).below (bl_alloc (Below.refl _ _) _))
          · exact hid1 (Bc.keep (Bc.other (Bc.other HT.out nT) nT) (bl_alloc (Below.refl _ _) _))
          · repeat (first | (with_reducible exact Below.refl _ _) | (with_reducible refine bl_alloc ?_ _) | (with_reducible refine Below.drew ?_) | (with_reducible refine bl_drewN ?_ _) | (with_reducible refine bl_set ?_ (by omega) _) | (with_reducible refine bl_step ?_ (by assumption)))
          · have e : (⟨#[ch]⟩ ++ st : ByteArray).size = 1 + st.size := by rw [ByteArray.size_append, zs]
            show 100 - (⟨#[ch]⟩ ++ st : ByteArray).size < 100 - st.size
            omega
end Go.Proofs.YtboabgjgcnkelabDoor
/- THE DOCUMENT'S NUMBERS GUESSED: number. -/
namespace Go.Proofs.YtboabgjgcnkelabDoor
open Go.RowKit Go.Shelf
attribute [local go_sem ↓] Go.wp_at_zero Go.wp_at_succ

def numF (acc : Int) : List UInt8 → Int
  | [] => acc
  | c :: r => if acc < 1000000000000 then (if 48 ≤ c.toNat ∧ c.toNat ≤ 57 then numF (acc * 10 + ((c.toNat : Int) - 48)) r else numF acc r) else acc
def numV (l : List UInt8) : Int := if l.head? = some 45 then -(numF 0 l) else numF 0 l
theorem numF_app (l r : List UInt8) : ∀ acc a : Int, (∀ c ∈ l, 48 ≤ c.toNat ∧ c.toNat ≤ 57) → 0 ≤ acc → numF acc l = a → a < 1000000000000 → numF acc (l ++ r) = numF a r := by
  induction l with
  | nil => intro acc a _ _ h _; simp [numF] at h; subst h; rfl
  | cons c l ih =>
    intro acc a hd h0 h ha
    have hc := hd c (by simp)
    rw [List.cons_append]
    by_cases hacc : acc < 1000000000000
    · unfold numF at h
      conv => lhs; unfold numF
      rw [if_pos hacc, if_pos hc] at h ⊢
      exact ih _ a (fun x hx => hd x (by simp [hx])) (by omega) h ha
    · unfold numF at h
      rw [if_neg hacc] at h
      omega
theorem numF_dec : ∀ u : Nat, u < 1000000000000 → numF 0 (Lib.decDigits u) = u := by
  intro u
  induction u using Nat.strongRecOn with
  | _ u ih =>
    intro h
    rw [Lib.decDigits]
    split
    · rename_i k
      have e := dig_nat k
      unfold numF
      rw [e, if_pos (by omega), if_pos (by omega)]
      unfold numF
      omega
    · rename_i k
      rw [numF_app _ _ 0 _ (dec_dig _) (by omega) (ih (u / 10) (by omega) (by omega)) (by omega)]
      have e := dig_nat (k := u % 10) (by omega)
      unfold numF
      rw [e, if_pos (by omega), if_pos (by omega)]
      unfold numF
      omega
theorem numV_itoa {n : Int} (h1 : -2147483647 ≤ n) (h2 : n ≤ 2147483647) : numV (Lib.itoa n) = n := by
  unfold Lib.itoa numV
  split
  · rename_i h
    rw [if_pos (show (45 :: Lib.decDigits n.natAbs).head? = some 45 from rfl)]
    have e : numF 0 (45 :: Lib.decDigits n.natAbs) = numF 0 (Lib.decDigits n.natAbs) := by
      conv => lhs; unfold numF
      rw [if_pos (by omega), if_neg (by decide)]
    rw [e, numF_dec _ (by omega)]
    omega
  · rename_i h
    obtain ⟨c, r, e, c1, c2⟩ := dec_cons n.toNat
    have hh : ¬ (Lib.decDigits n.toNat).head? = some 45 := by
      rw [e]
      intro k
      simp at k
      subst k
      exact absurd c1 (by decide)
    rw [if_neg hh, numF_dec _ (by omega)]
    omega
theorem drop_at (s : ByteArray) (k : Nat) (h : k < s.size) : s.data.toList.drop k = s[k] :: s.data.toList.drop (k + 1) := by
  rw [List.drop_eq_getElem_cons (by simpa using h)]; rfl
theorem head_at (s : ByteArray) (h : 0 < s.size) : s.data.toList.head? = some s[0] := by
  have e := drop_at s 0 h
  rw [List.drop_zero] at e
  rw [e]; rfl
theorem head_none (s : ByteArray) (h : ¬ 0 < s.size) : s.data.toList.head? = none := by
  have : s.data.toList = [] := List.length_eq_zero_iff.mp (by have : s.data.toList.length = s.size := rfl; omega)
  rw [this]; rfl
theorem byte_45 {c : UInt8} : c = 45 ↔ (c.toNat : Int) = 45 := by
  constructor
  · rintro rfl; rfl
  · intro h
    apply UInt8.toNat_inj.mp
    have : (45 : UInt8).toNat = 45 := rfl
    omega
theorem numF_bd : ∀ (l : List UInt8) (acc : Int), 0 ≤ acc → acc < 10000000000000 → 0 ≤ numF acc l ∧ numF acc l < 10000000000000
  | [], acc, h1, h2 => ⟨h1, h2⟩
  | c :: r, acc, h1, h2 => by
    unfold numF
    split
    · split
      · exact numF_bd r _ (by omega) (by omega)
      · exact numF_bd r _ h1 h2
    · exact ⟨h1, h2⟩
theorem numV_bd (l : List UInt8) : -10000000000000 < numV l ∧ numV l < 10000000000000 := by
  have := numF_bd l 0 (by omega) (by omega)
  unfold numV
  split <;> omega
set_option maxHeartbeats 800000 in
set_option maxRecDepth 100000 in
theorem number_any (s : ByteArray) (hs : s.size ≤ 281474976710656) (w : World) :
    Calls Tryd.prog 25 #[.string s] w fun e w' => e = .returned (.int .i64 (numV s.data.toList)) ∧ w = w' := by
  go_enter Tryd.func25, Tryd.ntmps25
  go_wp2
  go_loop [3, 4] (fun n i => ∃ (k : Nat) (v : Int), k ≤ s.size ∧ i = .int .i64 k ∧ n = .int .i64 v ∧ 0 ≤ v ∧ v < 10000000000000 ∧ Hid (numF 0 s.data.toList = numF v (s.data.toList.drop k))) (fun _ i => s.size - (intOf i).toNat)
  case atStart => exact ⟨0, 0, Nat.zero_le _, rfl, rfl, by omega, by omega, hid1 rfl⟩
  case round =>
    obtain ⟨k, v, hk, rfl, rfl, v0, v1, HF⟩ := hrel
    by_cases hgo : k < s.size ∧ v < 1000000000000
    · obtain ⟨hlt, hv⟩ := hgo
      have hlt' : (k : Int) < s.size := by omega
      by_cases hd : 48 ≤ s[k].toNat ∧ s[k].toNat ≤ 57
      · have d1 : 48 ≤ (s[k].toNat : Int) := by omega
        have d2 : (s[k].toNat : Int) ≤ 57 := by omega
        have HX : Hid (numF 0 s.data.toList = numF (v * 10 + ((s[k].toNat : Int) - 48)) (s.data.toList.drop (k + 1))) := hid1 (by
          rw [HF.out, drop_at s k hlt]
          conv => lhs; unfold numF
          rw [if_pos hv, if_pos hd])
        go_wp2_with fail
        exact ⟨⟨k + 1, _, by omega, by go_num, rfl, by omega, by omega, HX⟩, by simp [intOf]; omega⟩
      · have HX : Hid (numF 0 s.data.toList = numF v (s.data.toList.drop (k + 1))) := hid1 (by
          rw [HF.out, drop_at s k hlt]
          conv => lhs; unfold numF
          rw [if_pos hv, if_neg hd])
        by_cases d1 : 48 ≤ (s[k].toNat : Int)
        · have d2 : ¬ (s[k].toNat : Int) ≤ 57 := by omega
          go_wp2_with fail
          exact ⟨⟨k + 1, v, by omega, by go_num, rfl, v0, v1, HX⟩, by simp [intOf]; omega⟩
        · go_wp2_with fail
          exact ⟨⟨k + 1, v, by omega, by go_num, rfl, v0, v1, HX⟩, by simp [intOf]; omega⟩
    · have HV : Hid (numF 0 s.data.toList = v) := hid1 (by
        rw [HF.out]
        by_cases hlt : k < s.size
        · have hv : ¬ v < 1000000000000 := fun h => hgo ⟨hlt, h⟩
          rw [drop_at s k hlt]
          conv => lhs; unfold numF
          rw [if_neg hv]
        · rw [List.drop_of_length_le (by simp; omega)]
          rfl)
      by_cases hlt : k < s.size
      · have hlt' : (k : Int) < s.size := by omega
        have hv : ¬ v < 1000000000000 := fun h => hgo ⟨hlt, h⟩
        clear hgo
        by_cases hz : 0 < s.size
        · have hz' : (0 : Int) < s.size := by omega
          by_cases h45 : s[0] = 45
          · have q : (s[0].toNat : Int) = 45 := byte_45.mp h45
            have HN : Hid (numV s.data.toList = -v) := hid1 (by unfold numV; rw [if_pos (by rw [head_at s hz, h45]), HV.out])
            clear h45
            go_wp2
            go_ret
            exact ⟨by rw [HN.out]; rfl, rfl⟩
          · have q : ¬ (s[0].toNat : Int) = 45 := fun k => h45 (byte_45.mpr k)
            have q' : ((s[0].toNat : Int) == 45) = false := by simpa using q
            have HN : Hid (numV s.data.toList = v) := hid1 (by unfold numV; rw [if_neg (by rw [head_at s hz]; exact fun k => h45 (Option.some.inj k)), HV.out])
            clear h45
            go_wp2
            go_ret
            exact ⟨by rw [HN.out]; rfl, rfl⟩
        · have hz' : ¬ (0 : Int) < s.size := by omega
          have HN : Hid (numV s.data.toList = v) := hid1 (by unfold numV; rw [if_neg (by rw [head_none s hz]; exact fun k => by cases k), HV.out])
          go_wp2
          go_ret
          exact ⟨by rw [HN.out]; rfl, rfl⟩
      · have hlt' : ¬ (k : Int) < s.size := by omega
        clear hgo
        by_cases hz : 0 < s.size
        · have hz' : (0 : Int) < s.size := by omega
          by_cases h45 : s[0] = 45
          · have q : (s[0].toNat : Int) = 45 := byte_45.mp h45
            have HN : Hid (numV s.data.toList = -v) := hid1 (by unfold numV; rw [if_pos (by rw [head_at s hz, h45]), HV.out])
            clear h45
            go_wp2
            go_ret
            exact ⟨by rw [HN.out]; rfl, rfl⟩
          · have q : ¬ (s[0].toNat : Int) = 45 := fun k => h45 (byte_45.mpr k)
            have q' : ((s[0].toNat : Int) == 45) = false := by simpa using q
            have HN : Hid (numV s.data.toList = v) := hid1 (by unfold numV; rw [if_neg (by rw [head_at s hz]; exact fun k => h45 (Option.some.inj k)), HV.out])
            clear h45
            go_wp2
            go_ret
            exact ⟨by rw [HN.out]; rfl, rfl⟩
        · have hz' : ¬ (0 : Int) < s.size := by omega
          have HN : Hid (numV s.data.toList = v) := hid1 (by unfold numV; rw [if_neg (by rw [head_none s hz]; exact fun k => by cases k), HV.out])
          go_wp2
          go_ret
          exact ⟨by rw [HN.out]; rfl, rfl⟩
end Go.Proofs.YtboabgjgcnkelabDoor
/- THE DOCUMENT'S READ, WALKED. -/
namespace Go.Proofs.YtboabgjgcnkelabDoor
open Go.RowKit Go.Shelf
attribute [local go_sem ↓] Go.wp_at_zero Go.wp_at_succ

theorem followsT : Tryd.prog.follows .mixedOrders = true := by kernel_rfl
theorem number_still (s : ByteArray) (hs : s.size ≤ 281474976710656) (w : World) :
    Calls Tryd.prog 25 #[.string s] w fun e w' => e = .returned (.int .i64 (numV s.data.toList)) ∧ w' = w :=
  (number_any s hs w).mono (fun _ _ h => ⟨h.1, h.2.symm⟩)
theorem byte_47 {c : UInt8} : c = 47 ↔ (c.toNat : Int) = 47 := by
  constructor
  · rintro rfl; rfl
  · intro h
    apply UInt8.toNat_inj.mp
    have : (47 : UInt8).toNat = 47 := rfl
    omega
theorem at_no {s : ByteArray} (h : (47 : UInt8) ∉ s.data.toList) (k : Nat) (hk : k < s.size) : ¬ (s[k].toNat : Int) = 47 := by
  intro e
  apply h
  rw [← byte_47.mpr e]
  have e : s[k] = s.data.toList[k]'(by simpa using hk) := rfl
  rw [e]; exact List.getElem_mem _
theorem at_get {s : ByteArray} {a b : List UInt8} (h : s.data.toList = a ++ 47 :: b) (k : Nat) (hk : k < s.size) (ha : k < a.length) : s[k] = a[k] := by
  have e : s[k] = s.data.toList[k]'(by simpa using hk) := rfl
  rw [e]
  simp only [h]
  rw [List.getElem_append_left ha]
theorem at_yes {s : ByteArray} {a b : List UInt8} (h : s.data.toList = a ++ 47 :: b) (hk : a.length < s.size) : (s[a.length].toNat : Int) = 47 := by
  have e : s[a.length] = s.data.toList[a.length]'(by simpa using hk) := rfl
  rw [e]
  simp only [h]
  rw [List.getElem_append_right (Nat.le_refl _)]
  simp
set_option maxHeartbeats 1600000 in
set_option maxRecDepth 100000 in
theorem r4read_f_bad (s t : ByteArray) (hs : s.size ≤ 281474976710656) (n : Int) (hno : (47 : UInt8) ∉ s.data.toList) (hn : numV s.data.toList = n) (HS : Hid (∀ w : World, Calls Tryd.prog 10 #[fr n 1] w fun e w' => e = .returned (.tuple #[.string t, .int .i64 40]) ∧ Below w.heap.size w w')) (w : World) :
    Calls Tryd.prog 11 #[.string s] w fun e w' => e = .returned (.tuple #[fr 0 0, .int .i64 40]) ∧ Below w.heap.size w w' := by
  have H0 := hid1 (number_any s hs)
  rw [hn] at H0
  have HG := hid1 (at_no hno)
  clear hn hno
  go_enter Tryd.func11, Tryd.ntmps11
  go_wp2_with fail
  refine (H0.out _).mono ?_
  rintro e w1 ⟨rfl, rfl⟩
  go_wp2_with fail
  go_loopw [5] (fun i wr => ∃ k : Nat, k ≤ s.size ∧ i = .int .i64 k ∧ Below w.heap.size w wr ∧ Hid (Fy wr w.heap.size 0 0) ∧ Hid (Fy wr (w.heap.size + 1) n 1)) (fun i _ => s.size - (intOf i).toNat)
  case atStart => exact ⟨0, Nat.zero_le _, rfl, by repeat (first | (with_reducible exact Below.refl _ _) | (with_reducible refine bl_alloc ?_ _) | (with_reducible refine Below.drew ?_) | (with_reducible refine bl_drewN ?_ _) | (with_reducible refine bl_set ?_ (by omega) _) | (with_reducible refine bl_step ?_ (by assumption))), hid1 (Fy.keep (fy_new rfl) (bl_alloc (Below.refl _ _) _)), hid1 (fy_new (by simp))⟩
  case round =>
    obtain ⟨k, hk, rfl, hB, HF, HG4⟩ := hrel
    by_cases hlt : k < s.size
    · have hlt2 : k < s.size := by omega
      have hlt' : (k : Int) < s.size := by omega
      have q := HG.out k hlt2
      have q' : ((s[k].toNat : Int) == 47) = false := by simpa using q
      go_wp2_with fail
      exact ⟨⟨k + 1, by omega, by go_num, hB, HF, HG4⟩, by simp [intOf]; omega⟩
    · have : k = s.size := by omega
      subst this
      obtain ⟨g0, g1, _, _⟩ := HG4.out
      go_wp2_with fail
      clear g0 g1
      refine (HS.out _).mono ?_
      rintro e w5 ⟨rfl, hb5⟩
      replace HF := hid1 (HF.out.keep hb5)
      replace HG4 := hid1 (HG4.out.keep hb5)
      have B5 : Below w.heap.size w w5 := by repeat (first | (with_reducible exact Below.refl _ _) | (with_reducible refine bl_alloc ?_ _) | (with_reducible refine Below.drew ?_) | (with_reducible refine bl_drewN ?_ _) | (with_reducible refine bl_set ?_ (by omega) _) | (with_reducible refine bl_step ?_ (by assumption)))
      clear hb5
      obtain ⟨g0, g1, _, _⟩ := HG4.out
      obtain ⟨c0, c1, f0, f1⟩ := HF.out
      have z := lt_of_cell c0
      go_wp2
      simp [bodyPost, results, Tryd.results11, go_sem, *]
      repeat (first | (with_reducible exact Below.refl _ _) | (with_reducible refine bl_alloc ?_ _) | (with_reducible refine Below.drew ?_) | (with_reducible refine bl_drewN ?_ _) | (with_reducible refine bl_set ?_ (by omega) _) | (with_reducible refine bl_step ?_ (by assumption)))
set_option maxHeartbeats 1600000 in
set_option maxRecDepth 100000 in
theorem r4read_f_other (s t : ByteArray) (hs : s.size ≤ 281474976710656) (n : Int) (hno : (47 : UInt8) ∉ s.data.toList) (hn : numV s.data.toList = n) (HS : Hid (∀ w : World, Calls Tryd.prog 10 #[fr n 1] w fun e w' => e = .returned (.tuple #[.string t, .int .i64 0]) ∧ Below w.heap.size w w')) (ht : (t.toList == s.toList) = false) (w : World) :
    Calls Tryd.prog 11 #[.string s] w fun e w' => e = .returned (.tuple #[fr 0 0, .int .i64 40]) ∧ Below w.heap.size w w' := by
  have H0 := hid1 (number_any s hs)
  rw [hn] at H0
  have HG := hid1 (at_no hno)
  clear hn hno
  go_enter Tryd.func11, Tryd.ntmps11
  go_wp2_with fail
  refine (H0.out _).mono ?_
  rintro e w1 ⟨rfl, rfl⟩
  go_wp2_with fail
  go_loopw [5] (fun i wr => ∃ k : Nat, k ≤ s.size ∧ i = .int .i64 k ∧ Below w.heap.size w wr ∧ Hid (Fy wr w.heap.size 0 0) ∧ Hid (Fy wr (w.heap.size + 1) n 1)) (fun i _ => s.size - (intOf i).toNat)
  case atStart => exact ⟨0, Nat.zero_le _, rfl, by repeat (first | (with_reducible exact Below.refl _ _) | (with_reducible refine bl_alloc ?_ _) | (with_reducible refine Below.drew ?_) | (with_reducible refine bl_drewN ?_ _) | (with_reducible refine bl_set ?_ (by omega) _) | (with_reducible refine bl_step ?_ (by assumption))), hid1 (Fy.keep (fy_new rfl) (bl_alloc (Below.refl _ _) _)), hid1 (fy_new (by simp))⟩
  case round =>
    obtain ⟨k, hk, rfl, hB, HF, HG4⟩ := hrel
    by_cases hlt : k < s.size
    · have hlt2 : k < s.size := by omega
      have hlt' : (k : Int) < s.size := by omega
      have q := HG.out k hlt2
      have q' : ((s[k].toNat : Int) == 47) = false := by simpa using q
      go_wp2_with fail
      exact ⟨⟨k + 1, by omega, by go_num, hB, HF, HG4⟩, by simp [intOf]; omega⟩
    · have : k = s.size := by omega
      subst this
      obtain ⟨g0, g1, _, _⟩ := HG4.out
      go_wp2_with fail
      clear g0 g1
      refine (HS.out _).mono ?_
      rintro e w5 ⟨rfl, hb5⟩
      replace HF := hid1 (HF.out.keep hb5)
      replace HG4 := hid1 (HG4.out.keep hb5)
      have B5 : Below w.heap.size w w5 := by repeat (first | (with_reducible exact Below.refl _ _) | (with_reducible refine bl_alloc ?_ _) | (with_reducible refine Below.drew ?_) | (with_reducible refine bl_drewN ?_ _) | (with_reducible refine bl_set ?_ (by omega) _) | (with_reducible refine bl_step ?_ (by assumption)))
      clear hb5
      obtain ⟨g0, g1, _, _⟩ := HG4.out
      obtain ⟨c0, c1, f0, f1⟩ := HF.out
      have z := lt_of_cell c0
      go_wp2
      simp [bodyPost, results, Tryd.results11, go_sem, *]
      repeat (first | (with_reducible exact Below.refl _ _) | (with_reducible refine bl_alloc ?_ _) | (with_reducible refine Below.drew ?_) | (with_reducible refine bl_drewN ?_ _) | (with_reducible refine bl_set ?_ (by omega) _) | (with_reducible refine bl_step ?_ (by assumption)))
set_option maxHeartbeats 1600000 in
set_option maxRecDepth 100000 in
theorem r4read_f_good (s : ByteArray) (hs : s.size ≤ 281474976710656) (n : Int) (hno : (47 : UInt8) ∉ s.data.toList) (hn : numV s.data.toList = n) (HS : Hid (∀ w : World, Calls Tryd.prog 10 #[fr n 1] w fun e w' => e = .returned (.tuple #[.string s, .int .i64 0]) ∧ Below w.heap.size w w')) (w : World) :
    Calls Tryd.prog 11 #[.string s] w fun e w' => e = .returned (.tuple #[fr n 1, .int .i64 0]) ∧ Below w.heap.size w w' := by
  have H0 := hid1 (number_any s hs)
  rw [hn] at H0
  have HG := hid1 (at_no hno)
  clear hn hno
  go_enter Tryd.func11, Tryd.ntmps11
  go_wp2_with fail
  refine (H0.out _).mono ?_
  rintro e w1 ⟨rfl, rfl⟩
  go_wp2_with fail
  go_loopw [5] (fun i wr => ∃ k : Nat, k ≤ s.size ∧ i = .int .i64 k ∧ Below w.heap.size w wr ∧ Hid (Fy wr w.heap.size 0 0) ∧ Hid (Fy wr (w.heap.size + 1) n 1)) (fun i _ => s.size - (intOf i).toNat)
  case atStart => exact ⟨0, Nat.zero_le _, rfl, by repeat (first | (with_reducible exact Below.refl _ _) | (with_reducible refine bl_alloc ?_ _) | (with_reducible refine Below.drew ?_) | (with_reducible refine bl_drewN ?_ _) | (with_reducible refine bl_set ?_ (by omega) _) | (with_reducible refine bl_step ?_ (by assumption))), hid1 (Fy.keep (fy_new rfl) (bl_alloc (Below.refl _ _) _)), hid1 (fy_new (by simp))⟩
  case round =>
    obtain ⟨k, hk, rfl, hB, HF, HG4⟩ := hrel
    by_cases hlt : k < s.size
    · have hlt2 : k < s.size := by omega
      have hlt' : (k : Int) < s.size := by omega
      have q := HG.out k hlt2
      have q' : ((s[k].toNat : Int) == 47) = false := by simpa using q
      go_wp2_with fail
      exact ⟨⟨k + 1, by omega, by go_num, hB, HF, HG4⟩, by simp [intOf]; omega⟩
    · have : k = s.size := by omega
      subst this
      obtain ⟨g0, g1, _, _⟩ := HG4.out
      go_wp2_with fail
      clear g0 g1
      refine (HS.out _).mono ?_
      rintro e w5 ⟨rfl, hb5⟩
      replace HF := hid1 (HF.out.keep hb5)
      replace HG4 := hid1 (HG4.out.keep hb5)
      have B5 : Below w.heap.size w w5 := by repeat (first | (with_reducible exact Below.refl _ _) | (with_reducible refine bl_alloc ?_ _) | (with_reducible refine Below.drew ?_) | (with_reducible refine bl_drewN ?_ _) | (with_reducible refine bl_set ?_ (by omega) _) | (with_reducible refine bl_step ?_ (by assumption)))
      clear hb5
      obtain ⟨g0, g1, _, _⟩ := HG4.out
      obtain ⟨c0, c1, f0, f1⟩ := HF.out
      have z := lt_of_cell c0
      go_wp2
      simp [bodyPost, results, Tryd.results11, go_sem, *]
      repeat (first | (with_reducible exact Below.refl _ _) | (with_reducible refine bl_alloc ?_ _) | (with_reducible refine Below.drew ?_) | (with_reducible refine bl_drewN ?_ _) | (with_reducible refine bl_set ?_ (by omega) _) | (with_reducible refine bl_step ?_ (by assumption)))
set_option maxHeartbeats 1600000 in
set_option maxRecDepth 100000 in
theorem r4read_t_bad (s t : ByteArray) (hs : s.size ≤ 281474976710656) (n d : Int) (a b : List UInt8) (hsp : s.data.toList = a ++ 47 :: b) (ha : (47 : UInt8) ∉ a) (hn : numV a = n) (hd : numV b = d) (y : Int) (hy : numV s.data.toList = y) (HS : Hid (∀ w : World, Calls Tryd.prog 10 #[fr n d] w fun e w' => e = .returned (.tuple #[.string t, .int .i64 40]) ∧ Below w.heap.size w w')) (w : World) :
    Calls Tryd.prog 11 #[.string s] w fun e w' => e = .returned (.tuple #[fr 0 0, .int .i64 40]) ∧ Below w.heap.size w w' := by
  have H0 := hid1 (number_any s hs)
  rw [hy] at H0
  have hz : s.size = a.length + 1 + b.length := by
    have : s.size = s.data.toList.length := rfl
    rw [this, hsp]; simp; omega
  have z1 : (⟨a.toArray⟩ : ByteArray).size = a.length := rfl
  have z2 : (⟨b.toArray⟩ : ByteArray).size = b.length := rfl
  have HA := hid1 (number_still ⟨a.toArray⟩ (by omega))
  have HB := hid1 (number_still ⟨b.toArray⟩ (by omega))
  rw [show (⟨a.toArray⟩ : ByteArray).data.toList = a from rfl, hn] at HA
  rw [show (⟨b.toArray⟩ : ByteArray).data.toList = b from rfl, hd] at HB
  have xa : s.extract 0 a.length = ⟨a.toArray⟩ := ext_list (by rw [hsp]; simp)
  have xb : s.extract (a.length + 1) s.size = ⟨b.toArray⟩ := ext_list (by
    have e1 : a ++ 47 :: b = (a ++ [47]) ++ b := by simp
    have e2 : s.size - (a.length + 1) = b.length := by omega
    rw [hsp, e1, List.drop_left' (by simp), e2, List.take_length])
  have HG : Hid (∀ k (h : k < s.size), k < a.length → ¬ (s[k].toNat : Int) = 47) := hid1 (fun k h hk e => ha (by rw [← byte_47.mpr e, at_get hsp k h hk]; exact List.getElem_mem _))
  have HE : Hid (∀ j (h : j < s.size), j = a.length → (s[j].toNat : Int) = 47) := hid1 (fun j h e => by subst e; exact at_yes hsp h)
  clear hy hn hd hsp ha z1 z2
  obtain ⟨A, eA⟩ : ∃ A, (⟨a.toArray⟩ : ByteArray) = A := ⟨_, rfl⟩
  obtain ⟨B, eB⟩ : ∃ B, (⟨b.toArray⟩ : ByteArray) = B := ⟨_, rfl⟩
  rw [eA] at HA xa
  rw [eB] at HB xb
  clear eA eB
  obtain ⟨m, em⟩ : ∃ m, a.length = m := ⟨_, rfl⟩
  simp only [em] at xa xb HG HE hz
  have hm : m < s.size := by omega
  clear em hz
  go_enter Tryd.func11, Tryd.ntmps11
  go_wp2_with fail
  refine (H0.out _).mono ?_
  rintro e w1 ⟨rfl, rfl⟩
  go_wp2_with fail
  go_loopw [5] (fun i wr => ∃ k : Nat, k ≤ m ∧ i = .int .i64 k ∧ Below w.heap.size w wr ∧ Hid (Fy wr w.heap.size 0 0) ∧ Hid (Fy wr (w.heap.size + 1) y 1)) (fun i _ => s.size - (intOf i).toNat)
  case atStart => exact ⟨0, Nat.zero_le _, rfl, by repeat (first | (with_reducible exact Below.refl _ _) | (with_reducible refine bl_alloc ?_ _) | (with_reducible refine Below.drew ?_) | (with_reducible refine bl_drewN ?_ _) | (with_reducible refine bl_set ?_ (by omega) _) | (with_reducible refine bl_step ?_ (by assumption))), hid1 (Fy.keep (fy_new rfl) (bl_alloc (Below.refl _ _) _)), hid1 (fy_new (by simp))⟩
  case round =>
    obtain ⟨k, hk, rfl, hB, HF, HG4⟩ := hrel
    by_cases hlt : k < m
    · have hlt2 : k < s.size := by omega
      have hlt' : (k : Int) < s.size := by omega
      have q := HG.out k hlt2 hlt
      have q' : ((s[k].toNat : Int) == 47) = false := by simpa using q
      go_wp2_with fail
      exact ⟨⟨k + 1, by omega, by go_num, hB, HF, HG4⟩, by simp [intOf]; omega⟩
    · have : k = m := by omega
      subst this
      have hlt' : (k : Int) < s.size := by omega
      have q := HE.out k hm rfl
      obtain ⟨g0, g1, g2, g3⟩ := HG4.out
      have zg := lt_of_cell g0
      obtain ⟨c0, c1, c2, c3⟩ := HF.out
      have zc := lt_of_cell c0
      have k1 : k ≤ s.size := by omega
      have k2 : k + 1 ≤ s.size := by omega
      have i0 : (0 : Int) ≤ (k : Int) := by omega
      have i1 : (k : Int) ≤ (s.size : Int) := by omega
      have i2 : (k : Int) + 1 ≤ (s.size : Int) := by omega
      have i3 : (0 : Int) ≤ (k : Int) + 1 := by omega
      have i4 : IntKind.i64.wrap ((k : Int) + 1) = (k : Int) + 1 := by rw [IntKind.wrap_i64]; omega
      have i5 : ((k : Int) + 1).toNat = k + 1 := by omega
      go_wp2_with fail
      refine wp_region_still_tail 10 followsT (by kernel_rfl) ?_
      simp only [List.take_succ_cons, List.take_zero, List.drop_succ_cons, List.drop_zero]
      repeat still_step
      still_call (HA.out _)
      repeat still_step
      still_call (HB.out _)
      repeat still_step
      refine wpStill_nil ?_
      go_wp2_with fail
      refine gen_calls (fun W' => Below w.heap.size w W' ∧ Hid (Fy W' w.heap.size 0 0) ∧ Hid (Fy W' (w.heap.size + 1) n d)) ⟨by repeat (first | (with_reducible exact Below.refl _ _) | (with_reducible refine bl_alloc ?_ _) | (with_reducible refine Below.drew ?_) | (with_reducible refine bl_drewN ?_ _) | (with_reducible refine bl_set ?_ (by omega) _) | (with_reducible refine bl_step ?_ (by assumption))), hid1 ⟨by simp [go_sem, *], by simp [go_sem, *], by simp [go_sem, *], by simp [go_sem, *]⟩, hid1 ⟨by simp [go_sem, *], by simp [go_sem, *], by simp [go_sem, *], by simp [go_sem, *]⟩⟩ ?_
      clear g0 g1 g2 g3 zg c0 c1 c2 c3 zc HF HG4 hB
      rintro W6 ⟨hB, HF, HG4⟩
      refine (HS.out _).mono ?_
      rintro e w5 ⟨rfl, hb5⟩
      replace HF := hid1 (HF.out.keep hb5)
      replace HG4 := hid1 (HG4.out.keep hb5)
      have B5 : Below w.heap.size w w5 := by repeat (first | (with_reducible exact Below.refl _ _) | (with_reducible refine bl_alloc ?_ _) | (with_reducible refine Below.drew ?_) | (with_reducible refine bl_drewN ?_ _) | (with_reducible refine bl_set ?_ (by omega) _) | (with_reducible refine bl_step ?_ (by assumption)))
      clear hb5
      obtain ⟨g0, g1, _, _⟩ := HG4.out
      obtain ⟨c0, c1, f0, f1⟩ := HF.out
      have z := lt_of_cell c0
      go_wp2
      simp [bodyPost, results, Tryd.results11, go_sem, *]
      repeat (first | (with_reducible exact Below.refl _ _) | (with_reducible refine bl_alloc ?_ _) | (with_reducible refine Below.drew ?_) | (with_reducible refine bl_drewN ?_ _) | (with_reducible refine bl_set ?_ (by omega) _) | (with_reducible refine bl_step ?_ (by assumption)))
set_option maxHeartbeats 1600000 in
set_option maxRecDepth 100000 in
theorem r4read_t_other (s t : ByteArray) (hs : s.size ≤ 281474976710656) (n d : Int) (a b : List UInt8) (hsp : s.data.toList = a ++ 47 :: b) (ha : (47 : UInt8) ∉ a) (hn : numV a = n) (hd : numV b = d) (y : Int) (hy : numV s.data.toList = y) (HS : Hid (∀ w : World, Calls Tryd.prog 10 #[fr n d] w fun e w' => e = .returned (.tuple #[.string t, .int .i64 0]) ∧ Below w.heap.size w w')) (ht : (t.toList == s.toList) = false) (w : World) :
    Calls Tryd.prog 11 #[.string s] w fun e w' => e = .returned (.tuple #[fr 0 0, .int .i64 40]) ∧ Below w.heap.size w w' := by
  have H0 := hid1 (number_any s hs)
  rw [hy] at H0
  have hz : s.size = a.length + 1 + b.length := by
    have : s.size = s.data.toList.length := rfl
    rw [this, hsp]; simp; omega
  have z1 : (⟨a.toArray⟩ : ByteArray).size = a.length := rfl
  have z2 : (⟨b.toArray⟩ : ByteArray).size = b.length := rfl
  have HA := hid1 (number_still ⟨a.toArray⟩ (by omega))
  have HB := hid1 (number_still ⟨b.toArray⟩ (by omega))
  rw [show (⟨a.toArray⟩ : ByteArray).data.toList = a from rfl, hn] at HA
  rw [show (⟨b.toArray⟩ : ByteArray).data.toList = b from rfl, hd] at HB
  have xa : s.extract 0 a.length = ⟨a.toArray⟩ := ext_list (by rw [hsp]; simp)
  have xb : s.extract (a.length + 1) s.size = ⟨b.toArray⟩ := ext_list (by
    have e1 : a ++ 47 :: b = (a ++ [47]) ++ b := by simp
    have e2 : s.size - (a.length + 1) = b.length := by omega
    rw [hsp, e1, List.drop_left' (by simp), e2, List.take_length])
  have HG : Hid (∀ k (h : k < s.size), k < a.length → ¬ (s[k].toNat : Int) = 47) := hid1 (fun k h hk e => ha (by rw [← byte_47.mpr e, at_get hsp k h hk]; exact List.getElem_mem _))
  have HE : Hid (∀ j (h : j < s.size), j = a.length → (s[j].toNat : Int) = 47) := hid1 (fun j h e => by subst e; exact at_yes hsp h)
  clear hy hn hd hsp ha z1 z2
  obtain ⟨A, eA⟩ : ∃ A, (⟨a.toArray⟩ : ByteArray) = A := ⟨_, rfl⟩
  obtain ⟨B, eB⟩ : ∃ B, (⟨b.toArray⟩ : ByteArray) = B := ⟨_, rfl⟩
  rw [eA] at HA xa
  rw [eB] at HB xb
  clear eA eB
  obtain ⟨m, em⟩ : ∃ m, a.length = m := ⟨_, rfl⟩
  simp only [em] at xa xb HG HE hz
  have hm : m < s.size := by omega
  clear em hz
  go_enter Tryd.func11, Tryd.ntmps11
  go_wp2_with fail
  refine (H0.out _).mono ?_
  rintro e w1 ⟨rfl, rfl⟩
  go_wp2_with fail
  go_loopw [5] (fun i wr => ∃ k : Nat, k ≤ m ∧ i = .int .i64 k ∧ Below w.heap.size w wr ∧ Hid (Fy wr w.heap.size 0 0) ∧ Hid (Fy wr (w.heap.size + 1) y 1)) (fun i _ => s.size - (intOf i).toNat)
  case atStart => exact ⟨0, Nat.zero_le _, rfl, by repeat (first | (with_reducible exact Below.refl _ _) | (with_reducible refine bl_alloc ?_ _) | (with_reducible refine Below.drew ?_) | (with_reducible refine bl_drewN ?_ _) | (with_reducible refine bl_set ?_ (by omega) _) | (with_reducible refine bl_step ?_ (by assumption))), hid1 (Fy.keep (fy_new rfl) (bl_alloc (Below.refl _ _) _)), hid1 (fy_new (by simp))⟩
  case round =>
    obtain ⟨k, hk, rfl, hB, HF, HG4⟩ := hrel
    by_cases hlt : k < m
    · have hlt2 : k < s.size := by omega
      have hlt' : (k : Int) < s.size := by omega
      have q := HG.out k hlt2 hlt
      have q' : ((s[k].toNat : Int) == 47) = false := by simpa using q
      go_wp2_with fail
      exact ⟨⟨k + 1, by omega, by go_num, hB, HF, HG4⟩, by simp [intOf]; omega⟩
    · have : k = m := by omega
      subst this
      have hlt' : (k : Int) < s.size := by omega
      have q := HE.out k hm rfl
      obtain ⟨g0, g1, g2, g3⟩ := HG4.out
      have zg := lt_of_cell g0
      obtain ⟨c0, c1, c2, c3⟩ := HF.out
      have zc := lt_of_cell c0
      have k1 : k ≤ s.size := by omega
      have k2 : k + 1 ≤ s.size := by omega
      have i0 : (0 : Int) ≤ (k : Int) := by omega
      have i1 : (k : Int) ≤ (s.size : Int) := by omega
      have i2 : (k : Int) + 1 ≤ (s.size : Int) := by omega
      have i3 : (0 : Int) ≤ (k : Int) + 1 := by omega
      have i4 : IntKind.i64.wrap ((k : Int) + 1) = (k : Int) + 1 := by rw [IntKind.wrap_i64]; omega
      have i5 : ((k : Int) + 1).toNat = k + 1 := by omega
      go_wp2_with fail
      refine wp_region_still_tail 10 followsT (by kernel_rfl) ?_
      simp only [List.take_succ_cons, List.take_zero, List.drop_succ_cons, List.drop_zero]
      repeat still_step
      still_call (HA.out _)
      repeat still_step
      still_call (HB.out _)
      repeat still_step
      refine wpStill_nil ?_
      go_wp2_with fail
      refine gen_calls (fun W' => Below w.heap.size w W' ∧ Hid (Fy W' w.heap.size 0 0) ∧ Hid (Fy W' (w.heap.size + 1) n d)) ⟨by repeat (first | (with_reducible exact Below.refl _ _) | (with_reducible refine bl_alloc ?_ _) | (with_reducible refine Below.drew ?_) | (with_reducible refine bl_drewN ?_ _) | (with_reducible refine bl_set ?_ (by omega) _) | (with_reducible refine bl_step ?_ (by assumption))), hid1 ⟨by simp [go_sem, *], by simp [go_sem, *], by simp [go_sem, *], by simp [go_sem, *]⟩, hid1 ⟨by simp [go_sem, *], by simp [go_sem, *], by simp [go_sem, *], by simp [go_sem, *]⟩⟩ ?_
      clear g0 g1 g2 g3 zg c0 c1 c2 c3 zc HF HG4 hB
      rintro W6 ⟨hB, HF, HG4⟩
      refine (HS.out _).mono ?_
      rintro e w5 ⟨rfl, hb5⟩
      replace HF := hid1 (HF.out.keep hb5)
      replace HG4 := hid1 (HG4.out.keep hb5)
      have B5 : Below w.heap.size w w5 := by repeat (first | (with_reducible exact Below.refl _ _) | (with_reducible refine bl_alloc ?_ _) | (with_reducible refine Below.drew ?_) | (with_reducible refine bl_drewN ?_ _) | (with_reducible refine bl_set ?_ (by omega) _) | (with_reducible refine bl_step ?_ (by assumption)))
      clear hb5
      obtain ⟨g0, g1, _, _⟩ := HG4.out
      obtain ⟨c0, c1, f0, f1⟩ := HF.out
      have z := lt_of_cell c0
      go_wp2
      simp [bodyPost, results, Tryd.results11, go_sem, *]
      repeat (first | (with_reducible exact Below.refl _ _) | (with_reducible refine bl_alloc ?_ _) | (with_reducible refine Below.drew ?_) | (with_reducible refine bl_drewN ?_ _) | (with_reducible refine bl_set ?_ (by omega) _) | (with_reducible refine bl_step ?_ (by assumption)))
set_option maxHeartbeats 1600000 in
set_option maxRecDepth 100000 in
theorem r4read_t_good (s : ByteArray) (hs : s.size ≤ 281474976710656) (n d : Int) (a b : List UInt8) (hsp : s.data.toList = a ++ 47 :: b) (ha : (47 : UInt8) ∉ a) (hn : numV a = n) (hd : numV b = d) (y : Int) (hy : numV s.data.toList = y) (HS : Hid (∀ w : World, Calls Tryd.prog 10 #[fr n d] w fun e w' => e = .returned (.tuple #[.string s, .int .i64 0]) ∧ Below w.heap.size w w')) (w : World) :
    Calls Tryd.prog 11 #[.string s] w fun e w' => e = .returned (.tuple #[fr n d, .int .i64 0]) ∧ Below w.heap.size w w' := by
  have H0 := hid1 (number_any s hs)
  rw [hy] at H0
  have hz : s.size = a.length + 1 + b.length := by
    have : s.size = s.data.toList.length := rfl
    rw [this, hsp]; simp; omega
  have z1 : (⟨a.toArray⟩ : ByteArray).size = a.length := rfl
  have z2 : (⟨b.toArray⟩ : ByteArray).size = b.length := rfl
  have HA := hid1 (number_still ⟨a.toArray⟩ (by omega))
  have HB := hid1 (number_still ⟨b.toArray⟩ (by omega))
  rw [show (⟨a.toArray⟩ : ByteArray).data.toList = a from rfl, hn] at HA
  rw [show (⟨b.toArray⟩ : ByteArray).data.toList = b from rfl, hd] at HB
  have xa : s.extract 0 a.length = ⟨a.toArray⟩ := ext_list (by rw [hsp]; simp)
  have xb : s.extract (a.length + 1) s.size = ⟨b.toArray⟩ := ext_list (by
    have e1 : a ++ 47 :: b = (a ++ [47]) ++ b := by simp
    have e2 : s.size - (a.length + 1) = b.length := by omega
    rw [hsp, e1, List.drop_left' (by simp), e2, List.take_length])
  have HG : Hid (∀ k (h : k < s.size), k < a.length → ¬ (s[k].toNat : Int) = 47) := hid1 (fun k h hk e => ha (by rw [← byte_47.mpr e, at_get hsp k h hk]; exact List.getElem_mem _))
  have HE : Hid (∀ j (h : j < s.size), j = a.length → (s[j].toNat : Int) = 47) := hid1 (fun j h e => by subst e; exact at_yes hsp h)
  clear hy hn hd hsp ha z1 z2
  obtain ⟨A, eA⟩ : ∃ A, (⟨a.toArray⟩ : ByteArray) = A := ⟨_, rfl⟩
  obtain ⟨B, eB⟩ : ∃ B, (⟨b.toArray⟩ : ByteArray) = B := ⟨_, rfl⟩
  rw [eA] at HA xa
  rw [eB] at HB xb
  clear eA eB
  obtain ⟨m, em⟩ : ∃ m, a.length = m := ⟨_, rfl⟩
  simp only [em] at xa xb HG HE hz
  have hm : m < s.size := by omega
  clear em hz
  go_enter Tryd.func11, Tryd.ntmps11
  go_wp2_with fail
  refine (H0.out _).mono ?_
  rintro e w1 ⟨rfl, rfl⟩
  go_wp2_with fail
  go_loopw [5] (fun i wr => ∃ k : Nat, k ≤ m ∧ i = .int .i64 k ∧ Below w.heap.size w wr ∧ Hid (Fy wr w.heap.size 0 0) ∧ Hid (Fy wr (w.heap.size + 1) y 1)) (fun i _ => s.size - (intOf i).toNat)
  case atStart => exact ⟨0, Nat.zero_le _, rfl, by repeat (first | (with_reducible exact Below.refl _ _) | (with_reducible refine bl_alloc ?_ _) | (with_reducible refine Below.drew ?_) | (with_reducible refine bl_drewN ?_ _) | (with_reducible refine bl_set ?_ (by omega) _) | (with_reducible refine bl_step ?_ (by assumption))), hid1 (Fy.keep (fy_new rfl) (bl_alloc (Below.refl _ _) _)), hid1 (fy_new (by simp))⟩
  case round =>
    obtain ⟨k, hk, rfl, hB, HF, HG4⟩ := hrel
    by_cases hlt : k < m
    · have hlt2 : k < s.size := by omega
      have hlt' : (k : Int) < s.size := by omega
      have q := HG.out k hlt2 hlt
      have q' : ((s[k].toNat : Int) == 47) = false := by simpa using q
      go_wp2_with fail
      exact ⟨⟨k + 1, by omega, by go_num, hB, HF, HG4⟩, by simp [intOf]; omega⟩
    · have : k = m := by omega
      subst this
      have hlt' : (k : Int) < s.size := by omega
      have q := HE.out k hm rfl
      obtain ⟨g0, g1, g2, g3⟩ := HG4.out
      have zg := lt_of_cell g0
      obtain ⟨c0, c1, c2, c3⟩ := HF.out
      have zc := lt_of_cell c0
      have k1 : k ≤ s.size := by omega
      have k2 : k + 1 ≤ s.size := by omega
      have i0 : (0 : Int) ≤ (k : Int) := by omega
      have i1 : (k : Int) ≤ (s.size : Int) := by omega
      have i2 : (k : Int) + 1 ≤ (s.size : Int) := by omega
      have i3 : (0 : Int) ≤ (k : Int) + 1 := by omega
      have i4 : IntKind.i64.wrap ((k : Int) + 1) = (k : Int) + 1 := by rw [IntKind.wrap_i64]; omega
      have i5 : ((k : Int) + 1).toNat = k + 1 := by omega
      go_wp2_with fail
      refine wp_region_still_tail 10 followsT (by kernel_rfl) ?_
      simp only [List.take_succ_cons, List.take_zero, List.drop_succ_cons, List.drop_zero]
      repeat still_step
      still_call (HA.out _)
      repeat still_step
      still_call (HB.out _)
      repeat still_step
      refine wpStill_nil ?_
      go_wp2_with fail
      refine gen_calls (fun W' => Below w.heap.size w W' ∧ Hid (Fy W' w.heap.size 0 0) ∧ Hid (Fy W' (w.heap.size + 1) n d)) ⟨by repeat (first | (with_reducible exact Below.refl _ _) | (with_reducible refine bl_alloc ?_ _) | (with_reducible refine Below.drew ?_) | (with_reducible refine bl_drewN ?_ _) | (with_reducible refine bl_set ?_ (by omega) _) | (with_reducible refine bl_step ?_ (by assumption))), hid1 ⟨by simp [go_sem, *], by simp [go_sem, *], by simp [go_sem, *], by simp [go_sem, *]⟩, hid1 ⟨by simp [go_sem, *], by simp [go_sem, *], by simp [go_sem, *], by simp [go_sem, *]⟩⟩ ?_
      clear g0 g1 g2 g3 zg c0 c1 c2 c3 zc HF HG4 hB
      rintro W6 ⟨hB, HF, HG4⟩
      refine (HS.out _).mono ?_
      rintro e w5 ⟨rfl, hb5⟩
      replace HF := hid1 (HF.out.keep hb5)
      replace HG4 := hid1 (HG4.out.keep hb5)
      have B5 : Below w.heap.size w w5 := by repeat (first | (with_reducible exact Below.refl _ _) | (with_reducible refine bl_alloc ?_ _) | (with_reducible refine Below.drew ?_) | (with_reducible refine bl_drewN ?_ _) | (with_reducible refine bl_set ?_ (by omega) _) | (with_reducible refine bl_step ?_ (by assumption)))
      clear hb5
      obtain ⟨g0, g1, _, _⟩ := HG4.out
      obtain ⟨c0, c1, f0, f1⟩ := HF.out
      have z := lt_of_cell c0
      go_wp2
      simp [bodyPost, results, Tryd.results11, go_sem, *]
      repeat (first | (with_reducible exact Below.refl _ _) | (with_reducible refine bl_alloc ?_ _) | (with_reducible refine Below.drew ?_) | (with_reducible refine bl_drewN ?_ _) | (with_reducible refine bl_set ?_ (by omega) _) | (with_reducible refine bl_step ?_ (by assumption)))
end Go.Proofs.YtboabgjgcnkelabDoor
/- THE DOCUMENT'S SHOW AND READ OF FRACTIONS: THE WHOLE. -/
namespace Go.Proofs.YtboabgjgcnkelabDoor
open Go.RowKit Go.Shelf
attribute [local go_sem ↓] Go.wp_at_zero Go.wp_at_succ

theorem text_zero (x : Value) (w : World) (hx : Bg w x 0) :
    Calls Tryd.prog 23 #[x] w fun e w' => e = .returned (.string ⟨(Lib.itoa 0).toArray⟩) ∧ Below w.heap.size w w' := by
  obtain ⟨s, ao, l, c, rfl⟩ := hx.form
  have l0 := (bg_len hx).1 rfl
  subst l0
  have e : (⟨(Lib.itoa 0).toArray⟩ : ByteArray) = ⟨#[48]⟩ := by decide +kernel
  rw [e]
  clear hx e
  go_enter Tryd.func23, Tryd.ntmps23
  go_wp2
  go_ret
  exact ⟨rfl, by repeat (first | exact Below.refl _ _ | refine bl_alloc ?_ _ | refine Below.drew ?_ | refine bl_drewN ?_ _ | refine bl_set ?_ (by omega) _ | refine bl_step ?_ (by assumption))⟩
theorem text_any (n : Int) (x : Value) (w : World) (hx : Bg w x n) (hu : (n.natAbs : Int) < 10000000000000000000) :
    Calls Tryd.prog 23 #[x] w fun e w' => e = .returned (.string ⟨(Lib.itoa n).toArray⟩) ∧ Below w.heap.size w w' := by
  by_cases h : n = 0
  · subst h; exact text_zero x w hx
  · exact text_core n x w hx h hu
set_option maxRecDepth 100000 in
theorem r4show_ok (n d : Int) (h : Fr n d) (w : World) :
    Calls Tryd.prog 10 #[fr n d] w fun e w' => e = .returned (.tuple #[.string ⟨(shL n d).toArray⟩, .int .i64 0]) ∧ Below w.heap.size w w' := by
  have HCK := hid1 (r4check_any n d)
  rw [chF_ok h] at HCK
  obtain ⟨i1, i2⟩ := fr_i64 h
  have HI := hid1 (rint_any n i1)
  have HJ := hid1 (rint_any d i2)
  have HF := hid1 (fun (x : Value) (w : World) (hx : Bg w x n) => text_any n x w hx (by have := i1.1; have := i1.2; omega))
  have HD := hid1 (fun (x : Value) (w : World) (hx : Bg w x d) => text_any d x w hx (by have := i2.1; have := i2.2; omega))
  have ls : (⟨(Lib.itoa n).toArray⟩ : ByteArray).size ≤ 21 := Lib.itoa_length_le n i1.1 (by have := i1.2; omega)
  have lt : (⟨(Lib.itoa d).toArray⟩ : ByteArray).size ≤ 21 := Lib.itoa_length_le d i2.1 (by have := i2.2; omega)
  clear h i1 i2
  by_cases hd : d = 1
  · subst hd
    unfold shL
    rw [if_pos rfl]
    obtain ⟨s, es⟩ : ∃ s, (⟨(Lib.itoa n).toArray⟩ : ByteArray) = s := ⟨_, rfl⟩
    rw [es] at HF ⊢
    clear es ls lt
    go_enter Tryd.func10, Tryd.ntmps10
    go_wp2_with fail
    refine (HCK.out _).mono ?_
    rintro e w1 ⟨rfl, hb1⟩
    have c0 := keepc hb1 (b := w.heap.size) (o := 0) (v := .int .i64 n) (by simp [go_sem])
    have c1 := keepc hb1 (b := w.heap.size) (o := 1) (v := .int .i64 1) (by simp [go_sem])
    have B1 : Below w.heap.size w w1 := by repeat (first | exact Below.refl _ _ | refine bl_alloc ?_ _ | refine Below.drew ?_ | refine bl_drewN ?_ _ | refine bl_set ?_ (by omega) _ | refine bl_step ?_ (by assumption))
    clear hb1
    go_wp2_with fail
    refine (HI.out _).mono ?_
    rintro e w2 ⟨x1, rfl, hx1, hb2⟩
    obtain ⟨s1, o1, l1, k1, rfl⟩ := hx1.form
    have HX := hid1 hx1
    clear hx1
    replace c0 := keepc hb2 c0; replace c1 := keepc hb2 c1
    go_wp2_with fail
    refine (HF.out _ _ HX.out).mono ?_
    rintro e w3 ⟨rfl, hb3⟩
    replace c0 := keepc hb3 c0; replace c1 := keepc hb3 c1
    go_wp2
    go_ret2
    refine ⟨rfl, ?_⟩
    repeat (first | exact Below.refl _ _ | refine bl_alloc ?_ _ | refine Below.drew ?_ | refine bl_drewN ?_ _ | refine bl_set ?_ (by omega) _ | refine bl_step ?_ (by assumption))
  · have hs : (⟨(shL n d).toArray⟩ : ByteArray) = ⟨(Lib.itoa n).toArray⟩ ++ ⟨#[47]⟩ ++ ⟨(Lib.itoa d).toArray⟩ := by
      unfold shL
      rw [if_neg hd]
      apply ByteArray.ext; simp
    rw [hs]
    clear hs
    obtain ⟨s, es⟩ : ∃ s, (⟨(Lib.itoa n).toArray⟩ : ByteArray) = s := ⟨_, rfl⟩
    obtain ⟨t, et⟩ : ∃ t, (⟨(Lib.itoa d).toArray⟩ : ByteArray) = t := ⟨_, rfl⟩
    rw [es] at HF ls ⊢
    rw [et] at HD lt ⊢
    clear es et
    have l47 : (s ++ ⟨#[47]⟩ : ByteArray).size ≤ 22 := by
      rw [ByteArray.size_append]
      have : (⟨#[47]⟩ : ByteArray).size = 1 := rfl
      omega
    go_enter Tryd.func10, Tryd.ntmps10
    go_wp2_with fail
    refine (HCK.out _).mono ?_
    rintro e w1 ⟨rfl, hb1⟩
    have c0 := keepc hb1 (b := w.heap.size) (o := 0) (v := .int .i64 n) (by simp [go_sem])
    have c1 := keepc hb1 (b := w.heap.size) (o := 1) (v := .int .i64 d) (by simp [go_sem])
    have B1 : Below w.heap.size w w1 := by repeat (first | exact Below.refl _ _ | refine bl_alloc ?_ _ | refine Below.drew ?_ | refine bl_drewN ?_ _ | refine bl_set ?_ (by omega) _ | refine bl_step ?_ (by assumption))
    clear hb1
    go_wp2_with fail
    refine (HI.out _).mono ?_
    rintro e w2 ⟨x1, rfl, hx1, hb2⟩
    obtain ⟨s1, o1, l1, k1, rfl⟩ := hx1.form
    have HX := hid1 hx1
    clear hx1
    replace c0 := keepc hb2 c0; replace c1 := keepc hb2 c1
    go_wp2_with fail
    refine (HF.out _ _ HX.out).mono ?_
    rintro e w3 ⟨rfl, hb3⟩
    replace c0 := keepc hb3 c0; replace c1 := keepc hb3 c1
    go_wp2_with fail
    refine (HJ.out _).mono ?_
    rintro e w4 ⟨x2, rfl, hx2, hb4⟩
    obtain ⟨s2, o2, l2, k2, rfl⟩ := hx2.form
    have HX2 := hid1 hx2
    clear hx2
    go_wp2_with fail
    refine (HD.out _ _ HX2.out).mono ?_
    rintro e w5 ⟨rfl, hb5⟩
    go_wp2
    go_ret2
    refine ⟨rfl, ?_⟩
    repeat (first | exact Below.refl _ _ | refine bl_alloc ?_ _ | refine Below.drew ?_ | refine bl_drewN ?_ _ | refine bl_set ?_ (by omega) _ | refine bl_step ?_ (by assumption))
set_option maxRecDepth 100000 in
theorem r4show_no (n d : Int) (h : ¬ Fr n d) (w : World) :
    Calls Tryd.prog 10 #[fr n d] w fun e w' => e = .returned (.tuple #[.string ⟨#[]⟩, .int .i64 40]) ∧ Below w.heap.size w w' := by
  have HCK := hid1 (r4check_any n d)
  rw [chF_no h] at HCK
  clear h
  go_enter Tryd.func10, Tryd.ntmps10
  go_wp2_with fail
  refine (HCK.out _).mono ?_
  rintro e w1 ⟨rfl, hb1⟩
  go_wp2
  go_ret2
  refine ⟨rfl, ?_⟩
  repeat (first | exact Below.refl _ _ | refine bl_alloc ?_ _ | refine Below.drew ?_ | refine bl_drewN ?_ _ | refine bl_set ?_ (by omega) _ | refine bl_step ?_ (by assumption))
theorem r4show_any (n d : Int) (w : World) :
    Calls Tryd.prog 10 #[fr n d] w fun e w' => e = .returned (.tuple #[.string ⟨(shV n d).toArray⟩, .int .i64 (chF n d)]) ∧ Below w.heap.size w w' := by
  by_cases h : Fr n d
  · unfold shV
    rw [if_pos h, chF_ok h]
    exact r4show_ok n d h w
  · unfold shV
    rw [if_neg h, chF_no h]
    exact r4show_no n d h w
theorem r4read_good (s : ByteArray) (hl : s.size ≤ 281474976710656) (n d : Int) (hf : Fr n d) (hs : s.data.toList = shL n d) (w : World) :
    Calls Tryd.prog 11 #[.string s] w fun e w' => e = .returned (.tuple #[fr n d, .int .i64 0]) ∧ Below w.heap.size w w' := by
  have vn := numV_itoa hf.2.2.1 hf.2.2.2
  have vd : numV (Lib.itoa d) = d := numV_itoa (by have := hf.1; omega) (by have := hf.2.1; omega)
  have HS := r4show_ok n d hf
  rw [← ba_eq hs] at HS
  by_cases hd : d = 1
  · subst hd
    have e : s.data.toList = Lib.itoa n := by rw [hs]; unfold shL; rw [if_pos rfl]
    have h47 : (47 : UInt8) ∉ s.data.toList := by rw [e]; exact itoa_stroke n
    exact r4read_f_good s hl n h47 (by rw [e]; exact vn) (hid1 HS) w
  · have e : s.data.toList = Lib.itoa n ++ 47 :: Lib.itoa d := by rw [hs]; unfold shL; rw [if_neg hd]
    exact r4read_t_good s hl n d _ _ e (itoa_stroke n) vn vd _ rfl (hid1 HS) w
theorem r4read_bad (s : ByteArray) (hl : s.size ≤ 281474976710656) (h : ∀ n d, Fr n d → ¬ shL n d = s.data.toList) (w : World) :
    Calls Tryd.prog 11 #[.string s] w fun e w' => e = .returned (.tuple #[fr 0 0, .int .i64 40]) ∧ Below w.heap.size w w' := by
  rcases index_cases 47 s.data.toList with ⟨_, h1⟩ | ⟨a, b, h1, h2, _⟩
  · by_cases hf : Fr (numV s.data.toList) 1
    · exact r4read_f_other s _ hl _ h1 rfl (hid1 (r4show_ok _ 1 hf)) (ba_ne rfl (h _ 1 hf)) w
    · exact r4read_f_bad s _ hl _ h1 rfl (hid1 (r4show_no _ 1 hf)) w
  · by_cases hf : Fr (numV a) (numV b)
    · exact r4read_t_other s _ hl _ _ a b h1 h2 rfl rfl _ rfl (hid1 (r4show_ok _ _ hf)) (ba_ne rfl (h _ _ hf)) w
    · exact r4read_t_bad s _ hl _ _ a b h1 h2 rfl rfl _ rfl (hid1 (r4show_no _ _ hf)) w
end Go.Proofs.YtboabgjgcnkelabDoor
/- LISTS OF TEXTS. -/
namespace Go.Proofs.YtboabgjgcnkelabDoor
open Go.RowKit Go.Shelf

def Lst (W : World) (ao : Option Addr) (m : Nat) : Prop := ∀ k, k < m → ∃ (g o : Nat) (s : ByteArray), ao = some ⟨g, o, none⟩ ∧ s.size ≤ 281474976710656 ∧ W.cell? ⟨g, o + k, none⟩ = some (.string s)
theorem Lst.keep {W w' : World} {ao : Option Addr} {m : Nat} (h : Lst W ao m) (hb : Below W.heap.size W w') : Lst w' ao m := fun k hk => by
  obtain ⟨g, o, s, e, z, a⟩ := h k hk
  exact ⟨g, o, s, e, z, keepc hb a⟩
end Go.Proofs.YtboabgjgcnkelabDoor
/- FRACTEXTS, WALKED. -/
namespace Go.Proofs.YtboabgjgcnkelabDoor
open Go.RowKit Go.Shelf
attribute [local go_sem ↓] Go.wp_at_zero Go.wp_at_succ

/-- Both readings answer the same. -/
theorem both_read (s : ByteArray) (hl : s.size ≤ 281474976710656) : ∃ n d e : Int, (∀ w : World, LaidB w → Calls Tryd.prog 9 #[.string s] w fun e' w' => e' = .returned (.tuple #[fr n d, .int .i64 e]) ∧ Below w.heap.size w w') ∧
    (∀ w : World, Calls Tryd.prog 11 #[.string s] w fun e' w' => e' = .returned (.tuple #[fr n d, .int .i64 e]) ∧ Below w.heap.size w w') := by
  by_cases h : ∃ p q, Fr p q ∧ shL p q = s.data.toList
  · obtain ⟨p, q, g, e⟩ := h
    exact ⟨p, q, 0, fread_good s hl p q g e.symm, r4read_good s hl p q g e.symm⟩
  · exact ⟨0, 0, 40, fread_bad s hl (fun p q g e => h ⟨p, q, g, e⟩), r4read_bad s hl (fun p q g e => h ⟨p, q, g, e⟩)⟩
theorem both_show (n d : Int) : ∃ (t : ByteArray) (e : Int), (∀ w : World, LaidP w → Calls Tryd.prog 8 #[fr n d] w fun e' w' => e' = .returned (.tuple #[.string t, .int .i64 e]) ∧ Below w.heap.size w w') ∧
    (∀ w : World, Calls Tryd.prog 10 #[fr n d] w fun e' w' => e' = .returned (.tuple #[.string t, .int .i64 e]) ∧ Below w.heap.size w w') :=
  ⟨_, _, fshow_any n d, r4show_any n d⟩
set_option maxHeartbeats 3200000 in
set_option maxRecDepth 100000 in
theorem ftexts_walk (ao : Option Addr) (m cm : Nat) (hm : m ≤ 9223372036854775807) (bo : Option Addr) (n cn : Nat) (hn : n ≤ 9223372036854775807) (w : World) (L : LaidB w) (L1 : Lfr w ao m) (L2 : Lst w bo n) :
    Calls Tryd.prog 4 #[.slice ao m cm, .slice bo n cn] w fun e w' => e = .returned (.bool true) ∧ Below w.heap.size w w' := by
  have H1 := hid1 L1
  have H2 := hid1 L2
  have HL := hid1 L
  clear L1 L2 L
  go_enter Tryd.func4, Tryd.ntmps4
  go_wp2_with fail
  refine (fbegun_any _ HL.out.pow).mono ?_
  rintro e w1 ⟨rfl, hb1⟩
  go_wp2_with fail
  go_loopw [6] (fun i wr => ∃ k : Nat, k ≤ m ∧ i = .int .i64 k ∧ Below w.heap.size w wr) (fun i _ => m - (intOf i).toNat)
  case atStart => exact ⟨0, Nat.zero_le _, rfl, hb1⟩
  case round =>
    obtain ⟨i, hi, rfl, hnx⟩ := hrel
    have ii0 : (0 : Int) ≤ (i : Int) := by omega
    by_cases hli : i < m
    · have ii : (i : Int) < (m : Int) := by omega
      obtain ⟨g, o, p, q, rfl, a0, a1⟩ := (H1.out.keep hnx) i hli
      obtain ⟨t, et, h1, h2⟩ := both_show p q
      have HA := hid1 h1
      have HB := hid1 h2
      clear h1 h2
      go_wp2_with fail
      refine (HA.out _ (HL.out.on hnx).pow).mono ?_
      rintro e x1 ⟨rfl, hx⟩
      replace a0 := keepc hx a0; replace a1 := keepc hx a1
      replace hnx := bl_step hnx hx
      clear hx
      go_wp2_with fail
      refine (HB.out _).mono ?_
      rintro e x2 ⟨rfl, hx⟩
      replace hnx := bl_step hnx hx
      clear hx
      go_wp2_with fail
      exact ⟨⟨i + 1, by omega, by go_num, hnx⟩, by simp [intOf]; omega⟩
    · have : i = m := by omega
      subst this
      go_wp2_with fail
      go_loopw [11] (fun q wr => ∃ k : Nat, k ≤ n ∧ q = .int .i64 k ∧ Below w.heap.size w wr) (fun q _ => n - (intOf q).toNat)
      case atStart => exact ⟨0, Nat.zero_le _, rfl, hnx⟩
      case round =>
        clear hnx
        obtain ⟨k, hk, rfl, hnx⟩ := hrel
        rename World => V
        have ik0 : (0 : Int) ≤ (k : Int) := by omega
        by_cases l1 : k < n
        · have j1 : (k : Int) < (n : Int) := by omega
          obtain ⟨g, o, s, rfl, hs, a0⟩ := (H2.out.keep hnx) k l1
          obtain ⟨p, q, er, h1, h2⟩ := both_read s hs
          have HA := hid1 h1
          have HB := hid1 h2
          clear h1 h2 hs
          go_wp2_with fail
          refine (HA.out _ (HL.out.on hnx)).mono ?_
          rintro e x1 ⟨rfl, hx⟩
          replace a0 := keepc hx a0
          replace hnx : Below w.heap.size w x1 := by repeat (first | (with_reducible exact Below.refl _ _) | (with_reducible refine bl_alloc ?_ _) | (with_reducible refine Below.drew ?_) | (with_reducible refine bl_drewN ?_ _) | (with_reducible refine bl_set ?_ (by omega) _) | (with_reducible refine bl_step ?_ (by assumption)))
          clear hx
          have za := lt_of_cell a0
          go_wp2_with fail
          refine gen_calls (fun W' => Below w.heap.size w W' ∧ Hid (Fy W' x1.heap.size p q)) ⟨by repeat (first | (with_reducible exact Below.refl _ _) | (with_reducible refine bl_alloc ?_ _) | (with_reducible refine Below.drew ?_) | (with_reducible refine bl_drewN ?_ _) | (with_reducible refine bl_set ?_ (by omega) _) | (with_reducible refine bl_step ?_ (by assumption))), hid1 (fy_new rfl)⟩ ?_
          rintro x2 ⟨B2, HF⟩
          clear a0 za hnx
          refine (HB.out _).mono ?_
          rintro e x3 ⟨rfl, hx⟩
          replace HF := hid1 (HF.out.keep hx)
          have hnx : Below w.heap.size w x3 := by repeat (first | (with_reducible exact Below.refl _ _) | (with_reducible refine bl_alloc ?_ _) | (with_reducible refine Below.drew ?_) | (with_reducible refine bl_drewN ?_ _) | (with_reducible refine bl_set ?_ (by omega) _) | (with_reducible refine bl_step ?_ (by assumption)))
          clear hx B2
          obtain ⟨f0, f1, _, _⟩ := HF.out
          have zf := lt_of_cell f0
          go_wp2_with fail
          exact ⟨⟨k + 1, by omega, by go_num, by repeat (first | (with_reducible exact Below.refl _ _) | (with_reducible refine bl_alloc ?_ _) | (with_reducible refine Below.drew ?_) | (with_reducible refine bl_drewN ?_ _) | (with_reducible refine bl_set ?_ (by omega) _) | (with_reducible refine bl_step ?_ (by assumption)))⟩, by simp [intOf]; omega⟩
        · have : k = n := by omega
          subst this
          go_wp2
          go_ret
          exact ⟨rfl, hnx⟩
end Go.Proofs.YtboabgjgcnkelabDoor
/- ONE STEP OF A SCRIPT. -/
namespace Go.Proofs.YtboabgjgcnkelabDoor
open Go.RowKit Go.Shelf
attribute [local go_sem ↓] Go.wp_at_zero Go.wp_at_succ

abbrev opv (k fn fd gn gd a1 a2 a3 a4 a5 a6 a7 a8 x : Int) (s : ByteArray) : Value := .agg #[.int .i64 k, .int .i64 fn, .int .i64 fd, .int .i64 gn, .int .i64 gd, .int .i64 a1, .int .i64 a2, .int .i64 a3, .int .i64 a4, .int .i64 a5, .int .i64 a6, .int .i64 a7, .int .i64 a8, .int .i64 x, .string s]
/-- A step's cells from a place on. -/
def Oc (w : World) (b o : Nat) (k fn fd gn gd a1 a2 a3 a4 a5 a6 a7 a8 x : Int) (s : ByteArray) : Prop := w.cell? ⟨b, o, none⟩ = some (.int .i64 k) ∧ w.cell? ⟨b, o + 1, none⟩ = some (.int .i64 fn) ∧ w.cell? ⟨b, o + 2, none⟩ = some (.int .i64 fd) ∧ w.cell? ⟨b, o + 3, none⟩ = some (.int .i64 gn) ∧ w.cell? ⟨b, o + 4, none⟩ = some (.int .i64 gd) ∧ w.cell? ⟨b, o + 5, none⟩ = some (.int .i64 a1) ∧ w.cell? ⟨b, o + 6, none⟩ = some (.int .i64 a2) ∧ w.cell? ⟨b, o + 7, none⟩ = some (.int .i64 a3) ∧ w.cell? ⟨b, o + 8, none⟩ = some (.int .i64 a4) ∧ w.cell? ⟨b, o + 9, none⟩ = some (.int .i64 a5) ∧ w.cell? ⟨b, o + 10, none⟩ = some (.int .i64 a6) ∧ w.cell? ⟨b, o + 11, none⟩ = some (.int .i64 a7) ∧ w.cell? ⟨b, o + 12, none⟩ = some (.int .i64 a8) ∧ w.cell? ⟨b, o + 13, none⟩ = some (.int .i64 x) ∧ w.cell? ⟨b, o + 14, none⟩ = some (.string s)
theorem Oc.keep {w w' : World} {b o : Nat} {k fn fd gn gd a1 a2 a3 a4 a5 a6 a7 a8 x : Int} {s : ByteArray} (h : Oc w b o k fn fd gn gd a1 a2 a3 a4 a5 a6 a7 a8 x s) (hb : Below w.heap.size w w') : Oc w' b o k fn fd gn gd a1 a2 a3 a4 a5 a6 a7 a8 x s := by
  obtain ⟨h0, h1, h2, h3, h4, h5, h6, h7, h8, h9, h10, h11, h12, h13, h14⟩ := h
  exact ⟨keepc hb h0, keepc hb h1, keepc hb h2, keepc hb h3, keepc hb h4, keepc hb h5, keepc hb h6, keepc hb h7, keepc hb h8, keepc hb h9, keepc hb h10, keepc hb h11, keepc hb h12, keepc hb h13, keepc hb h14⟩
theorem oc_new {W : World} {t : TypeId} {g : Nat} {k fn fd gn gd a1 a2 a3 a4 a5 a6 a7 a8 x : Int} {s : ByteArray} (hg : W.heap.size = g) : Oc (W.alloc (.cells #[.int .i64 k, .int .i64 fn, .int .i64 fd, .int .i64 gn, .int .i64 gd, .int .i64 a1, .int .i64 a2, .int .i64 a3, .int .i64 a4, .int .i64 a5, .int .i64 a6, .int .i64 a7, .int .i64 a8, .int .i64 x, .string s] t)) g 0 k fn fd gn gd a1 a2 a3 a4 a5 a6 a7 a8 x s := by
  subst hg
  exact ⟨by simp [go_sem], by simp [go_sem], by simp [go_sem], by simp [go_sem], by simp [go_sem], by simp [go_sem], by simp [go_sem], by simp [go_sem], by simp [go_sem], by simp [go_sem], by simp [go_sem], by simp [go_sem], by simp [go_sem], by simp [go_sem], by simp [go_sem]⟩
set_option maxHeartbeats 1600000 in
set_option maxRecDepth 100000 in
theorem snorms_any (k fn fd gn gd a1 a2 a3 a4 a5 a6 a7 a8 x : Int) (s : ByteArray) (w : World) :
    Calls Tryd.prog 27 #[opv k fn fd gn gd a1 a2 a3 a4 a5 a6 a7 a8 x s] w fun e w' => e = .returned (.bool true) ∧ Below w.heap.size w w' := by
  have HN := hid1 (norm_any a1 a2 a3 a4 a5 a6 a7 a8)
  have HM := hid1 (r4norm_any a1 a2 a3 a4 a5 a6 a7 a8)
  have HP := hid1 (fplus_any a1 a2 a3 a4 a5 a6 a7 a8 x)
  have HQ := hid1 (r4plus_any a1 a2 a3 a4 a5 a6 a7 a8 x)
  obtain ⟨v1, e1⟩ : ∃ v, noE a1 a2 a3 a4 a5 a6 a7 a8 = v := ⟨_, rfl⟩
  obtain ⟨v2, e2⟩ : ∃ v, plV a1 a2 a3 a4 a5 a6 a7 a8 x = v := ⟨_, rfl⟩
  obtain ⟨v3, e3⟩ : ∃ v, plE a1 a2 a3 a4 a5 a6 a7 a8 x = v := ⟨_, rfl⟩
  rw [e1] at HN HM
  rw [e2, e3] at HP HQ
  clear e1 e2 e3
  go_enter Tryd.func27, Tryd.ntmps27
  go_wp2_with fail
  refine gen_calls (fun W' => Below w.heap.size w W' ∧ Hid (Oc W' w.heap.size 0 k fn fd gn gd a1 a2 a3 a4 a5 a6 a7 a8 x s)) ⟨by repeat (first | (with_reducible exact Below.refl _ _) | (with_reducible refine bl_alloc ?_ _) | (with_reducible refine Below.drew ?_) | (with_reducible refine bl_drewN ?_ _) | (with_reducible refine bl_set ?_ (by omega) _) | (with_reducible refine bl_step ?_ (by assumption))), hid1 (oc_new rfl)⟩ ?_
  rintro W ⟨B0, HO⟩
  refine (HN.out _).mono ?_
  rintro e w1 ⟨rfl, hb⟩
  replace HO := hid1 (HO.out.keep hb)
  have B1 : Below w.heap.size w w1 := by repeat (first | (with_reducible exact Below.refl _ _) | (with_reducible refine bl_alloc ?_ _) | (with_reducible refine Below.drew ?_) | (with_reducible refine bl_drewN ?_ _) | (with_reducible refine bl_set ?_ (by omega) _) | (with_reducible refine bl_step ?_ (by assumption)))
  clear hb B0
  obtain ⟨h0, h1, h2, h3, h4, h5, h6, h7, h8, h9, h10, h11, h12, h13, h14⟩ := HO.out
  simp only [Nat.zero_add] at h1 h2 h3 h4 h5 h6 h7 h8 h9 h10 h11 h12 h13 h14
  go_wp2_with fail
  clear h0 h1 h2 h3 h4 h5 h6 h7 h8 h9 h10 h11 h12 h13 h14
  refine (HM.out _).mono ?_
  rintro e w2 ⟨rfl, hb⟩
  replace HO := hid1 (HO.out.keep hb)
  have B2 : Below w.heap.size w w2 := by repeat (first | (with_reducible exact Below.refl _ _) | (with_reducible refine bl_alloc ?_ _) | (with_reducible refine Below.drew ?_) | (with_reducible refine bl_drewN ?_ _) | (with_reducible refine bl_set ?_ (by omega) _) | (with_reducible refine bl_step ?_ (by assumption)))
  clear hb B1
  obtain ⟨h0, h1, h2, h3, h4, h5, h6, h7, h8, h9, h10, h11, h12, h13, h14⟩ := HO.out
  simp only [Nat.zero_add] at h1 h2 h3 h4 h5 h6 h7 h8 h9 h10 h11 h12 h13 h14
  go_wp2_with fail
  clear h0 h1 h2 h3 h4 h5 h6 h7 h8 h9 h10 h11 h12 h13 h14
  refine (HP.out _).mono ?_
  rintro e w3 ⟨rfl, hb⟩
  replace HO := hid1 (HO.out.keep hb)
  have B3 : Below w.heap.size w w3 := by repeat (first | (with_reducible exact Below.refl _ _) | (with_reducible refine bl_alloc ?_ _) | (with_reducible refine Below.drew ?_) | (with_reducible refine bl_drewN ?_ _) | (with_reducible refine bl_set ?_ (by omega) _) | (with_reducible refine bl_step ?_ (by assumption)))
  clear hb B2
  obtain ⟨h0, h1, h2, h3, h4, h5, h6, h7, h8, h9, h10, h11, h12, h13, h14⟩ := HO.out
  simp only [Nat.zero_add] at h1 h2 h3 h4 h5 h6 h7 h8 h9 h10 h11 h12 h13 h14
  go_wp2_with fail
  clear h0 h1 h2 h3 h4 h5 h6 h7 h8 h9 h10 h11 h12 h13 h14
  refine (HQ.out _).mono ?_
  rintro e w4 ⟨rfl, hb⟩
  have B4 : Below w.heap.size w w4 := by repeat (first | (with_reducible exact Below.refl _ _) | (with_reducible refine bl_alloc ?_ _) | (with_reducible refine Below.drew ?_) | (with_reducible refine bl_drewN ?_ _) | (with_reducible refine bl_set ?_ (by omega) _) | (with_reducible refine bl_step ?_ (by assumption)))
  go_wp2
  go_ret
  exact ⟨by first | rfl | (simp; done), B4⟩
end Go.Proofs.YtboabgjgcnkelabDoor
/- FRACTIONS AND TEXTS OF ONE STEP. -/
namespace Go.Proofs.YtboabgjgcnkelabDoor
open Go.RowKit Go.Shelf
attribute [local go_sem ↓] Go.wp_at_zero Go.wp_at_succ

set_option maxHeartbeats 3200000 in
set_option maxRecDepth 100000 in
theorem sfracs_any (k fn fd gn gd a1 a2 a3 a4 a5 a6 a7 a8 x : Int) (s : ByteArray) (w : World) :
    Calls Tryd.prog 26 #[opv k fn fd gn gd a1 a2 a3 a4 a5 a6 a7 a8 x s] w fun e w' => e = .returned (.tuple #[fr (rnV fn fd) (rdV fn fd), .bool true]) ∧ Below w.heap.size w w' := by
  have H1 := hid1 (fcheck_any fn fd)
  have H2 := hid1 (r4check_any fn fd)
  have H3 := hid1 (reduce_any fn fd)
  have H4 := hid1 (r4reduce_any fn fd)
  have H5 := hid1 (fcmp_any fn fd gn gd)
  have H6 := hid1 (r4cmp_any fn fd gn gd)
  obtain ⟨c1, e1⟩ : ∃ v, chF fn fd = v := ⟨_, rfl⟩
  obtain ⟨p, e2⟩ : ∃ v, rnV fn fd = v := ⟨_, rfl⟩
  obtain ⟨q, e3⟩ : ∃ v, rdV fn fd = v := ⟨_, rfl⟩
  obtain ⟨c2, e4⟩ : ∃ v, cmF fn fd gn gd = v := ⟨_, rfl⟩
  obtain ⟨c3, e5⟩ : ∃ v, ceF fn fd gn gd = v := ⟨_, rfl⟩
  rw [e1] at H1 H2
  rw [e1, e2, e3] at H3 H4
  rw [e4, e5] at H5 H6
  rw [e2, e3]
  clear e1 e2 e3 e4 e5
  go_enter Tryd.func26, Tryd.ntmps26
  go_wp2_with fail
  refine gen_calls (fun W' => Below w.heap.size w W' ∧ Hid (Oc W' w.heap.size 0 k fn fd gn gd a1 a2 a3 a4 a5 a6 a7 a8 x s) ∧ Hid (Fy W' (w.heap.size + 1) 0 0)) ⟨by repeat (first | (with_reducible exact Below.refl _ _) | (with_reducible refine bl_alloc ?_ _) | (with_reducible refine Below.drew ?_) | (with_reducible refine bl_drewN ?_ _) | (with_reducible refine bl_set ?_ (by omega) _) | (with_reducible refine bl_step ?_ (by assumption))), hid1 (Oc.keep (oc_new rfl) (bl_alloc (Below.refl _ _) _)), hid1 (fy_new (by simp))⟩ ?_
  rintro W ⟨B0, HO, HR⟩
  refine (H1.out _).mono ?_
  rintro e w1 ⟨rfl, hb⟩
  replace HO := hid1 (HO.out.keep hb)
  replace HR := hid1 (HR.out.keep hb)
  have B1 : Below w.heap.size w w1 := by repeat (first | (with_reducible exact Below.refl _ _) | (with_reducible refine bl_alloc ?_ _) | (with_reducible refine Below.drew ?_) | (with_reducible refine bl_drewN ?_ _) | (with_reducible refine bl_set ?_ (by omega) _) | (with_reducible refine bl_step ?_ (by assumption)))
  clear hb B0
  obtain ⟨h0, h1, h2, h3, h4, h5, h6, h7, h8, h9, h10, h11, h12, h13, h14⟩ := HO.out
  simp only [Nat.zero_add] at h1 h2 h3 h4 h5 h6 h7 h8 h9 h10 h11 h12 h13 h14
  have zo := lt_of_cell h0
  go_wp2_with fail
  clear zo h0 h1 h2 h3 h4 h5 h6 h7 h8 h9 h10 h11 h12 h13 h14
  refine (H2.out _).mono ?_
  rintro e w2 ⟨rfl, hb⟩
  replace HO := hid1 (HO.out.keep hb)
  replace HR := hid1 (HR.out.keep hb)
  have B2 : Below w.heap.size w w2 := by repeat (first | (with_reducible exact Below.refl _ _) | (with_reducible refine bl_alloc ?_ _) | (with_reducible refine Below.drew ?_) | (with_reducible refine bl_drewN ?_ _) | (with_reducible refine bl_set ?_ (by omega) _) | (with_reducible refine bl_step ?_ (by assumption)))
  clear hb B1
  obtain ⟨h0, h1, h2, h3, h4, h5, h6, h7, h8, h9, h10, h11, h12, h13, h14⟩ := HO.out
  simp only [Nat.zero_add] at h1 h2 h3 h4 h5 h6 h7 h8 h9 h10 h11 h12 h13 h14
  have zo := lt_of_cell h0
  go_wp2_with fail
  clear zo h0 h1 h2 h3 h4 h5 h6 h7 h8 h9 h10 h11 h12 h13 h14
  refine (H3.out _).mono ?_
  rintro e w3 ⟨rfl, hb⟩
  replace HO := hid1 (HO.out.keep hb)
  replace HR := hid1 (HR.out.keep hb)
  have B3 : Below w.heap.size w w3 := by repeat (first | (with_reducible exact Below.refl _ _) | (with_reducible refine bl_alloc ?_ _) | (with_reducible refine Below.drew ?_) | (with_reducible refine bl_drewN ?_ _) | (with_reducible refine bl_set ?_ (by omega) _) | (with_reducible refine bl_step ?_ (by assumption)))
  have z3 := lt_of_cell HR.out.1
  clear hb B2
  obtain ⟨h0, h1, h2, h3, h4, h5, h6, h7, h8, h9, h10, h11, h12, h13, h14⟩ := HO.out
  simp only [Nat.zero_add] at h1 h2 h3 h4 h5 h6 h7 h8 h9 h10 h11 h12 h13 h14
  have zo := lt_of_cell h0
  go_wp2_with fail
  refine gen_calls (fun W' => Below w.heap.size w W' ∧ Below w3.heap.size w3 W' ∧ Hid (Fy W' w3.heap.size p q)) ⟨by repeat (first | (with_reducible exact Below.refl _ _) | (with_reducible refine bl_alloc ?_ _) | (with_reducible refine Below.drew ?_) | (with_reducible refine bl_drewN ?_ _) | (with_reducible refine bl_set ?_ (by omega) _) | (with_reducible refine bl_step ?_ (by assumption))), by repeat (first | (with_reducible exact Below.refl _ _) | (with_reducible refine bl_alloc ?_ _) | (with_reducible refine Below.drew ?_) | (with_reducible refine bl_drewN ?_ _) | (with_reducible refine bl_set ?_ (by omega) _) | (with_reducible refine bl_step ?_ (by assumption))), hid1 (fy_new rfl)⟩ ?_
  rintro W3 ⟨C3, bb, HA⟩
  replace HO := hid1 (HO.out.keep bb)
  replace HR := hid1 (HR.out.keep bb)
  clear bb B3 zo h0 h1 h2 h3 h4 h5 h6 h7 h8 h9 h10 h11 h12 h13 h14
  refine (H4.out _).mono ?_
  rintro e w4 ⟨rfl, hb⟩
  replace HO := hid1 (HO.out.keep hb)
  replace HR := hid1 (HR.out.keep hb)
  replace HA := hid1 (HA.out.keep hb)
  have B4 : Below w.heap.size w w4 := by repeat (first | (with_reducible exact Below.refl _ _) | (with_reducible refine bl_alloc ?_ _) | (with_reducible refine Below.drew ?_) | (with_reducible refine bl_drewN ?_ _) | (with_reducible refine bl_set ?_ (by omega) _) | (with_reducible refine bl_step ?_ (by assumption)))
  have z4 := lt_of_cell HR.out.1
  clear hb C3
  obtain ⟨h0, h1, h2, h3, h4, h5, h6, h7, h8, h9, h10, h11, h12, h13, h14⟩ := HO.out
  simp only [Nat.zero_add] at h1 h2 h3 h4 h5 h6 h7 h8 h9 h10 h11 h12 h13 h14
  have zo := lt_of_cell h0
  go_wp2_with fail
  refine gen_calls (fun W' => Below w.heap.size w W' ∧ Below w4.heap.size w4 W' ∧ Hid (Fy W' w4.heap.size p q)) ⟨by repeat (first | (with_reducible exact Below.refl _ _) | (with_reducible refine bl_alloc ?_ _) | (with_reducible refine Below.drew ?_) | (with_reducible refine bl_drewN ?_ _) | (with_reducible refine bl_set ?_ (by omega) _) | (with_reducible refine bl_step ?_ (by assumption))), by repeat (first | (with_reducible exact Below.refl _ _) | (with_reducible refine bl_alloc ?_ _) | (with_reducible refine Below.drew ?_) | (with_reducible refine bl_drewN ?_ _) | (with_reducible refine bl_set ?_ (by omega) _) | (with_reducible refine bl_step ?_ (by assumption))), hid1 (fy_new rfl)⟩ ?_
  rintro W4 ⟨C4, bb, HB⟩
  replace HO := hid1 (HO.out.keep bb)
  replace HR := hid1 (HR.out.keep bb)
  replace HA := hid1 (HA.out.keep bb)
  clear bb B4 zo h0 h1 h2 h3 h4 h5 h6 h7 h8 h9 h10 h11 h12 h13 h14
  refine (H5.out _).mono ?_
  rintro e w5 ⟨rfl, hb⟩
  replace HO := hid1 (HO.out.keep hb)
  replace HR := hid1 (HR.out.keep hb)
  replace HA := hid1 (HA.out.keep hb)
  replace HB := hid1 (HB.out.keep hb)
  have B5 : Below w.heap.size w w5 := by repeat (first | (with_reducible exact Below.refl _ _) | (with_reducible refine bl_alloc ?_ _) | (with_reducible refine Below.drew ?_) | (with_reducible refine bl_drewN ?_ _) | (with_reducible refine bl_set ?_ (by omega) _) | (with_reducible refine bl_step ?_ (by assumption)))
  clear hb C4
  obtain ⟨h0, h1, h2, h3, h4, h5, h6, h7, h8, h9, h10, h11, h12, h13, h14⟩ := HO.out
  simp only [Nat.zero_add] at h1 h2 h3 h4 h5 h6 h7 h8 h9 h10 h11 h12 h13 h14
  have zo := lt_of_cell h0
  go_wp2_with fail
  clear zo h0 h1 h2 h3 h4 h5 h6 h7 h8 h9 h10 h11 h12 h13 h14
  refine (H6.out _).mono ?_
  rintro e w6 ⟨rfl, hb⟩
  replace HO := hid1 (HO.out.keep hb)
  replace HR := hid1 (HR.out.keep hb)
  replace HA := hid1 (HA.out.keep hb)
  replace HB := hid1 (HB.out.keep hb)
  have B6 : Below w.heap.size w w6 := by repeat (first | (with_reducible exact Below.refl _ _) | (with_reducible refine bl_alloc ?_ _) | (with_reducible refine Below.drew ?_) | (with_reducible refine bl_drewN ?_ _) | (with_reducible refine bl_set ?_ (by omega) _) | (with_reducible refine bl_step ?_ (by assumption)))
  clear hb B5
  obtain ⟨r0, r1, r2, r3⟩ := HR.out
  obtain ⟨x0, x1, _, _⟩ := HA.out
  obtain ⟨y0, y1, _, _⟩ := HB.out
  have zr := lt_of_cell r0
  go_wp2_with fail
  have n3 := Nat.ne_of_lt z3
  have n4 := Nat.ne_of_lt z4
  have n3' := Nat.ne_of_gt z3
  have n4' := Nat.ne_of_gt z4
  go_region_held3 (fun X => X.cell? ⟨w3.heap.size, 0, none⟩ = some (.int .i64 p) ∧ X.cell? ⟨w3.heap.size, 1, none⟩ = some (.int .i64 q) ∧ X.cell? ⟨w4.heap.size, 0, none⟩ = some (.int .i64 p) ∧ X.cell? ⟨w4.heap.size, 1, none⟩ = some (.int .i64 q)) (((try dsimp only); simp [go_sem, *]; done)) (fail)
  all_goals go_wp2
  all_goals simp [bodyPost, results, Tryd.results26, go_sem, *]
  all_goals repeat (first | (with_reducible exact Below.refl _ _) | (with_reducible refine bl_alloc ?_ _) | (with_reducible refine Below.drew ?_) | (with_reducible refine bl_drewN ?_ _) | (with_reducible refine bl_set ?_ (by omega) _) | (with_reducible refine bl_step ?_ (by assumption)))
set_option maxHeartbeats 3200000 in
set_option maxRecDepth 100000 in
theorem stexts_any (k fn fd gn gd a1 a2 a3 a4 a5 a6 a7 a8 x : Int) (s : ByteArray) (hs : s.size ≤ 281474976710656) (w : World) (L : LaidB w) :
    Calls Tryd.prog 28 #[opv k fn fd gn gd a1 a2 a3 a4 a5 a6 a7 a8 x s] w fun e w' => ∃ p q : Int, e = .returned (.tuple #[fr p q, .bool true]) ∧ Below w.heap.size w w' := by
  obtain ⟨t, et, g1, g2⟩ := both_show fn fd
  obtain ⟨p, q, er, g3, g4⟩ := both_read s hs
  have H1 := hid1 g1
  have H2 := hid1 g2
  have H3 := hid1 g3
  have H4 := hid1 g4
  have HL := hid1 L
  clear g1 g2 g3 g4 hs L
  go_enter Tryd.func28, Tryd.ntmps28
  go_wp2_with fail
  refine gen_calls (fun W' => Below w.heap.size w W' ∧ Hid (Oc W' w.heap.size 0 k fn fd gn gd a1 a2 a3 a4 a5 a6 a7 a8 x s) ∧ Hid (Fy W' (w.heap.size + 1) 0 0)) ⟨by repeat (first | (with_reducible exact Below.refl _ _) | (with_reducible refine bl_alloc ?_ _) | (with_reducible refine Below.drew ?_) | (with_reducible refine bl_drewN ?_ _) | (with_reducible refine bl_set ?_ (by omega) _) | (with_reducible refine bl_step ?_ (by assumption))), hid1 (Oc.keep (oc_new rfl) (bl_alloc (Below.refl _ _) _)), hid1 (fy_new (by simp))⟩ ?_
  rintro W ⟨B0, HO, HR⟩
  refine (H1.out _ (HL.out.on B0).pow).mono ?_
  rintro e w1 ⟨rfl, hb⟩
  replace HO := hid1 (HO.out.keep hb)
  replace HR := hid1 (HR.out.keep hb)
  have B1 : Below w.heap.size w w1 := by repeat (first | (with_reducible exact Below.refl _ _) | (with_reducible refine bl_alloc ?_ _) | (with_reducible refine Below.drew ?_) | (with_reducible refine bl_drewN ?_ _) | (with_reducible refine bl_set ?_ (by omega) _) | (with_reducible refine bl_step ?_ (by assumption)))
  clear hb B0
  obtain ⟨h0, h1, h2, h3, h4, h5, h6, h7, h8, h9, h10, h11, h12, h13, h14⟩ := HO.out
  simp only [Nat.zero_add] at h1 h2 h3 h4 h5 h6 h7 h8 h9 h10 h11 h12 h13 h14
  have zo := lt_of_cell h0
  go_wp2_with fail
  clear zo h0 h1 h2 h3 h4 h5 h6 h7 h8 h9 h10 h11 h12 h13 h14
  refine (H2.out _).mono ?_
  rintro e w2 ⟨rfl, hb⟩
  replace HO := hid1 (HO.out.keep hb)
  replace HR := hid1 (HR.out.keep hb)
  have B2 : Below w.heap.size w w2 := by repeat (first | (with_reducible exact Below.refl _ _) | (with_reducible refine bl_alloc ?_ _) | (with_reducible refine Below.drew ?_) | (with_reducible refine bl_drewN ?_ _) | (with_reducible refine bl_set ?_ (by omega) _) | (with_reducible refine bl_step ?_ (by assumption)))
  clear hb B1
  obtain ⟨h0, h1, h2, h3, h4, h5, h6, h7, h8, h9, h10, h11, h12, h13, h14⟩ := HO.out
  simp only [Nat.zero_add] at h1 h2 h3 h4 h5 h6 h7 h8 h9 h10 h11 h12 h13 h14
  have zo := lt_of_cell h0
  go_wp2_with fail
  clear zo h0 h1 h2 h3 h4 h5 h6 h7 h8 h9 h10 h11 h12 h13 h14
  refine (H3.out _ (HL.out.on B2)).mono ?_
  rintro e w3 ⟨rfl, hb⟩
  replace HO := hid1 (HO.out.keep hb)
  replace HR := hid1 (HR.out.keep hb)
  have B3 : Below w.heap.size w w3 := by repeat (first | (with_reducible exact Below.refl _ _) | (with_reducible refine bl_alloc ?_ _) | (with_reducible refine Below.drew ?_) | (with_reducible refine bl_drewN ?_ _) | (with_reducible refine bl_set ?_ (by omega) _) | (with_reducible refine bl_step ?_ (by assumption)))
  have z3 := lt_of_cell HR.out.1
  clear hb B2
  obtain ⟨h0, h1, h2, h3, h4, h5, h6, h7, h8, h9, h10, h11, h12, h13, h14⟩ := HO.out
  simp only [Nat.zero_add] at h1 h2 h3 h4 h5 h6 h7 h8 h9 h10 h11 h12 h13 h14
  have zo := lt_of_cell h0
  go_wp2_with fail
  refine gen_calls (fun W' => Below w.heap.size w W' ∧ Below w3.heap.size w3 W' ∧ Hid (Fy W' w3.heap.size p q)) ⟨by repeat (first | (with_reducible exact Below.refl _ _) | (with_reducible refine bl_alloc ?_ _) | (with_reducible refine Below.drew ?_) | (with_reducible refine bl_drewN ?_ _) | (with_reducible refine bl_set ?_ (by omega) _) | (with_reducible refine bl_step ?_ (by assumption))), by repeat (first | (with_reducible exact Below.refl _ _) | (with_reducible refine bl_alloc ?_ _) | (with_reducible refine Below.drew ?_) | (with_reducible refine bl_drewN ?_ _) | (with_reducible refine bl_set ?_ (by omega) _) | (with_reducible refine bl_step ?_ (by assumption))), hid1 (fy_new rfl)⟩ ?_
  rintro W3 ⟨C3, bb, HA⟩
  replace HO := hid1 (HO.out.keep bb)
  replace HR := hid1 (HR.out.keep bb)
  clear bb B3 zo h0 h1 h2 h3 h4 h5 h6 h7 h8 h9 h10 h11 h12 h13 h14
  refine (H4.out _).mono ?_
  rintro e w4 ⟨rfl, hb⟩
  replace HO := hid1 (HO.out.keep hb)
  replace HR := hid1 (HR.out.keep hb)
  replace HA := hid1 (HA.out.keep hb)
  have B4 : Below w.heap.size w w4 := by repeat (first | (with_reducible exact Below.refl _ _) | (with_reducible refine bl_alloc ?_ _) | (with_reducible refine Below.drew ?_) | (with_reducible refine bl_drewN ?_ _) | (with_reducible refine bl_set ?_ (by omega) _) | (with_reducible refine bl_step ?_ (by assumption)))
  have z4 := lt_of_cell HR.out.1
  clear hb C3
  have zH := B4.size
  obtain ⟨r0, r1, r2, r3⟩ := HR.out
  obtain ⟨x0, x1, _, _⟩ := HA.out
  have zr := lt_of_cell r0
  have zx := lt_of_cell x0
  go_upto_region 5 with fail
  refine gen_world (fun W' => Below w.heap.size w W' ∧ Hid (Fy W' (w.heap.size + 1) 0 0) ∧ Hid (Fy W' w3.heap.size p q) ∧ Hid (Fy W' w4.heap.size p q)) ⟨by repeat (first | (with_reducible exact Below.refl _ _) | (with_reducible refine bl_alloc ?_ _) | (with_reducible refine Below.drew ?_) | (with_reducible refine bl_drewN ?_ _) | (with_reducible refine bl_set ?_ (by omega) _) | (with_reducible refine bl_step ?_ (by assumption))), hid1 (HR.out.keep (by repeat (first | (with_reducible exact Below.refl _ _) | (with_reducible refine bl_alloc ?_ _) | (with_reducible refine Below.drew ?_) | (with_reducible refine bl_drewN ?_ _) | (with_reducible refine bl_set ?_ (by omega) _) | (with_reducible refine bl_step ?_ (by assumption))))), hid1 (HA.out.keep (by repeat (first | (with_reducible exact Below.refl _ _) | (with_reducible refine bl_alloc ?_ _) | (with_reducible refine Below.drew ?_) | (with_reducible refine bl_drewN ?_ _) | (with_reducible refine bl_set ?_ (by omega) _) | (with_reducible refine bl_step ?_ (by assumption))))), hid1 (fy_new rfl)⟩ ?_
  clear r0 r1 r2 r3 x0 x1 zr zx HR HA
  rintro W5 ⟨B5, HR, HA, HB⟩
  obtain ⟨r0, r1, r2, r3⟩ := HR.out
  obtain ⟨x0, x1, _, _⟩ := HA.out
  obtain ⟨y0, y1, _, _⟩ := HB.out
  have zr := lt_of_cell r0
  have n3 := Nat.ne_of_lt z3
  have n4 := Nat.ne_of_lt z4
  have n3' := Nat.ne_of_gt z3
  have n4' := Nat.ne_of_gt z4
  go_region_held3 (fun X => X.cell? ⟨w3.heap.size, 0, none⟩ = some (.int .i64 p) ∧ X.cell? ⟨w3.heap.size, 1, none⟩ = some (.int .i64 q) ∧ X.cell? ⟨w4.heap.size, 0, none⟩ = some (.int .i64 p) ∧ X.cell? ⟨w4.heap.size, 1, none⟩ = some (.int .i64 q)) (((try dsimp only); simp [go_sem, *]; done)) (fail)
  all_goals go_wp2
  all_goals simp [bodyPost, results, Tryd.results28, go_sem, *]
  all_goals repeat (first | (with_reducible exact Below.refl _ _) | (with_reducible refine bl_alloc ?_ _) | (with_reducible refine Below.drew ?_) | (with_reducible refine bl_drewN ?_ _) | (with_reducible refine bl_set ?_ (by omega) _) | (with_reducible refine bl_step ?_ (by assumption)))
end Go.Proofs.YtboabgjgcnkelabDoor
/- A STEP, WHATEVER ITS KIND. -/
namespace Go.Proofs.YtboabgjgcnkelabDoor
open Go.RowKit Go.Shelf
attribute [local go_sem ↓] Go.wp_at_zero Go.wp_at_succ

set_option maxHeartbeats 3200000 in
set_option maxRecDepth 100000 in
theorem plays1 (k fn fd gn gd a1 a2 a3 a4 a5 a6 a7 a8 x ln ld : Int) (s : ByteArray) (hk : k = 1) (hs : s.size ≤ 281474976710656) (w : World) (L : LaidB w) :
    Calls Tryd.prog 12 #[opv k fn fd gn gd a1 a2 a3 a4 a5 a6 a7 a8 x s, fr ln ld] w fun e w' => ∃ p q : Int, e = .returned (.tuple #[fr p q, .bool true]) ∧ Below w.heap.size w w' := by
  have HL := hid1 L
  have HZ := hid1 hs
  clear L hs
  subst hk
  go_enter Tryd.func12, Tryd.ntmps12
  go_wp2_with fail
  refine gen_calls (fun W' => Below w.heap.size w W' ∧ Hid (Oc W' w.heap.size 0 1 fn fd gn gd a1 a2 a3 a4 a5 a6 a7 a8 x s) ∧ Hid (Fy W' (w.heap.size + 1) ln ld) ∧ Hid (Fy W' (w.heap.size + 1 + 1) 0 0)) ⟨by repeat (first | (with_reducible exact Below.refl _ _) | (with_reducible refine bl_alloc ?_ _) | (with_reducible refine Below.drew ?_) | (with_reducible refine bl_drewN ?_ _) | (with_reducible refine bl_set ?_ (by omega) _) | (with_reducible refine bl_step ?_ (by assumption))), hid1 (Oc.keep (oc_new rfl) (bl_alloc (bl_alloc (Below.refl _ _) _) _)), hid1 (Fy.keep (fy_new (by simp)) (bl_alloc (Below.refl _ _) _)), hid1 (fy_new (by simp))⟩ ?_
  rintro W ⟨B0, HO, HF, HR⟩
  refine (sfracs_any 1 fn fd gn gd a1 a2 a3 a4 a5 a6 a7 a8 x s _).mono ?_
  rintro e w1 ⟨rfl, hb⟩
  replace HR := hid1 (HR.out.keep hb)
  have B1 : Below w.heap.size w w1 := by repeat (first | (with_reducible exact Below.refl _ _) | (with_reducible refine bl_alloc ?_ _) | (with_reducible refine Below.drew ?_) | (with_reducible refine bl_drewN ?_ _) | (with_reducible refine bl_set ?_ (by omega) _) | (with_reducible refine bl_step ?_ (by assumption)))
  obtain ⟨r0, r1, r2, r3⟩ := HR.out
  have zr := lt_of_cell r0
  go_wp2
  simp [bodyPost, results, Tryd.results12, go_sem, *]
  repeat (first | (with_reducible exact Below.refl _ _) | (with_reducible refine bl_alloc ?_ _) | (with_reducible refine Below.drew ?_) | (with_reducible refine bl_drewN ?_ _) | (with_reducible refine bl_set ?_ (by omega) _) | (with_reducible refine bl_step ?_ (by assumption)))
set_option maxHeartbeats 3200000 in
set_option maxRecDepth 100000 in
theorem plays3 (k fn fd gn gd a1 a2 a3 a4 a5 a6 a7 a8 x ln ld : Int) (s : ByteArray) (hk : k = 3) (hs : s.size ≤ 281474976710656) (w : World) (L : LaidB w) :
    Calls Tryd.prog 12 #[opv k fn fd gn gd a1 a2 a3 a4 a5 a6 a7 a8 x s, fr ln ld] w fun e w' => ∃ p q : Int, e = .returned (.tuple #[fr p q, .bool true]) ∧ Below w.heap.size w w' := by
  have HL := hid1 L
  have HZ := hid1 hs
  clear L hs
  subst hk
  go_enter Tryd.func12, Tryd.ntmps12
  go_wp2_with fail
  refine gen_calls (fun W' => Below w.heap.size w W' ∧ Hid (Oc W' w.heap.size 0 3 fn fd gn gd a1 a2 a3 a4 a5 a6 a7 a8 x s) ∧ Hid (Fy W' (w.heap.size + 1) ln ld) ∧ Hid (Fy W' (w.heap.size + 1 + 1) 0 0)) ⟨by repeat (first | (with_reducible exact Below.refl _ _) | (with_reducible refine bl_alloc ?_ _) | (with_reducible refine Below.drew ?_) | (with_reducible refine bl_drewN ?_ _) | (with_reducible refine bl_set ?_ (by omega) _) | (with_reducible refine bl_step ?_ (by assumption))), hid1 (Oc.keep (oc_new rfl) (bl_alloc (bl_alloc (Below.refl _ _) _) _)), hid1 (Fy.keep (fy_new (by simp)) (bl_alloc (Below.refl _ _) _)), hid1 (fy_new (by simp))⟩ ?_
  rintro W ⟨B0, HO, HF, HR⟩
  refine (stexts_any 3 fn fd gn gd a1 a2 a3 a4 a5 a6 a7 a8 x s HZ.out _ (HL.out.on B0)).mono ?_
  rintro e w1 ⟨p, q, rfl, hb⟩
  replace HR := hid1 (HR.out.keep hb)
  have B1 : Below w.heap.size w w1 := by repeat (first | (with_reducible exact Below.refl _ _) | (with_reducible refine bl_alloc ?_ _) | (with_reducible refine Below.drew ?_) | (with_reducible refine bl_drewN ?_ _) | (with_reducible refine bl_set ?_ (by omega) _) | (with_reducible refine bl_step ?_ (by assumption)))
  obtain ⟨r0, r1, r2, r3⟩ := HR.out
  have zr := lt_of_cell r0
  go_wp2
  simp [bodyPost, results, Tryd.results12, go_sem, *]
  repeat (first | (with_reducible exact Below.refl _ _) | (with_reducible refine bl_alloc ?_ _) | (with_reducible refine Below.drew ?_) | (with_reducible refine bl_drewN ?_ _) | (with_reducible refine bl_set ?_ (by omega) _) | (with_reducible refine bl_step ?_ (by assumption)))
set_option maxHeartbeats 3200000 in
set_option maxRecDepth 100000 in
theorem plays2 (k fn fd gn gd a1 a2 a3 a4 a5 a6 a7 a8 x ln ld : Int) (s : ByteArray) (hk : k = 2) (hs : s.size ≤ 281474976710656) (w : World) (L : LaidB w) :
    Calls Tryd.prog 12 #[opv k fn fd gn gd a1 a2 a3 a4 a5 a6 a7 a8 x s, fr ln ld] w fun e w' => ∃ p q : Int, e = .returned (.tuple #[fr p q, .bool true]) ∧ Below w.heap.size w w' := by
  have HL := hid1 L
  have HZ := hid1 hs
  clear L hs
  subst hk
  go_enter Tryd.func12, Tryd.ntmps12
  go_upto_region 5 with fail
  refine gen_world (fun W' => Below w.heap.size w W' ∧ Hid (Oc W' w.heap.size 0 2 fn fd gn gd a1 a2 a3 a4 a5 a6 a7 a8 x s) ∧ Hid (Fy W' (w.heap.size + 1) ln ld) ∧ Hid (Fy W' (w.heap.size + 1 + 1) 0 0)) ⟨by repeat (first | (with_reducible exact Below.refl _ _) | (with_reducible refine bl_alloc ?_ _) | (with_reducible refine Below.drew ?_) | (with_reducible refine bl_drewN ?_ _) | (with_reducible refine bl_set ?_ (by omega) _) | (with_reducible refine bl_step ?_ (by assumption))), hid1 (Oc.keep (oc_new rfl) (bl_alloc (bl_alloc (Below.refl _ _) _) _)), hid1 (Fy.keep (fy_new (by simp)) (bl_alloc (Below.refl _ _) _)), hid1 (fy_new (by simp))⟩ ?_
  rintro W ⟨B0, HO, HF, HR⟩
  obtain ⟨h0, h1, h2, h3, h4, h5, h6, h7, h8, h9, h10, h11, h12, h13, h14⟩ := HO.out
  simp only [Nat.zero_add] at h1 h2 h3 h4 h5 h6 h7 h8 h9 h10 h11 h12 h13 h14
  obtain ⟨l0, l1, _, _⟩ := HF.out
  obtain ⟨r0, r1, r2, r3⟩ := HR.out
  have zr := lt_of_cell r0
  go_region_held3 (fun X => X.cell? ⟨w.heap.size, 0, none⟩ = some (.int .i64 2) ∧ X.cell? ⟨w.heap.size, 1, none⟩ = some (.int .i64 fn) ∧ X.cell? ⟨w.heap.size, 2, none⟩ = some (.int .i64 fd) ∧ X.cell? ⟨w.heap.size, 3, none⟩ = some (.int .i64 gn) ∧ X.cell? ⟨w.heap.size, 4, none⟩ = some (.int .i64 gd) ∧ X.cell? ⟨w.heap.size, 5, none⟩ = some (.int .i64 a1) ∧ X.cell? ⟨w.heap.size, 6, none⟩ = some (.int .i64 a2) ∧ X.cell? ⟨w.heap.size, 7, none⟩ = some (.int .i64 a3) ∧ X.cell? ⟨w.heap.size, 8, none⟩ = some (.int .i64 a4) ∧ X.cell? ⟨w.heap.size, 9, none⟩ = some (.int .i64 a5) ∧ X.cell? ⟨w.heap.size, 10, none⟩ = some (.int .i64 a6) ∧ X.cell? ⟨w.heap.size, 11, none⟩ = some (.int .i64 a7) ∧ X.cell? ⟨w.heap.size, 12, none⟩ = some (.int .i64 a8) ∧ X.cell? ⟨w.heap.size, 13, none⟩ = some (.int .i64 x) ∧ X.cell? ⟨w.heap.size, 14, none⟩ = some (.string s) ∧ X.cell? ⟨w.heap.size + 1, 0, none⟩ = some (.int .i64 ln) ∧ X.cell? ⟨w.heap.size + 1, 1, none⟩ = some (.int .i64 ld)) (((try dsimp only); simp [go_sem, *]; done))
    (first
      | (go_at_call 27; (with_reducible refine (snorms_any 2 fn fd gn gd a1 a2 a3 a4 a5 a6 a7 a8 x s _).mono ?_); rintro e w1 ⟨rfl, hb⟩; have bW : Below W.heap.size W w1 := (by repeat (first | (with_reducible exact Below.refl _ _) | (with_reducible refine bl_alloc ?_ _) | (with_reducible refine Below.drew ?_) | (with_reducible refine bl_drewN ?_ _) | (with_reducible refine bl_set ?_ (by omega) _) | (with_reducible refine bl_step ?_ (by assumption)))); have B1 : Below w.heap.size w w1 := bl_step B0 bW; obtain ⟨h0, h1, h2, h3, h4, h5, h6, h7, h8, h9, h10, h11, h12, h13, h14⟩ := HO.out.keep bW; simp only [Nat.zero_add] at h1 h2 h3 h4 h5 h6 h7 h8 h9 h10 h11 h12 h13 h14; obtain ⟨l0, l1, _, _⟩ := HF.out.keep bW; obtain ⟨r0, r1, r2, r3⟩ := HR.out.keep bW; have zr := lt_of_cell r0; clear hb bW))
  all_goals go_wp2
  all_goals simp [bodyPost, results, Tryd.results12, go_sem, *]
  all_goals repeat (first | (with_reducible exact Below.refl _ _) | (with_reducible refine bl_alloc ?_ _) | (with_reducible refine Below.drew ?_) | (with_reducible refine bl_drewN ?_ _) | (with_reducible refine bl_set ?_ (by omega) _) | (with_reducible refine bl_step ?_ (by assumption)))
set_option maxHeartbeats 3200000 in
set_option maxRecDepth 100000 in
theorem plays4 (k fn fd gn gd a1 a2 a3 a4 a5 a6 a7 a8 x ln ld : Int) (s : ByteArray) (hk : k = 4) (hs : s.size ≤ 281474976710656) (w : World) (L : LaidB w) :
    Calls Tryd.prog 12 #[opv k fn fd gn gd a1 a2 a3 a4 a5 a6 a7 a8 x s, fr ln ld] w fun e w' => ∃ p q : Int, e = .returned (.tuple #[fr p q, .bool true]) ∧ Below w.heap.size w w' := by
  have HL := hid1 L
  have HZ := hid1 hs
  clear L hs
  subst hk
  go_enter Tryd.func12, Tryd.ntmps12
  go_wp2_with fail
  refine gen_calls (fun W' => Below w.heap.size w W' ∧ Hid (Oc W' w.heap.size 0 4 ln ld gn gd a1 a2 a3 a4 ln ld a7 a8 x s) ∧ Hid (Fy W' (w.heap.size + 1) ln ld) ∧ Hid (Fy W' (w.heap.size + 1 + 1) 0 0)) ⟨by repeat (first | (with_reducible exact Below.refl _ _) | (with_reducible refine bl_alloc ?_ _) | (with_reducible refine Below.drew ?_) | (with_reducible refine bl_drewN ?_ _) | (with_reducible refine bl_set ?_ (by omega) _) | (with_reducible refine bl_step ?_ (by assumption))), hid1 (Oc.keep (oc_new rfl) (bl_alloc (bl_alloc (Below.refl _ _) _) _)), hid1 (Fy.keep (fy_new (by simp)) (bl_alloc (Below.refl _ _) _)), hid1 (fy_new (by simp))⟩ ?_
  rintro W ⟨B0, HO, HF, HR⟩
  refine (sfracs_any 4 ln ld gn gd a1 a2 a3 a4 ln ld a7 a8 x s _).mono ?_
  rintro e w1 ⟨rfl, hb⟩
  replace HR := hid1 (HR.out.keep hb)
  replace HO := hid1 (HO.out.keep hb)
  have B1 : Below w.heap.size w w1 := by repeat (first | (with_reducible exact Below.refl _ _) | (with_reducible refine bl_alloc ?_ _) | (with_reducible refine Below.drew ?_) | (with_reducible refine bl_drewN ?_ _) | (with_reducible refine bl_set ?_ (by omega) _) | (with_reducible refine bl_step ?_ (by assumption)))
  clear hb B0 HF
  obtain ⟨p, ep⟩ : ∃ v, rnV ln ld = v := ⟨_, rfl⟩
  obtain ⟨q, eq⟩ : ∃ v, rdV ln ld = v := ⟨_, rfl⟩
  rw [ep, eq]
  clear ep eq
  obtain ⟨h0, h1, h2, h3, h4, h5, h6, h7, h8, h9, h10, h11, h12, h13, h14⟩ := HO.out
  simp only [Nat.zero_add] at h1 h2 h3 h4 h5 h6 h7 h8 h9 h10 h11 h12 h13 h14
  have zo := lt_of_cell h0
  go_wp2_with fail
  refine gen_calls (fun W' => Below w.heap.size w W' ∧ Below w1.heap.size w1 W' ∧ Hid (Fy W' w1.heap.size p q)) ⟨by repeat (first | (with_reducible exact Below.refl _ _) | (with_reducible refine bl_alloc ?_ _) | (with_reducible refine Below.drew ?_) | (with_reducible refine bl_drewN ?_ _) | (with_reducible refine bl_set ?_ (by omega) _) | (with_reducible refine bl_step ?_ (by assumption))), by repeat (first | (with_reducible exact Below.refl _ _) | (with_reducible refine bl_alloc ?_ _) | (with_reducible refine Below.drew ?_) | (with_reducible refine bl_drewN ?_ _) | (with_reducible refine bl_set ?_ (by omega) _) | (with_reducible refine bl_step ?_ (by assumption))), hid1 (fy_new rfl)⟩ ?_
  rintro W1 ⟨C1, bb, HA⟩
  replace HR := hid1 (HR.out.keep bb)
  replace HO := hid1 (HO.out.keep bb)
  clear bb B1 zo h0 h1 h2 h3 h4 h5 h6 h7 h8 h9 h10 h11 h12 h13 h14
  refine (snorms_any 4 ln ld gn gd a1 a2 a3 a4 ln ld a7 a8 x s _).mono ?_
  rintro e w2 ⟨rfl, hb⟩
  replace HR := hid1 (HR.out.keep hb)
  replace HO := hid1 (HO.out.keep hb)
  replace HA := hid1 (HA.out.keep hb)
  have B2 : Below w.heap.size w w2 := by repeat (first | (with_reducible exact Below.refl _ _) | (with_reducible refine bl_alloc ?_ _) | (with_reducible refine Below.drew ?_) | (with_reducible refine bl_drewN ?_ _) | (with_reducible refine bl_set ?_ (by omega) _) | (with_reducible refine bl_step ?_ (by assumption)))
  clear hb C1
  obtain ⟨h0, h1, h2, h3, h4, h5, h6, h7, h8, h9, h10, h11, h12, h13, h14⟩ := HO.out
  simp only [Nat.zero_add] at h1 h2 h3 h4 h5 h6 h7 h8 h9 h10 h11 h12 h13 h14
  go_wp2_with fail
  refine (stexts_any 4 ln ld gn gd a1 a2 a3 a4 ln ld a7 a8 x s HZ.out _ (HL.out.on B2)).mono ?_
  rintro e w3 ⟨p', q', rfl, hb⟩
  replace HR := hid1 (HR.out.keep hb)
  replace HA := hid1 (HA.out.keep hb)
  have B3 : Below w.heap.size w w3 := by repeat (first | (with_reducible exact Below.refl _ _) | (with_reducible refine bl_alloc ?_ _) | (with_reducible refine Below.drew ?_) | (with_reducible refine bl_drewN ?_ _) | (with_reducible refine bl_set ?_ (by omega) _) | (with_reducible refine bl_step ?_ (by assumption)))
  clear hb B2 h0 h1 h2 h3 h4 h5 h6 h7 h8 h9 h10 h11 h12 h13 h14 HO
  obtain ⟨x0, x1, _, _⟩ := HA.out
  have zx := lt_of_cell x0
  obtain ⟨r0, r1, r2, r3⟩ := HR.out
  have zr := lt_of_cell r0
  go_wp2
  simp [bodyPost, results, Tryd.results12, go_sem, *]
  repeat (first | (with_reducible exact Below.refl _ _) | (with_reducible refine bl_alloc ?_ _) | (with_reducible refine Below.drew ?_) | (with_reducible refine bl_drewN ?_ _) | (with_reducible refine bl_set ?_ (by omega) _) | (with_reducible refine bl_step ?_ (by assumption)))
set_option maxHeartbeats 3200000 in
set_option maxRecDepth 100000 in
theorem plays0 (k fn fd gn gd a1 a2 a3 a4 a5 a6 a7 a8 x ln ld : Int) (s : ByteArray) (k1 : ¬ k = 1) (k2 : ¬ k = 2) (k3 : ¬ k = 3) (k4 : ¬ k = 4) (hs : s.size ≤ 281474976710656) (w : World) (L : LaidB w) :
    Calls Tryd.prog 12 #[opv k fn fd gn gd a1 a2 a3 a4 a5 a6 a7 a8 x s, fr ln ld] w fun e w' => ∃ p q : Int, e = .returned (.tuple #[fr p q, .bool true]) ∧ Below w.heap.size w w' := by
  have HL := hid1 L
  have HZ := hid1 hs
  clear L hs
  go_enter Tryd.func12, Tryd.ntmps12
  have j1 : (k == 1) = false := beq_false_of_ne k1
  have j2 : (k == 2) = false := beq_false_of_ne k2
  have j3 : (k == 3) = false := beq_false_of_ne k3
  have j4 : (k == 4) = false := beq_false_of_ne k4
  go_wp2
  simp [bodyPost, results, Tryd.results12, go_sem, *]
  repeat (first | (with_reducible exact Below.refl _ _) | (with_reducible refine bl_alloc ?_ _) | (with_reducible refine Below.drew ?_) | (with_reducible refine bl_drewN ?_ _) | (with_reducible refine bl_set ?_ (by omega) _) | (with_reducible refine bl_step ?_ (by assumption)))
theorem plays_any (k fn fd gn gd a1 a2 a3 a4 a5 a6 a7 a8 x ln ld : Int) (s : ByteArray) (hs : s.size ≤ 281474976710656) (w : World) (L : LaidB w) :
    Calls Tryd.prog 12 #[opv k fn fd gn gd a1 a2 a3 a4 a5 a6 a7 a8 x s, fr ln ld] w fun e w' => ∃ p q : Int, e = .returned (.tuple #[fr p q, .bool true]) ∧ Below w.heap.size w w' := by
  by_cases k1 : k = 1
  · exact plays1 _ _ _ _ _ _ _ _ _ _ _ _ _ _ _ _ s k1 hs w L
  · by_cases k2 : k = 2
    · exact plays2 _ _ _ _ _ _ _ _ _ _ _ _ _ _ _ _ s k2 hs w L
    · by_cases k3 : k = 3
      · exact plays3 _ _ _ _ _ _ _ _ _ _ _ _ _ _ _ _ s k3 hs w L
      · by_cases k4 : k = 4
        · exact plays4 _ _ _ _ _ _ _ _ _ _ _ _ _ _ _ _ s k4 hs w L
        · exact plays0 _ _ _ _ _ _ _ _ _ _ _ _ _ _ _ _ s k1 k2 k3 k4 hs w L
end Go.Proofs.YtboabgjgcnkelabDoor
/- FRACSCRIPT, WALKED. -/
namespace Go.Proofs.YtboabgjgcnkelabDoor
open Go.RowKit Go.Shelf
attribute [local go_sem ↓] Go.wp_at_zero Go.wp_at_succ

def Lop (W : World) (ao : Option Addr) (m : Nat) : Prop := ∀ j, j < m → ∃ (g o : Nat) (k fn fd gn gd a1 a2 a3 a4 a5 a6 a7 a8 x : Int) (s : ByteArray), ao = some ⟨g, o, none⟩ ∧ s.size ≤ 281474976710656 ∧ Oc W g (o + j * 15) k fn fd gn gd a1 a2 a3 a4 a5 a6 a7 a8 x s
theorem Lop.keep {W w' : World} {ao : Option Addr} {m : Nat} (h : Lop W ao m) (hb : Below W.heap.size W w') : Lop w' ao m := fun j hj => by
  obtain ⟨g, o, k, fn, fd, gn, gd, a1, a2, a3, a4, a5, a6, a7, a8, x, s, e, z, a⟩ := h j hj
  exact ⟨g, o, k, fn, fd, gn, gd, a1, a2, a3, a4, a5, a6, a7, a8, x, s, e, z, a.keep hb⟩
set_option maxHeartbeats 3200000 in
set_option maxRecDepth 100000 in
theorem fscript_walk (ao : Option Addr) (m cm : Nat) (hm : m ≤ 9223372036854775807) (w : World) (L : LaidB w) (L1 : Lop w ao m) :
    Calls Tryd.prog 5 #[.slice ao m cm] w fun e w' => e = .returned (.bool true) ∧ Below w.heap.size w w' := by
  have H1 := hid1 L1
  have HL := hid1 L
  clear L1 L
  go_enter Tryd.func5, Tryd.ntmps5
  go_wp2_with fail
  refine (fbegun_any _ HL.out.pow).mono ?_
  rintro e w1 ⟨rfl, hb1⟩
  have z1 := hb1.size
  go_wp2_with fail
  go_loopw [3, 5] (fun b i wr => ∃ (j : Nat) (p q : Int), j ≤ m ∧ b = .bool true ∧ i = .int .i64 j ∧ Hid (Fy wr w1.heap.size p q) ∧ Below w.heap.size w wr) (fun _ i _ => m - (intOf i).toNat)
  case atStart => exact ⟨0, 0, 0, Nat.zero_le _, rfl, rfl, hid1 (fy_new rfl), by repeat (first | (with_reducible exact Below.refl _ _) | (with_reducible refine bl_alloc ?_ _) | (with_reducible refine Below.drew ?_) | (with_reducible refine bl_drewN ?_ _) | (with_reducible refine bl_set ?_ (by omega) _) | (with_reducible refine bl_step ?_ (by assumption)))⟩
  case round =>
    obtain ⟨j, p, q, hj, rfl, rfl, HF, hnx⟩ := hrel
    rename World => V
    have ii0 : (0 : Int) ≤ (j : Int) := by omega
    by_cases hli : j < m
    · have ii : (j : Int) < (m : Int) := by omega
      obtain ⟨g, o, k, fn, fd, gn, gd, a1, a2, a3, a4, a5, a6, a7, a8, x, s, rfl, hs, hO⟩ := (H1.out.keep hnx) j hli
      have HP := hid1 (plays_any k fn fd gn gd a1 a2 a3 a4 a5 a6 a7 a8 x p q s hs)
      have HO := hid1 hO
      clear hO hs
      obtain ⟨h0, h1, h2, h3, h4, h5, h6, h7, h8, h9, h10, h11, h12, h13, h14⟩ := HO.out
      obtain ⟨f0, f1, f2, f3⟩ := HF.out
      have zf := lt_of_cell f0
      go_wp2_with fail
      go_region_with (first
        | (go_at_call 12; refine (HP.out _ (HL.out.on (by repeat (first | (with_reducible exact Below.refl _ _) | (with_reducible refine bl_alloc ?_ _) | (with_reducible refine Below.drew ?_) | (with_reducible refine bl_drewN ?_ _) | (with_reducible refine bl_set ?_ (by omega) _) | (with_reducible refine bl_step ?_ (by assumption)))))).mono ?_; rintro e x1 ⟨p', q', rfl, hb⟩; have bV : Below V.heap.size V x1 := (by repeat (first | (with_reducible exact Below.refl _ _) | (with_reducible refine bl_alloc ?_ _) | (with_reducible refine Below.drew ?_) | (with_reducible refine bl_drewN ?_ _) | (with_reducible refine bl_set ?_ (by omega) _) | (with_reducible refine bl_step ?_ (by assumption)))); obtain ⟨f0, f1, f2, f3⟩ := HF.out.keep bV; have zf := lt_of_cell f0; have hnx2 : Below w.heap.size w x1 := bl_step hnx bV; clear hb))
      all_goals
        go_wp2_with fail
        refine ⟨⟨j + 1, p', q', by omega, rfl, by go_num, ?_, ?_⟩, by simp [intOf]; omega⟩
        · exact hid1 ⟨by simp [go_sem, *], by simp [go_sem, *], by simp [go_sem, *], by simp [go_sem, *]⟩
        · repeat (first | (with_reducible exact Below.refl _ _) | (with_reducible refine bl_alloc ?_ _) | (with_reducible refine Below.drew ?_) | (with_reducible refine bl_drewN ?_ _) | (with_reducible refine bl_set ?_ (by omega) _) | (with_reducible refine bl_step ?_ (by assumption)))
    · have : j = m := by omega
      subst this
      go_wp2
      go_ret
      exact ⟨rfl, hnx⟩
end Go.Proofs.YtboabgjgcnkelabDoor
/-
  WHAT EVERY ROW OF THIS SEAT WANTS: the listed variables, the start that fits, fractions and norms as parameters.
-/
namespace Go.Proofs.YtboabgjgcnkelabDoor
open Go.ChangeShapes Go.WideShapes Go.ChangeAt Go.RowKit

theorem own : ownKnob Tryd.prog.godebug = none := by kernel_rfl
theorem laidOut : laidOutB Tryd.prog = true := by kernel_rfl
def laidL : List (String × DataW Unit) := [("math/bits.deBruijn32tab", Rows.laid_math_bits_deBruijn32tab), ("math/bits.deBruijn64tab", Rows.laid_math_bits_deBruijn64tab), ("internal/strconv.uint64pow10", Rows.laid_internal_strconv_uint64pow10), ("strconv.ErrRange", Rows.laid_strconv_ErrRange), ("strconv.ErrSyntax", Rows.laid_strconv_ErrSyntax)]
theorem door_met (os : Os) (args : Array Value) : laidMetH Tryd.prog laidL ((World.doorLaid Tryd.prog 400 os).forCall (fun _ _ => 0) ⟨#[], args, []⟩).memory :=
  laidMetH_of_parts3 (fuel := 8) (laidMet_of_run' 8 (by kernel_rfl) (by kernel_rfl)) (by kernel_rfl) (by kernel_rfl)
theorem only_pow : laidL.filter (fun x => x.1 == "internal/strconv.uint64pow10") = [("internal/strconv.uint64pow10", Lib.tabData .u64 Lib.pow10Tab)] := by kernel_rfl
theorem tyPow : (Tryd.prog.globals[0]?).map (·.type) = some 117 := by kernel_rfl
theorem cells_u64 : Tryd.prog.cellsOf 67 = 1 := by kernel_rfl
theorem cells_tab : Tryd.prog.cellsOf 117 = 20 := by kernel_rfl
theorem pow_laid {W : World} (h : laidMetH Tryd.prog laidL W) : LaidP W := by
  rw [MakeChecks.laidMetH_plain _ _ _ (by kernel_rfl)] at h
  have h1 := h.filter (fun x => x.1 == "internal/strconv.uint64pow10")
  rw [only_pow] at h1
  exact Lib.tabIs_of_head hgPow tyPow Tryd.underlying117 Tryd.underlying67 cells_u64 cells_tab h1
theorem fld {H : Type} {enc : TypeId × Value → H} {P : Program} {w : World} {base : Nat} {sp : Nat → Bool} {held : Bool} {t : TypeId} {fs : Array Field} {fuel : Nat} {cs : List Value} {x : DataW H × List MemPlace}
    (ht : P.underlying t = some (.struct fs)) (h : DataW.trod enc P w base sp held fuel t cs = some x) (i : Nat) (f : Field) (hi : fs[i]? = some f) :
    ∃ n y, DataW.trod enc P w base sp held n f.type ((cs.drop f.offset).take (P.cellsOf f.type)) = some y := by
  obtain ⟨xs, n, _, _, _, hxl, hf⟩ := DataW.trod_struct ht h
  have g := hf i f hi
  have hlt : i < xs.length := by
    rw [hxl]
    exact (Array.getElem?_eq_some_iff.1 hi).1
  rw [List.getElem?_eq_getElem hlt] at g
  exact ⟨n, _, g⟩
theorem fldI {H : Type} {enc : TypeId × Value → H} {P : Program} {w : World} {base : Nat} {sp : Nat → Bool} {held : Bool} {t : TypeId} {fs : Array Field} {fuel : Nat} {cs : List Value} {x : DataW H × List MemPlace}
    (ht : P.underlying t = some (.struct fs)) (h : DataW.trod enc P w base sp held fuel t cs = some x) (i : Nat) (f : Field) (hi : fs[i]? = some f) (hu : P.underlying f.type = some (.int .i64)) (hc : P.cellsOf f.type = 1) :
    ∃ z : Int, (cs.drop f.offset).take 1 = [.int .i64 z] := by
  obtain ⟨n, y, g⟩ := fld ht h i f hi
  rw [hc] at g
  obtain ⟨z, e, _⟩ := DataW.trod_int hu g
  exact ⟨z, e⟩
theorem cells_i64 : Tryd.prog.cellsOf 2 = 1 := by kernel_rfl
theorem cells_frac : Tryd.prog.cellsOf 23 = 2 := by kernel_rfl
theorem cells_norm : Tryd.prog.cellsOf 39 = 8 := by kernel_rfl
theorem len2 {l : List Value} (h : l.length = 2) : ∃ a b, l = [a, b] := by
  match l, h with
  | [a, b], _ => exact ⟨a, b, rfl⟩
theorem len8 {l : List Value} (h : l.length = 8) : ∃ a b c d e f g i, l = [a, b, c, d, e, f, g, i] := by
  match l, h with
  | [a, b, c, d, e, f, g, i], _ => exact ⟨a, b, c, d, e, f, g, i, rfl⟩
set_option maxRecDepth 100000 in
theorem frac_cells {H : Type} {enc : TypeId × Value → H} {w : World} {base : Nat} {sp : Nat → Bool} {held : Bool} {fuel : Nat} {cs : List Value} {x : DataW H × List MemPlace}
    (h : DataW.trod enc Tryd.prog w base sp held fuel 23 cs = some x) : ∃ a b : Int, cs = [.int .i64 a, .int .i64 b] := by
  have hl : cs.length = 2 := by
    obtain ⟨_, _, _, _, hlen, _, _⟩ := DataW.trod_struct Tryd.underlying23 h
    exact hlen.trans cells_frac
  obtain ⟨z0, e0⟩ := fldI Tryd.underlying23 h 0 _ rfl Tryd.underlying2 cells_i64
  obtain ⟨z1, e1⟩ := fldI Tryd.underlying23 h 1 _ rfl Tryd.underlying2 cells_i64
  obtain ⟨a, b, rfl⟩ := len2 hl
  simp at e0 e1
  subst e0 e1
  exact ⟨z0, z1, rfl⟩
theorem fldF {H : Type} {enc : TypeId × Value → H} {w : World} {base : Nat} {sp : Nat → Bool} {held : Bool} {t : TypeId} {fs : Array Field} {fuel : Nat} {cs : List Value} {x : DataW H × List MemPlace}
    (ht : Tryd.prog.underlying t = some (.struct fs)) (h : DataW.trod enc Tryd.prog w base sp held fuel t cs = some x) (i : Nat) (f : Field) (hi : fs[i]? = some f) (hu : f.type = 23) :
    ∃ a b : Int, (cs.drop f.offset).take 2 = [.int .i64 a, .int .i64 b] := by
  obtain ⟨n, y, g⟩ := fld ht h i f hi
  rw [hu, cells_frac] at g
  exact frac_cells g
set_option maxRecDepth 100000 in
theorem norm_cells {H : Type} {enc : TypeId × Value → H} {w : World} {base : Nat} {sp : Nat → Bool} {held : Bool} {fuel : Nat} {cs : List Value} {x : DataW H × List MemPlace}
    (h : DataW.trod enc Tryd.prog w base sp held fuel 39 cs = some x) :
    ∃ gn gd bn bd mn md sn sd : Int, cs = [.int .i64 gn, .int .i64 gd, .int .i64 bn, .int .i64 bd, .int .i64 mn, .int .i64 md, .int .i64 sn, .int .i64 sd] := by
  have hl : cs.length = 8 := by
    obtain ⟨_, _, _, _, hlen, _, _⟩ := DataW.trod_struct Tryd.underlying39 h
    exact hlen.trans cells_norm
  obtain ⟨a0, b0, e0⟩ := fldF Tryd.underlying39 h 0 _ rfl rfl
  obtain ⟨a1, b1, e1⟩ := fldF Tryd.underlying39 h 1 _ rfl rfl
  obtain ⟨a2, b2, e2⟩ := fldF Tryd.underlying39 h 2 _ rfl rfl
  obtain ⟨a3, b3, e3⟩ := fldF Tryd.underlying39 h 3 _ rfl rfl
  obtain ⟨a, b, c, d, e, f, g, i, rfl⟩ := len8 hl
  simp at e0 e1 e2 e3
  obtain ⟨rfl, rfl⟩ := e0
  obtain ⟨rfl, rfl⟩ := e1
  obtain ⟨rfl, rfl⟩ := e2
  obtain ⟨rfl, rfl⟩ := e3
  exact ⟨_, _, _, _, _, _, _, _, rfl⟩
set_option maxRecDepth 100000 in
theorem open_frac {H : Type} {enc : TypeId × Value → H} {W : World} {base : Nat} {v : Value} {d : DataW H} {p : List MemPlace}
    (hv : Value.okWide Tryd.prog W .any base 23 v) (h : DataW.Trod enc Tryd.prog W 0 (fun _ => true) true 23 v d p) : ∃ a b : Int, v = fr a b := by
  obtain ⟨cs, rfl, _⟩ := okWide_struct Tryd.underlying23 hv
  obtain ⟨fuel, hf⟩ := h
  obtain ⟨a, b, e⟩ := frac_cells hf
  refine ⟨a, b, ?_⟩
  simp [Value.cells] at e
  obtain ⟨l⟩ := cs
  simp at e
  subst e
  rfl
set_option maxRecDepth 100000 in
theorem open_norm {H : Type} {enc : TypeId × Value → H} {W : World} {base : Nat} {v : Value} {d : DataW H} {p : List MemPlace}
    (hv : Value.okWide Tryd.prog W .any base 39 v) (h : DataW.Trod enc Tryd.prog W 0 (fun _ => true) true 39 v d p) : ∃ gn gd bn bd mn md sn sd : Int, v = nm gn gd bn bd mn md sn sd := by
  obtain ⟨cs, rfl, _⟩ := okWide_struct Tryd.underlying39 hv
  obtain ⟨fuel, hf⟩ := h
  obtain ⟨gn, gd, bn, bd, mn, md, sn, sd, e⟩ := norm_cells hf
  refine ⟨gn, gd, bn, bd, mn, md, sn, sd, ?_⟩
  simp [Value.cells] at e
  obtain ⟨l⟩ := cs
  simp at e
  subst e
  rfl
end Go.Proofs.YtboabgjgcnkelabDoor
/- PARAMETERS THAT ARE LISTS. -/
namespace Go.Proofs.YtboabgjgcnkelabDoor
open Go.ChangeShapes Go.WideShapes Go.ChangeAt Go.RowKit
set_option maxRecDepth 100000

theorem add_at (b o n : Nat) : Addr.add ⟨b, o, none⟩ n = ⟨b, o + n, none⟩ := by
  unfold Addr.add
  by_cases h : n = 0
  · subst h; rfl
  · rw [if_neg h]
theorem und_fracs : Tryd.prog.underlying 32 = some (.slice 23) := by kernel_rfl
theorem und_i64s : Tryd.prog.underlying 84 = some (.slice 2) := by kernel_rfl
theorem max_is : maxLen = 9223372036854775807 := by decide
/-- A list at the cells of each element. -/
theorem open_list {H : Type} {enc : TypeId × Value → H} {W : World} {base : Nat} {t e : TypeId} {N : Nat} {v : Value} {d : DataW H} {p : List MemPlace} (ht : Tryd.prog.underlying t = some (.slice e)) (hN : Tryd.prog.cellsOf e = N) (hpos : 0 < N)
    (hv : Value.okWide Tryd.prog W .any base t v) (h : DataW.Trod enc Tryd.prog W 0 (fun _ => true) true t v d p) :
    ∃ (ao : Option Addr) (m cap : Nat), v = .slice ao m cap ∧ m ≤ 9223372036854775807 ∧ ∀ k, k < m → ∃ (g o n : Nat) (cs : List Value) (y : DataW H × List MemPlace), ao = some ⟨g, o, none⟩ ∧ DataW.trod enc Tryd.prog W 0 (fun _ => true) true n e cs = some y ∧ cs.length = N ∧
      ∀ j, j < N → W.cell? ⟨g, o + k * N + j, none⟩ = cs[j]? := by
  obtain ⟨a0, len, cap, rfl⟩ := okWide_slice ht hv
  obtain ⟨fuel, hf⟩ := h
  rcases Deep.open_slice ht hf with ⟨hc, hx⟩ | ⟨a, len', cap', mm, n, D, Pl, hc, _, hl, hm, hmm, hx, hcell⟩
  · simp [Value.cells] at hc
    obtain ⟨rfl, rfl, rfl⟩ := hc
    exact ⟨none, 0, 0, rfl, by omega, fun k hk => absurd hk (by omega)⟩
  · simp [Value.cells] at hc
    obtain ⟨rfl, rfl, rfl⟩ := hc
    simp only [if_true] at hmm
    refine ⟨some a, len, cap, rfl, by have := max_is; omega, fun k hk => ?_⟩
    obtain ⟨b, o, s⟩ := a
    obtain rfl : s = none := by
      obtain ⟨cs0, h0, _⟩ := hcell 0 (by omega)
      rw [hN] at h0
      obtain ⟨_, hlen, hc0⟩ := World.cells?_some h0
      have e0 := hc0 0 hpos
      rw [Deep.add_add, List.getElem?_eq_getElem (by omega)] at e0
      have := World.cell?_spot e0
      simpa [Addr.add] using this
    obtain ⟨cs, h1, h2⟩ := hcell k (by omega)
    rw [hN] at h1
    obtain ⟨_, hlen, hc1⟩ := World.cells?_some h1
    refine ⟨b, o, n, cs, _, rfl, h2, hlen, fun j hj => ?_⟩
    have := hc1 j hj
    rw [Deep.add_add, add_at, ← Nat.add_assoc] at this
    exact this
theorem open_fracs {H : Type} {enc : TypeId × Value → H} {W : World} {base : Nat} {v : Value} {d : DataW H} {p : List MemPlace}
    (hv : Value.okWide Tryd.prog W .any base 32 v) (h : DataW.Trod enc Tryd.prog W 0 (fun _ => true) true 32 v d p) :
    ∃ (ao : Option Addr) (m cap : Nat), v = .slice ao m cap ∧ m ≤ 9223372036854775807 ∧ Lfr W ao m := by
  obtain ⟨ao, m, cap, rfl, hm, hf⟩ := open_list und_fracs cells_frac (by decide) hv h
  refine ⟨ao, m, cap, rfl, hm, fun k hk => ?_⟩
  obtain ⟨g, o, n, cs, y, rfl, ht, _, hc⟩ := hf k hk
  obtain ⟨a, b, rfl⟩ := frac_cells ht
  exact ⟨g, o, a, b, rfl, hc 0 (by decide), hc 1 (by decide)⟩
theorem open_i64s {H : Type} {enc : TypeId × Value → H} {W : World} {base : Nat} {v : Value} {d : DataW H} {p : List MemPlace}
    (hv : Value.okWide Tryd.prog W .any base 84 v) (h : DataW.Trod enc Tryd.prog W 0 (fun _ => true) true 84 v d p) :
    ∃ (ao : Option Addr) (m cap : Nat), v = .slice ao m cap ∧ m ≤ 9223372036854775807 ∧ Lin W ao m := by
  obtain ⟨ao, m, cap, rfl, hm, hf⟩ := open_list und_i64s cells_i64 (by decide) hv h
  refine ⟨ao, m, cap, rfl, hm, fun k hk => ?_⟩
  obtain ⟨g, o, n, cs, y, rfl, ht, _, hc⟩ := hf k hk
  obtain ⟨x, rfl, _, _⟩ := DataW.trod_int Tryd.underlying2 ht
  have c := hc 0 (by decide)
  rw [Nat.mul_one] at c
  exact ⟨g, o, x, rfl, c⟩
end Go.Proofs.YtboabgjgcnkelabDoor
/- PARAMETERS THAT ARE LISTS OF TEXTS. -/
namespace Go.Proofs.YtboabgjgcnkelabDoor
open Go.ChangeShapes Go.WideShapes Go.ChangeAt Go.RowKit
set_option maxRecDepth 100000

theorem und_strs : Tryd.prog.underlying 33 = some (.slice 9) := by kernel_rfl
theorem cells_string : Tryd.prog.cellsOf 9 = 1 := by kernel_rfl
theorem weightsAll_mem {H : Type} {P : Program} {e : TypeId} : ∀ {l : List (DataW H)} {d : DataW H}, d ∈ l → ∀ n ∈ d.weights P e, n ∈ DataW.weightsAll P e l
  | x :: l, d, hd, n, hn => by
    rw [DataW.weightsAll, List.mem_append]
    rcases List.mem_cons.mp hd with rfl | h
    · exact Or.inl hn
    · exact Or.inr (weightsAll_mem h n hn)
theorem open_strs {H : Type} {enc : TypeId × Value → H} {W : World} {base : Nat} {v : Value} {d : DataW H} {p : List MemPlace}
    (hv : Value.okWide Tryd.prog W .any base 33 v) (h : DataW.Trod enc Tryd.prog W 0 (fun _ => true) true 33 v d p) (hz : ∀ n ∈ d.weights Tryd.prog 33, n ≤ reachBytes) :
    ∃ (ao : Option Addr) (m cap : Nat), v = .slice ao m cap ∧ m ≤ 9223372036854775807 ∧ Lst W ao m := by
  obtain ⟨a0, len, cap, rfl⟩ := okWide_slice und_strs hv
  obtain ⟨fuel, hf⟩ := h
  rcases open_strings und_strs Tryd.underlying9 cells_string hf with ⟨hc, hx⟩ | ⟨a, len', cap', ss, hc, _, hl, hm, hss, hx, hcell, _⟩
  · simp [Value.cells] at hc
    obtain ⟨rfl, rfl, rfl⟩ := hc
    exact ⟨none, 0, 0, rfl, by omega, fun k hk => absurd hk (by omega)⟩
  · simp [Value.cells] at hc
    obtain ⟨rfl, rfl, rfl⟩ := hc
    simp only [if_true] at hss
    have hd : d = .slice (strs (ss.take len)) (strs (ss.drop len)) := congrArg Prod.fst hx
    refine ⟨some a, len, cap, rfl, by have := max_is; omega, fun k hk => ?_⟩
    have hk2 : k < ss.length := by omega
    have c := hcell k hk2
    obtain ⟨b, o, s⟩ := a
    obtain rfl : s = none := by
      have c0 := hcell 0 (by omega)
      have := World.cell?_spot c0
      simpa [Addr.add] using this
    rw [add_at] at c
    have e : ss.getD k ByteArray.empty = ss[k] := by simp [List.getD, hk2]
    rw [e] at c
    refine ⟨b, o, ss[k], rfl, ?_, c⟩
    have mem : (DataW.lit (.string ss[k].data.toList) : DataW H) ∈ strs (ss.take len) := by
      unfold strs
      refine List.mem_map.mpr ⟨ss[k], ?_, rfl⟩
      rw [List.mem_take_iff_getElem]
      exact ⟨k, by omega, rfl⟩
    have w1 := hz ss[k].data.toList.length (by
      rw [hd]
      simp only [DataW.weights, und_strs]
      refine List.mem_cons_of_mem _ (List.mem_append.mpr (Or.inl ?_))
      exact weightsAll_mem mem _ (by simp [DataW.weights]))
    have e2 : ss[k].size = ss[k].data.toList.length := rfl
    rw [e2]
    exact Nat.le_trans w1 (by decide)
end Go.Proofs.YtboabgjgcnkelabDoor
/- THE TWO ERRORS THAT A NUMBER'S TEXT CAN HAVE, AS THEY LIE. -/
namespace Go.Proofs.YtboabgjgcnkelabDoor
open Go.ChangeShapes Go.WideShapes Go.ChangeAt Go.RowKit

theorem starErr : "*" ++ "errors.errorString" = "*errors.errorString" := by decide
theorem rowErr (u : TypeId) (h : Tryd.prog.typeName? 3 u = some "*errors.errorString") : u = 135 :=
  typeName_ptr_named (nm := "errors.errorString") (by rw [starErr]; kernel_rfl) (by kernel_rfl) (by decide) u (by rw [starErr]; exact h)
theorem only_syn : laidL.filter (fun x => x.1 == "strconv.ErrSyntax") = [("strconv.ErrSyntax", Rows.laid_strconv_ErrSyntax)] := by kernel_rfl
theorem only_rng : laidL.filter (fun x => x.1 == "strconv.ErrRange") = [("strconv.ErrRange", Rows.laid_strconv_ErrRange)] := by kernel_rfl
theorem gSyn : Tryd.prog.globalNamed "strconv.ErrSyntax" = some 2 := by kernel_rfl
theorem gRng : Tryd.prog.globalNamed "strconv.ErrRange" = some 3 := by kernel_rfl
theorem tySyn : (Tryd.prog.globals[2]?).map (·.type) = some 55 := by kernel_rfl
theorem tyRng : (Tryd.prog.globals[3]?).map (·.type) = some 55 := by kernel_rfl
theorem cells_es : Tryd.prog.cellsOf 137 = 1 := by kernel_rfl
theorem cells_str : Tryd.prog.cellsOf 9 = 1 := by kernel_rfl
theorem laidB_of {W : World} (h : laidMetH Tryd.prog laidL W) : LaidB W := by
  have hp := pow_laid h
  rw [MakeChecks.laidMetH_plain _ _ _ (by kernel_rfl)] at h
  have h1 := h.filter (fun x => x.1 == "strconv.ErrSyntax")
  have h2 := h.filter (fun x => x.1 == "strconv.ErrRange")
  rw [only_syn] at h1
  rw [only_rng] at h2
  obtain ⟨a1, s1, v1, _⟩ := laid_sentinel h1 gSyn tySyn Tryd.underlying55 rowErr Tryd.underlying135 Tryd.underlying137 rfl rfl Tryd.underlying9 cells_es cells_str
  obtain ⟨a2, s2, v2, _⟩ := laid_sentinel h2 gRng tyRng Tryd.underlying55 rowErr Tryd.underlying135 Tryd.underlying137 rfl rfl Tryd.underlying9 cells_es cells_str
  have c1 := World.var?_cell gSyn v1 0
  have c2 := World.var?_cell gRng v2 0
  exact ⟨hp, ⟨_, _, by simpa using c1⟩, ⟨_, _, by simpa using c2⟩⟩
end Go.Proofs.YtboabgjgcnkelabDoor
/- PARAMETERS THAT ARE SCRIPTS. -/
namespace Go.Proofs.YtboabgjgcnkelabDoor
open Go.ChangeShapes Go.WideShapes Go.ChangeAt Go.RowKit
set_option maxRecDepth 100000

theorem cells_op : Tryd.prog.cellsOf 41 = 15 := by kernel_rfl
theorem cells_int : Tryd.prog.cellsOf 3 = 1 := by kernel_rfl
theorem und_ops : Tryd.prog.underlying 35 = some (.slice 41) := by kernel_rfl
theorem len15 {l : List Value} (h : l.length = 15) : ∃ c0 c1 c2 c3 c4 c5 c6 c7 c8 c9 c10 c11 c12 c13 c14, l = [c0, c1, c2, c3, c4, c5, c6, c7, c8, c9, c10, c11, c12, c13, c14] := by
  match l, h with
  | [c0, c1, c2, c3, c4, c5, c6, c7, c8, c9, c10, c11, c12, c13, c14], _ => exact ⟨c0, c1, c2, c3, c4, c5, c6, c7, c8, c9, c10, c11, c12, c13, c14, rfl⟩
theorem fldN {H : Type} {enc : TypeId × Value → H} {w : World} {base : Nat} {sp : Nat → Bool} {held : Bool} {t : TypeId} {fs : Array Field} {fuel : Nat} {cs : List Value} {x : DataW H × List MemPlace}
    (ht : Tryd.prog.underlying t = some (.struct fs)) (h : DataW.trod enc Tryd.prog w base sp held fuel t cs = some x) (i : Nat) (f : Field) (hi : fs[i]? = some f) (hu : f.type = 39) :
    ∃ gn gd bn bd mn md sn sd : Int, (cs.drop f.offset).take 8 = [.int .i64 gn, .int .i64 gd, .int .i64 bn, .int .i64 bd, .int .i64 mn, .int .i64 md, .int .i64 sn, .int .i64 sd] := by
  obtain ⟨n, y, g⟩ := fld ht h i f hi
  rw [hu, cells_norm] at g
  exact norm_cells g
theorem fldS {H : Type} {enc : TypeId × Value → H} {w : World} {base : Nat} {sp : Nat → Bool} {held : Bool} {t : TypeId} {fs : Array Field} {fuel : Nat} {cs : List Value} {x : DataW H × List MemPlace}
    (ht : Tryd.prog.underlying t = some (.struct fs)) (h : DataW.trod enc Tryd.prog w base sp held fuel t cs = some x) (i : Nat) (f : Field) (hi : fs[i]? = some f) (hu : f.type = 9)
    (hz : ∀ n ∈ x.1.weights Tryd.prog t, n ≤ reachBytes) :
    ∃ s : ByteArray, (cs.drop f.offset).take 1 = [.string s] ∧ s.size ≤ 281474976710656 := by
  obtain ⟨xs, m, _, ex, hlen, hxl, hf⟩ := DataW.trod_struct ht h
  have g := hf i f hi
  rw [hu, cells_string] at g
  have hlt : i < xs.length := by
    rw [hxl]
    exact (Array.getElem?_eq_some_iff.1 hi).1
  rw [List.getElem?_eq_getElem hlt] at g
  obtain ⟨s, e14, exs, _⟩ := DataW.trod_string Tryd.underlying9 g
  refine ⟨s, e14, ?_⟩
  have w1 := hz s.data.toList.length (by
    rw [ex]
    simp only [DataW.weights, ht]
    refine DataW.weights_mem_each (j := i) (t := 9) (d := .lit (.string s.data.toList)) ?_ ?_ _ (by simp [DataW.weights])
    · simp [hi, hu]
    · rw [List.getElem?_map, List.getElem?_eq_getElem hlt, exs]
      rfl)
  have e2 : s.size = s.data.toList.length := rfl
  rw [e2]
  exact Nat.le_trans w1 (by decide)
theorem op_cells {H : Type} {enc : TypeId × Value → H} {w : World} {base : Nat} {sp : Nat → Bool} {held : Bool} {fuel : Nat} {cs : List Value} {y : DataW H × List MemPlace}
    (h : DataW.trod enc Tryd.prog w base sp held fuel 41 cs = some y) (hz : ∀ n ∈ y.1.weights Tryd.prog 41, n ≤ reachBytes) :
    ∃ (k fn fd gn gd a1 a2 a3 a4 a5 a6 a7 a8 x : Int) (s : ByteArray), s.size ≤ 281474976710656 ∧ cs = [.int .i64 k, .int .i64 fn, .int .i64 fd, .int .i64 gn, .int .i64 gd, .int .i64 a1, .int .i64 a2, .int .i64 a3, .int .i64 a4, .int .i64 a5, .int .i64 a6, .int .i64 a7, .int .i64 a8, .int .i64 x, .string s] := by
  obtain ⟨z0, e0⟩ := fldI Tryd.underlying41 h 0 _ rfl Tryd.underlying3 cells_int
  obtain ⟨z1, z2, e1⟩ := fldF Tryd.underlying41 h 1 _ rfl rfl
  obtain ⟨z3, z4, e3⟩ := fldF Tryd.underlying41 h 2 _ rfl rfl
  obtain ⟨b1, b2, b3, b4, b5, b6, b7, b8, e5⟩ := fldN Tryd.underlying41 h 3 _ rfl rfl
  obtain ⟨z13, e13⟩ := fldI Tryd.underlying41 h 4 _ rfl Tryd.underlying2 cells_i64
  obtain ⟨s, e14, hs⟩ := fldS Tryd.underlying41 h 5 _ rfl rfl hz
  have hl : cs.length = 15 := by
    obtain ⟨_, _, _, _, hlen, _, _⟩ := DataW.trod_struct Tryd.underlying41 h
    exact hlen.trans cells_op
  obtain ⟨c0, c1, c2, c3, c4, c5, c6, c7, c8, c9, c10, c11, c12, c13, c14, rfl⟩ := len15 hl
  simp at e0 e1 e3 e5 e13 e14
  obtain ⟨rfl, rfl⟩ := e1
  obtain ⟨rfl, rfl⟩ := e3
  obtain ⟨rfl, rfl, rfl, rfl, rfl, rfl, rfl, rfl⟩ := e5
  subst e0 e13 e14
  exact ⟨_, _, _, _, _, _, _, _, _, _, _, _, _, _, s, hs, rfl⟩
theorem open_ops {H : Type} {enc : TypeId × Value → H} {W : World} {base : Nat} {v : Value} {d : DataW H} {p : List MemPlace}
    (hv : Value.okWide Tryd.prog W .any base 35 v) (h : DataW.Trod enc Tryd.prog W 0 (fun _ => true) true 35 v d p) (hz : ∀ n ∈ d.weights Tryd.prog 35, n ≤ reachBytes) :
    ∃ (ao : Option Addr) (m cap : Nat), v = .slice ao m cap ∧ m ≤ 9223372036854775807 ∧ Lop W ao m := by
  obtain ⟨a0, len, cap, rfl⟩ := okWide_slice und_ops hv
  obtain ⟨fuel, hf⟩ := h
  rcases Deep.open_slice und_ops hf with ⟨hc, hx⟩ | ⟨a, len', cap', mm, n, D, Pl, hc, _, hl, hm, hmm, hx, hcell⟩
  · simp [Value.cells] at hc
    obtain ⟨rfl, rfl, rfl⟩ := hc
    exact ⟨none, 0, 0, rfl, by omega, fun k hk => absurd hk (by omega)⟩
  · simp [Value.cells] at hc
    obtain ⟨rfl, rfl, rfl⟩ := hc
    simp only [if_true] at hmm
    have hd : d = .slice ((List.range len).map D) ((List.range (mm - len)).map fun j => D (len + j)) := congrArg Prod.fst hx
    refine ⟨some a, len, cap, rfl, by have := max_is; omega, fun k hk => ?_⟩
    obtain ⟨b, o, sp⟩ := a
    obtain rfl : sp = none := by
      obtain ⟨cs0, h0, _⟩ := hcell 0 (by omega)
      rw [cells_op] at h0
      obtain ⟨_, hlen, hc0⟩ := World.cells?_some h0
      have e0 := hc0 0 (by decide)
      rw [Deep.add_add, List.getElem?_eq_getElem (by omega)] at e0
      have := World.cell?_spot e0
      simpa [Addr.add] using this
    obtain ⟨cs, h1, h2⟩ := hcell k (by omega)
    rw [cells_op] at h1
    obtain ⟨_, hlen, hc1⟩ := World.cells?_some h1
    have hzk : ∀ n ∈ (D k).weights Tryd.prog 41, n ≤ reachBytes := fun n hn => hz n (by
      rw [hd]
      simp only [DataW.weights, und_ops]
      refine List.mem_cons_of_mem _ (List.mem_append.mpr (Or.inl ?_))
      exact weightsAll_mem (List.mem_map.mpr ⟨k, List.mem_range.mpr hk, rfl⟩) n hn)
    obtain ⟨y0, y1, y2, y3, y4, y5, y6, y7, y8, y9, y10, y11, y12, y13, s, hs, rfl⟩ := op_cells h2 hzk
    have cc : ∀ j, j < 15 → W.cell? ⟨b, o + k * 15 + j, none⟩ = ([.int .i64 y0, .int .i64 y1, .int .i64 y2, .int .i64 y3, .int .i64 y4, .int .i64 y5, .int .i64 y6, .int .i64 y7, .int .i64 y8, .int .i64 y9, .int .i64 y10, .int .i64 y11, .int .i64 y12, .int .i64 y13, .string s] : List Value)[j]? := fun j hj => by
      have := hc1 j hj
      rw [Deep.add_add, add_at, ← Nat.add_assoc] at this
      exact this
    exact ⟨b, o, y0, y1, y2, y3, y4, y5, y6, y7, y8, y9, y10, y11, y12, y13, s, rfl, hs, cc 0 (by decide), cc 1 (by decide), cc 2 (by decide), cc 3 (by decide), cc 4 (by decide), cc 5 (by decide), cc 6 (by decide), cc 7 (by decide), cc 8 (by decide), cc 9 (by decide), cc 10 (by decide), cc 11 (by decide), cc 12 (by decide), cc 13 (by decide), cc 14 (by decide)⟩
end Go.Proofs.YtboabgjgcnkelabDoor
namespace Go.Proofs.YtboabgjgcnkelabDoor
open Go.ChangeShapes Go.WideShapes Go.ChangeAt Go.RowKit
open Go.ChangeMaps (open_string shut_string)

set_option maxRecDepth 100000 in
theorem fracScript_lifted (os : Os) (started : os.Started) (H : Type) (enc : TypeId × Value → H) :
    ReturnsInHanded {} Tryd.checked os 5 .any (fun w args => (Rows.fracScriptSpec.pre enc Tryd.prog Tryd.f5 [] false w args ∧ laidMetH Tryd.prog laidL w) ∧ sizedMet enc Tryd.prog Tryd.f5 (OpenSpec.ofChange Rows.fracScriptSpec) false w args)
      (Rows.fracScriptSpec.post enc Tryd.prog Tryd.f5 false true false false) := by
  refine returnsInHanded_of_change_and (C := Tryd.checked) (X := fun w _ => laidMetH Tryd.prog laidL w) (fun _ _ _ hh h => h.of_heap hh) own started (by kernel_rfl) Tryd.func5
    (ChangeSpec.witness_shaped (enc := enc) (C := Tryd.checked) (os := os) (X := fun w _ => laidMetH Tryd.prog laidL w) false (World.doorLaid Tryd.prog 400 os) #[.slice none 0 0] 8 rfl (World.shaped_of_RefB (by kernel_rfl) (by kernel_rfl)) (by kernel_rfl) (by kernel_rfl) (by kernel_rfl) (door_met os _)) ?_
  intro W base args ds gs before hval0 hW _ hz hL _
  have hval : ∀ (j : Nat) t v, Tryd.f5.params[j]? = some t → args[j]? = some v → Value.okWide Tryd.prog W .any base t v := hval0
  have hW' := hW
  obtain ⟨p, q, hA0, hV, rfl, hfz, hnd⟩ := hW
  have hA : DataW.TrodAll enc Tryd.prog W 0 (fun _ => true) true Tryd.f5.params.toList args.toList ds p := hA0
  rw [Tryd.params5] at hA hval hz
  obtain ⟨v0, vs0, d0, ds0, p0, q0, hargs, rfl, rfl, h0, r0⟩ := trodAll_cons hA
  obtain ⟨rfl, rfl, rfl⟩ := trodAll_nil r0
  obtain rfl : args = #[v0] := by cases args; simp_all
  obtain ⟨rfl, rfl⟩ := trodVars_none hV
  have lt0 : ∀ x ∈ p0, x.block < W.heap.size := by obtain ⟨m, hm⟩ := h0; exact DataW.trod_lt m _ _ _ hm
  have k0 := h0
  obtain ⟨ao0, m0, c0, rfl, hm0, f0⟩ := open_ops (hval 0 35 v0 rfl rfl) h0 (fun n hn => by have := List.all_eq_true.1 hz _ (DataW.weights_mem_each (j := 0) (t := 35) (d := d0) rfl rfl n hn); simpa using this)
  clear hA0 hval0
  refine (fscript_walk ao0 m0 c0 hm0 W (laidB_of hL) f0).mono fun e W' ⟨he, bel⟩ => ?_
  subst he
  exact ⟨_, rfl, _, _, _, [], _, [], hW', trodAll_mk1 (shut_bool Tryd.underlying4 _), (trodAll_cons_mk (Below.trod laidOut (by kernel_rfl) (of_decide_eq_true (by kernel_rfl)) k0 bel lt0) trodAll_mk0), rfl, bel.frame _, fun h => by cases h⟩

theorem fracScript_row : Rows.FracScriptSaid :=
  OpenClaim.holds_of_wide 5 Tryd.f5 rfl rfl rfl rfl rfl rfl rfl ⟨rfl, rfl, rfl, rfl, rfl⟩ rfl rfl rfl rfl rfl (by kernel_rfl) Tryd.func5 (by kernel_rfl)
    (of_decide_eq_true (by kernel_rfl)) (by unfold Func.isWrapper; first | (rw [if_pos (by decide +kernel)]; kernel_rfl) | (rw [if_neg (by decide +kernel)]; exact ⟨rfl, rfl⟩))
    (fun os started H enc _ => fracScript_lifted os started H enc)
set_option maxRecDepth 100000 in
theorem fracScript_holds : Rows.FracScriptCardSaid :=
  Claim7.holds_tied_plain_at .later [] [.data, .data, .data, .sentinel, .sentinel] true _ true
    fracScript_row (fun _ h => by cases h) (by kernel_rfl) (fun _ h => by cases h) fracScript_row_tie rfl ⟨rfl, rfl⟩ (by kernel_rfl) rfl
    (fun f fn hf hfn => by
      obtain rfl : f = 5 := Option.some.inj ((show Tryd.prog.funcNamed "heddle/heddlelaw4.FracScript" = some 5 by kernel_rfl).symm.trans hf) |>.symm
      obtain rfl : fn = Tryd.f5 := (Option.some.inj (Tryd.func5.symm.trans hfn)).symm
      exact ⟨by kernel_rfl, fun j t ht => by
        rw [Tryd.params5] at ht
        rcases j with _ | j
        · simp at ht; subst ht; exact (show Tryd.prog.wantsStandIn 35 = false by kernel_rfl)
        · simp at ht⟩)
    (by kernel_rfl)
#print axioms fracScript_holds
end Go.Proofs.YtboabgjgcnkelabDoor
