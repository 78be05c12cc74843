/-
  The walk of the law FnExactKeyBack out of the contracts. Conditions: the arguments read as rows and a change; the table 'creators' holds what its initialiser lays.
-/
import Derived.Test.YtdokfpmdeggicaaDoorJSKeyBack2
import Derived.Test.YtdokfpmdeggicaaDoorGM
import Derived.Test.YtdokfpmdeggicaaDoorJLTreeOk
import Derived.Test.YtdokfpmdeggicaaDoorJEqOp
import Derived.Test.YtdokfpmdeggicaaDoorGS
import Derived.Deep.RegionHeld3
namespace Go.Proofs.YtdokfpmdeggicaaDoor
open Go.ChangeShapes Go.WideShapes Go.ChangeAt Go.RowKit Go.Joins Go.Deep

theorem Bx.op5 {w : World} {B : Nat} {t : TypeId} {v0 v1 v2 v3 v4 : Value} (h : Bx w B t #[v0, v1, v2, v3, v4]) : w.cell? ⟨B, 0, none⟩ = some v0 ∧ w.cell? ⟨B, 1, none⟩ = some v1 ∧ w.cell? ⟨B, 2, none⟩ = some v2 ∧ w.cell? ⟨B, 3, none⟩ = some v3 ∧ w.cell? ⟨B, 4, none⟩ = some v4 := ⟨h.cell 0 rfl, h.cell 1 rfl, h.cell 2 rfl, h.cell 3 rfl, h.cell 4 rfl⟩
theorem below_given5 {N r : Nat} {w w' : World} (h : Below N w w') (hr : N ≤ r) (v0 v1 v2 v3 v4 : Value) : Below N w (((((w'.setCell ⟨r, 0, none⟩ v0).setCell ⟨r, 1, none⟩ v1).setCell ⟨r, 2, none⟩ v2).setCell ⟨r, 3, none⟩ v3).setCell ⟨r, 4, none⟩ v4) :=
  Below.setCell (Below.setCell (Below.setCell (Below.setCell (Below.setCell h (p := ⟨r, 0, none⟩) hr v0) (p := ⟨r, 1, none⟩) hr v1) (p := ⟨r, 2, none⟩) hr v2) (p := ⟨r, 3, none⟩) hr v3) (p := ⟨r, 4, none⟩) hr v4
set_option maxRecDepth 100000 in
set_option maxHeartbeats 8000000 in
theorem fnExactKeyBack_walk (w : World) (ht : Tab w) (a : Option Addr) (cap : Nat) (rs : List RowD) (hm : rs.length ≤ maxLen) (h : RowsAt w.heap.size w a rs) (hf : FitW rs) (o : OpD) (ho : OpFit o) :
    Calls Tryd.prog 3 #[.slice a rs.length cap, .agg #[.int .i64 o.kind, .int .i64 o.id, .int .i64 o.up, .int .i64 o.at_, .string o.txt]] w fun e w' => e = .returned (.bool true) ∧ Below w.heap.size w w' := by
  have hz := ht.pos
  have hb0 : Below w.heap.size w (w.alloc (.cells #[.int .i64 o.kind, .int .i64 o.id, .int .i64 o.up, .int .i64 o.at_, .string o.txt] 24)) := (Below.refl _ _).alloc (Nat.le_refl _) _
  have K0 := Bx.new w 24 #[.int .i64 o.kind, .int .i64 o.id, .int .i64 o.up, .int .i64 o.at_, .string o.txt]
  go_enter Tryd.func3, Tryd.ntmps3
  go_upto_region 1 with fail
  generalize w.alloc (.cells #[.int .i64 o.kind, .int .i64 o.id, .int .i64 o.up, .int .i64 o.at_, .string o.txt] 24) = w0 at *
  go_wp2_with fail
  refine (szRowS_bd w.heap.size _ _ _ _ hb0.size (h.below hb0) hf hm).mono ?_
  rintro e w1 ⟨z, rfl, hz', hb1'⟩
  have hb1 := hb0.trans (hb1'.mono hb0.size)
  have K1 := K0.below hb1' K0.lt
  clear K0 hb1' hb0
  rcases hz' with hneg | ⟨hpos, hz1, hl⟩
  · go_wp2
    go_ret
    exact ⟨rfl, hb1⟩
  · have hfit := Lib.hid (fit_of hf hl)
    obtain ⟨x0, x1, x2, x3, x4⟩ := K1.op5
    go_wp2_with fail
    refine (szOp_any o z _ ho.txt hz1 hpos).mono ?_
    rintro e w2 ⟨z2, rfl, hb2'⟩
    have K2 := K1.below hb2' K1.lt
    have b2 := hb1.trans (hb2'.mono hb1.size)
    clear hb2' hb1 K1 x0 x1 x2 x3 x4
    by_cases hz2 : z2 < 0
    · go_wp2
      go_ret
      exact ⟨rfl, b2⟩
    · have HT : Hid (∀ x, Below w.heap.size w x → Calls Tryd.prog 9 #[.slice a rs.length cap] x (RetRows rs x)) := fun x hx => (toRowS_any w.heap.size _ _ _ _ hx.size (h.below hx) hl).mono fun _ _ q => q
      have HS : Hid (∀ (g : Nat) (x : World), RowsAt x.heap.size x (some ⟨g, 0, none⟩) rs → Calls Tryd.prog 8 #[.slice (some ⟨g, 0, none⟩) rs.length rs.length, .agg #[.int .i64 o.kind, .int .i64 o.id, .int .i64 o.up, .int .i64 o.at_, .string o.txt]] x (RetBelow (keyV (kbackO rs o) (kbackB rs o)) x)) := fun g x h1 => specKeyBack_any _ _ _ _ _ _ (Nat.le_refl _) h1 hfit.out ho (Nat.le_refl _) (by unfold maxLen; omega)
      have HI : Hid (∀ (g : Nat) (x : World), RowsAt x.heap.size x (some ⟨g, 0, none⟩) rs → Tab x → Calls Tryd.prog 11 #[.slice (some ⟨g, 0, none⟩) rs.length rs.length, .agg #[.int .i64 o.kind, .int .i64 o.id, .int .i64 o.up, .int .i64 o.at_, .string o.txt]] x (RetBelow (keyV (kbackO rs o) (kbackB rs o)) x)) := fun g x h1 h2 => implKeyBack_any _ _ _ _ _ _ (Nat.le_refl _) h1 hfit.out ho h2
      generalize kbackO rs o = ko at *
      generalize kbackB rs o = kb at *
      simp only [keyV] at HS HI
      go_upto_region 8 with fail
      have hlk := K2.lt
      obtain ⟨k0, k1, k2, k3, k4⟩ := K2.op5
      go_cut [6, 7] (fun p q wx => ∃ bw, p = .pointer (some ⟨bw, 0, none⟩) ∧ q = .bool kb ∧ Bx wx bw 27 #[.int .i64 ko.kind, .int .i64 ko.id, .int .i64 ko.up, .int .i64 ko.at_, .string ko.txt] ∧ Below w2.heap.size w2 wx)
      case first =>
        have HSb : Hid (∀ x : World, Below w2.heap.size w2 x → x.cell? ⟨w.heap.size, 0, none⟩ = some (.int .i64 o.kind) ∧ x.cell? ⟨w.heap.size, 1, none⟩ = some (.int .i64 o.id) ∧ x.cell? ⟨w.heap.size, 2, none⟩ = some (.int .i64 o.up) ∧ x.cell? ⟨w.heap.size, 3, none⟩ = some (.int .i64 o.at_) ∧ x.cell? ⟨w.heap.size, 4, none⟩ = some (.string o.txt)) := fun x hx => ⟨(hx.cell (p := ⟨_, 0, none⟩) hlk).trans k0, (hx.cell (p := ⟨_, 1, none⟩) hlk).trans k1, (hx.cell (p := ⟨_, 2, none⟩) hlk).trans k2, (hx.cell (p := ⟨_, 3, none⟩) hlk).trans k3, (hx.cell (p := ⟨_, 4, none⟩) hlk).trans k4⟩
        have bc := (Below.refl w2.heap.size w2).drew
        have hsz := bc.size
        have Z0 : Bx (w2.drew.alloc (.cells #[.int .i64 0, .int .i64 0, .int .i64 0, .int .i64 0, .string ⟨#[]⟩] 27)) w2.heap.size 27 #[.int .i64 0, .int .i64 0, .int .i64 0, .int .i64 0, .string ⟨#[]⟩] := Bx.new w2.drew _ _
        have Lb := b2
        go_region_held3 (fun x : World => x.cell? ⟨w.heap.size, 0, none⟩ = some (.int .i64 o.kind) ∧ x.cell? ⟨w.heap.size, 1, none⟩ = some (.int .i64 o.id) ∧ x.cell? ⟨w.heap.size, 2, none⟩ = some (.int .i64 o.up) ∧ x.cell? ⟨w.heap.size, 3, none⟩ = some (.int .i64 o.at_) ∧ x.cell? ⟨w.heap.size, 4, none⟩ = some (.string o.txt)) ((refine HSb.out _ ?_; first | (with_reducible exact bc) | (with_reducible exact bc.alloc bc.size _) | (exact below_given5 bc (by omega) _ _ _ _ _) | (exact bc.alloc bc.size _) | (exact bc))) (first
          | (go_at_call 9; (refine (HT.out _ (Lb.trans (Below.mono (by first | (with_reducible exact bc) | (exact bc.alloc bc.size _) | (exact bc)) Lb.size))).mono ?_); rintro _ wS ⟨g3, rfl, hg3, oS, bN⟩; (first | (have Zc := Zc.below bN Zc.lt) | (have Zc := (Bx.new _ _ _).below bN (Bx.new _ _ _).lt) | (have Zc : Bx _ w2.heap.size 27 #[.int .i64 0, .int .i64 0, .int .i64 0, .int .i64 0, .string ⟨#[]⟩] := Z0.below bN Z0.lt) | skip); have bc : Below w2.heap.size w2 _ := (by first | (with_reducible exact bc.trans (bN.mono bc.size)) | (exact (bc.alloc bc.size _).trans (bN.mono (bc.alloc bc.size _).size)) | (exact bc.trans (bN.mono bc.size))); have hsz := bc.size)
          | (go_at_call 10; (refine (toOp_any o _).mono ?_); rintro _ wE ⟨rfl, bN⟩; (first | (have oS := oS.below bN oS.lt) | (have oS := (oS.below ((Below.refl _ _).alloc (Nat.le_refl _) _) oS.lt).below bN (by first | exact (oS.below ((Below.refl _ _).alloc (Nat.le_refl _) _) oS.lt).lt)) | skip); (first | (have Zc := Zc.below bN Zc.lt) | (have Zc := (Bx.new _ _ _).below bN (Bx.new _ _ _).lt) | (have Zc : Bx _ w2.heap.size 27 #[.int .i64 0, .int .i64 0, .int .i64 0, .int .i64 0, .string ⟨#[]⟩] := Z0.below bN Z0.lt) | skip); have bc : Below w2.heap.size w2 _ := (by first | (with_reducible exact bc.trans (bN.mono bc.size)) | (exact (bc.alloc bc.size _).trans (bN.mono (bc.alloc bc.size _).size)) | (exact bc.trans (bN.mono bc.size))); have hsz := bc.size)
          | (go_at_call 8; (refine (HS.out g3 _ (by first | (with_reducible exact oS.at_ oS.lt) | (exact (oS.below ((Below.refl _ _).alloc (Nat.le_refl _) _) oS.lt).at_ (oS.below ((Below.refl _ _).alloc (Nat.le_refl _) _) oS.lt).lt))).mono ?_); rintro _ wd ⟨rfl, bN⟩; (first | (have Zc := Zc.below bN Zc.lt) | (have Zc := (Bx.new _ _ _).below bN (Bx.new _ _ _).lt) | (have Zc : Bx _ w2.heap.size 27 #[.int .i64 0, .int .i64 0, .int .i64 0, .int .i64 0, .string ⟨#[]⟩] := Z0.below bN Z0.lt) | skip); (first | (obtain ⟨z0, z1, z2, z3, z4⟩ := Zc.op5; have y0 := Zc.frozen 0; have y1 := Zc.frozen 1; have y2 := Zc.frozen 2; have y3 := Zc.frozen 3; have y4 := Zc.frozen 4) | skip); have bc : Below w2.heap.size w2 _ := (by first | (with_reducible exact bc.trans (bN.mono bc.size)) | (exact (bc.alloc bc.size _).trans (bN.mono (bc.alloc bc.size _).size)) | (exact bc.trans (bN.mono bc.size))); have hsz := bc.size))
        all_goals
          first
          | (have QZ := Lib.hid (((((Zc.put 0 (.int .i64 ko.kind)).put 1 (.int .i64 ko.id)).put 2 (.int .i64 ko.up)).put 3 (.int .i64 ko.at_)).put 4 (.string ko.txt))
             have hzb := hsz
             have hzl := Zc.lt
             clear Zc HT HI
             go_wp2
             go_meet
             exact ⟨_, rfl, rfl, QZ.out, below_given5 bc (by omega) _ _ _ _ _⟩)
          | (have X8 := Bx.new wd 27 #[.int .i64 ko.kind, .int .i64 ko.id, .int .i64 ko.up, .int .i64 ko.at_, .string ko.txt]
             have bae := bc.alloc bc.size (.cells #[.int .i64 ko.kind, .int .i64 ko.id, .int .i64 ko.up, .int .i64 ko.at_, .string ko.txt] 27)
             clear HT HI
             go_wp2
             go_meet
             exact ⟨_, rfl, rfl, X8, bae⟩)
      case rest =>
        obtain ⟨bw, rfl, rfl, B4, b4⟩ := hcut
        have L4 := b2.trans (b4.mono b2.size)
        have K4 := K2.below b4 K2.lt
        clear K2 b4 b2 k0 k1 k2 k3 k4 HS hlk
        generalize hw4 : wc = w4 at *
        clear hw4
        go_wp2_with fail
        refine (HT.out w4 L4).mono ?_
        rintro _ w5 ⟨g2, rfl, hg2, o5, b5⟩
        have L5 := L4.trans (b5.mono L4.size)
        have K5 := K4.below b5 K4.lt
        have B5 := B4.below b5 B4.lt
        clear L4 K4 B4 b5
        obtain ⟨k0, k1, k2, k3, k4⟩ := K5.op5
        go_wp2_with fail
        refine (toOp_any o _).mono ?_
        rintro _ w6 ⟨rfl, b6⟩
        have L6 := L5.trans (b6.mono L5.size)
        have B6 := B5.below b6 B5.lt
        have o6 := o5.below b6 o5.lt
        clear L5 K5 B5 o5 b6 k0 k1 k2 k3 k4
        go_wp2_with fail
        refine (HI.out g2 w6 (o6.at_ o6.lt) (ht.below L6 hz)).mono ?_
        rintro _ w7 ⟨rfl, b7⟩
        have L7' := L6.trans (b7.mono L6.size)
        have L7 := L7'.alloc L7'.size (.cells #[.int .i64 ko.kind, .int .i64 ko.id, .int .i64 ko.up, .int .i64 ko.at_, .string ko.txt] 27)
        have B7 := (B6.below b7 B6.lt).alloc (.cells #[.int .i64 ko.kind, .int .i64 ko.id, .int .i64 ko.up, .int .i64 ko.at_, .string ko.txt] 27)
        have J7 := Bx.new w7 27 #[.int .i64 ko.kind, .int .i64 ko.id, .int .i64 ko.up, .int .i64 ko.at_, .string ko.txt]
        have o7' := o6.below b7 o6.lt
        have o7 := o7'.below ((Below.refl w7.heap.size w7).alloc (Nat.le_refl _) (.cells #[.int .i64 ko.kind, .int .i64 ko.id, .int .i64 ko.up, .int .i64 ko.at_, .string ko.txt] 27)) o7'.lt
        clear L6 B6 o6 b7 L7' o7'
        go_upto_region 11 with fail
        generalize w7.alloc (.cells #[.int .i64 ko.kind, .int .i64 ko.id, .int .i64 ko.up, .int .i64 ko.at_, .string ko.txt] 27) = w8 at *
        generalize w7.heap.size = bj at *
        obtain ⟨k0, k1, k2, k3, k4⟩ := B7.op5
        obtain ⟨j0, j1, j2, j3, j4⟩ := J7.op5
        go_wp2_with fail
        refine (eqOp_same ko _).mono ?_
        rintro _ w9 ⟨rfl, b9⟩
        have L9 := L7.trans (b9.mono L7.size)
        have o9 := o7.below b9 o7.lt
        clear L7 B7 J7 o7 b9 k0 k1 k2 k3 k4 j0 j1 j2 j3 j4
        go_wp2_with fail
        refine (HT.out w9 L9).mono ?_
        rintro _ w10 ⟨g4, rfl, hg4, o10, b10⟩
        have o9' := o9.below b10 o9.lt
        have L10 := L9.trans (b10.mono L9.size)
        go_wp2_with fail
        refine (eqRowS_same w10.heap.size _ _ _ _ _ _ (Nat.le_refl _) (o9'.at_ o9'.lt) (o10.at_ o10.lt) hl).mono ?_
        rintro _ w11 ⟨rfl, b11⟩
        go_wp2
        go_ret
        exact ⟨rfl, L10.trans (b11.mono L10.size)⟩
end Go.Proofs.YtdokfpmdeggicaaDoor
