/-
  The walk of the law FnExactServerOk out of the contracts. Conditions: the argument reads as a server; the table 'creators' holds what its initialiser lays.
-/
import Derived.Test.YtkecboeaiipjhaaDoorGV
import Derived.Test.YtkecboeaiipjhaaDoorGW
namespace Go.Proofs.YtkecboeaiipjhaaDoor
open Go.ChangeShapes Go.WideShapes Go.ChangeAt Go.RowKit Go.Joins Go.Deep

set_option maxRecDepth 100000 in
set_option maxHeartbeats 8000000 in
theorem fnExactServerOk_walk (w : World) (ht : Tab w) (a : Option Addr) (cap : Nat) (es : List EntD) (sf : Int) (up : Bool) (hm : es.length ≤ maxLen) (h : EntsAt w.heap.size w a es) (hf : ∀ i, i < es.length → EFit (eat es i)) :
    Calls Tryd.prog 3 #[.agg #[.slice a es.length cap, .int .i64 sf, .bool up]] w fun e w' => e = .returned (.bool true) ∧ Below w.heap.size w w' := by
  have hz := ht.pos
  have al := (Below.refl w.heap.size w).alloc (Nat.le_refl _) (.cells #[.slice a es.length cap, .int .i64 sf, .bool up] 24)
  have A0 := Bx.new w 24 #[.slice a es.length cap, .int .i64 sf, .bool up]
  go_enter Tryd.func3, Tryd.ntmps3
  go_upto_region 1 with fail
  generalize w.alloc (.cells #[.slice a es.length cap, .int .i64 sf, .bool up] 24) = w0 at *
  obtain ⟨x0, x1, x2⟩ := A0.srv
  go_wp2_with fail
  refine (szServer_any w.heap.size a cap es sf up w0 al.size (h.below al) hf hm).mono ?_
  rintro _ w1 ⟨z, rfl, hz', b1⟩
  have L1 := al.trans (b1.mono al.size)
  have A1 := A0.below b1 A0.lt
  clear al A0 b1 x0 x1 x2
  rcases hz' with hneg | ⟨hpos, hz1, hl⟩
  · go_wp2
    go_ret
    exact ⟨rfl, L1⟩
  · have hfit := Lib.hid (show EntsFit es from ⟨hl, hf⟩)
    have HT : Hid (∀ x, Below w.heap.size w x → Calls Tryd.prog 10 #[.agg #[.slice a es.length cap, .int .i64 sf, .bool up]] x (RetToSrv es sf up x)) := fun x hx => toServer_any w.heap.size a cap es sf up x hx.size (h.below hx) hl
    obtain ⟨x0, x1, x2⟩ := A1.srv
    go_wp2_with fail
    refine (HT.out w1 L1).mono ?_
    rintro _ w2 ⟨g1, rfl, hg1, o2, b2⟩
    have L2 := L1.trans (b2.mono L1.size)
    have A2 := A1.below b2 A1.lt
    clear L1 A1 b2 x0 x1 x2
    go_wp2_with fail
    refine (specServerOk_any w2.heap.size _ _ es sf up w2 (Nat.le_refl _) (o2.at_ o2.lt) hfit.out (Nat.le_refl _) (by unfold maxLen; omega)).mono ?_
    rintro _ w3 ⟨rfl, b3⟩
    have L4 := L2.trans (b3.mono L2.size)
    have A4 := A2.below b3 A2.lt
    clear L2 A2 b3 o2 hg1
    obtain ⟨x0, x1, x2⟩ := A4.srv
    go_wp2_with fail
    refine (HT.out w3 L4).mono ?_
    rintro _ w5 ⟨g2, rfl, hg2, o5, b5⟩
    have L5 := L4.trans (b5.mono L4.size)
    have A5 := A4.below b5 A4.lt
    clear L4 A4 b5 x0 x1 x2
    have X6 := Bx.new w5 29 #[.slice (some ⟨g2, 0, none⟩) es.length es.length, .int .i64 sf, .bool up]
    have al5 := (Below.refl w5.heap.size w5).alloc (Nat.le_refl _) (.cells #[.slice (some ⟨g2, 0, none⟩) es.length es.length, .int .i64 sf, .bool up] 29)
    have L6 := L5.trans (al5.mono L5.size)
    have A6 := A5.below al5 A5.lt
    have o6 := o5.below al5 o5.lt
    clear L5 A5 o5 al5
    go_upto_region 7 with fail
    generalize w5.alloc (.cells #[.slice (some ⟨g2, 0, none⟩) es.length es.length, .int .i64 sf, .bool up] 29) = w6 at *
    generalize w5.heap.size = bx at *
    obtain ⟨x0, x1, x2⟩ := X6.srv
    go_wp2_with fail
    refine (implServerOk_any w6.heap.size _ _ es sf up w6 (Nat.le_refl _) (o6.at_ o6.lt) hfit.out (ht.below L6 hz)).mono ?_
    rintro _ w7 ⟨rfl, b7⟩
    have L7 := L6.trans (b7.mono L6.size)
    have A7 := A6.below b7 A6.lt
    have X7 := X6.below b7 X6.lt
    have o7 := o6.below b7 o6.lt
    clear L6 A6 X6 o6 b7 x0 x1 x2
    generalize srvB ⟨es, sf, up⟩ = sb at *
    have Ld := L7.drew
    have Xd := X7.drew
    have od := o7.below ((Below.refl w7.heap.size w7).drew) o7.lt
    obtain ⟨x0, x1, x2⟩ := A7.srv
    obtain ⟨y0, y1, y2⟩ := X7.srv
    go_upto_region 10 with fail
    go_region_with (first
      | (go_at_call 10; refine (HT.out _ Ld).mono ?_; rintro _ wa ⟨g3, rfl, hg3, o3, ba⟩; have Xa := Xd.below ba Xd.lt; have oa := od.below ba od.lt; obtain ⟨p0, p1, p2⟩ := Xa.srv)
      | (go_at_call 12; refine (eqServer_same _ _ _ _ _ es sf up _ (Nat.le_refl _) (oa.at_ oa.lt) (o3.at_ o3.lt) hl).mono ?_; rintro _ wb ⟨rfl, bb⟩; have bab := ba.trans (bb.mono ba.size); have Lf := Ld.trans (bab.mono Ld.size)))
    all_goals
      go_wp2
      go_ret
      exact ⟨rfl, Lf⟩
end Go.Proofs.YtkecboeaiipjhaaDoor
