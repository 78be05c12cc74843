/-
  The walk of the law FnKeyBack out of the contracts. Conditions: the argument reads as bytes; the table 'creators' holds what its initialiser lays.
-/
import Derived.Test.YtklefdhjfadhpaaDoorJDrawKB
import Derived.Test.YtklefdhjfadhpaaDoorJLpDiff
import Derived.Test.YtklefdhjfadhpaaDoorJLpRows
import Derived.Test.YtklefdhjfadhpaaDoorGB
import Derived.Test.YtklefdhjfadhpaaDoorJKBackM4
import Derived.Test.YtklefdhjfadhpaaDoorGM
namespace Go.Proofs.YtklefdhjfadhpaaDoor
open Go.ChangeShapes Go.WideShapes Go.ChangeAt Go.RowKit Go.Joins


theorem fnKeyBack_long (a0 : Option Addr) (len0 cap0 : Nat) (w : World) (h : ¬ (len0 : Int) ≤ 1048576) :
    Calls Tryd.prog 5 #[.slice a0 len0 cap0] w fun e w' => e = .returned (.bool true) ∧ Below w.heap.size w w' := by
  go_enter Tryd.func5, Tryd.ntmps5
  go_wp2
  go_ret
  exact ⟨rfl, Below.refl _ _⟩
set_option maxRecDepth 100000 in
set_option maxHeartbeats 4000000 in
theorem fnKeyBack_walk (w : World) (ht : Tab w) (a0 : Option Addr) (len0 cap0 : Nat) (b0 : Bytes w a0 len0 cap0) :
    Calls Tryd.prog 5 #[.slice a0 len0 cap0] w fun e w' => e = .returned (.bool true) ∧ Below w.heap.size w w' := by
  have hz := ht.pos
  by_cases hlens : (len0 : Int) ≤ 1048576
  · go_enter Tryd.func5, Tryd.ntmps5
    go_wp2_with fail
    refine (drawKeyBack_any _ _ _ _ b0).mono ?_
    rintro e w1 ⟨a, cap, rs, o, ho, rfl, hl, hb⟩
    have hlen := hl.len
    have hcap := Lib.hid hl.cap
    have hfit := Lib.hid hl.fit
    have hofit := Lib.hid ho.fit
    have hal : Below w1.heap.size w1 (w1.alloc (.cells #[.int .i64 o.kind, .int .i64 o.id, .int .i64 o.up, .int .i64 o.at_, .string o.txt] 27)) := (Below.refl _ _).alloc (Nat.le_refl _) _
    have hb1 := hb.trans (hal.mono hb.size)
    have hr1 := (hl.rows.below hal).mono hal.size
    have K1 := OBox.new w1 o
    have ht1 := ht.below hb1 hz
    clear hl b0 hb hal
    go_upto_region 4 with fail
    generalize w1.alloc (.cells #[.int .i64 o.kind, .int .i64 o.id, .int .i64 o.up, .int .i64 o.at_, .string o.txt] 27) = w2 at *
    generalize w1.heap.size = n1 at *
    have HS : Hid (∀ x, RowsAt x.heap.size x a rs → Calls Tryd.prog 26 #[.slice a rs.length cap, .agg #[.int .i64 o.kind, .int .i64 o.id, .int .i64 o.up, .int .i64 o.at_, .string o.txt]] x (RetBelow (keyV (kbackO rs o) (kbackB rs o)) x)) := fun x h => specKeyBack_any _ a cap rs o x (Nat.le_refl _) h hfit.out hofit.out hcap.out.1 hcap.out.2
    have HM : Hid (∀ x, RowsAt x.heap.size x a rs → Tab x → Calls Tryd.prog 27 #[.slice a rs.length cap, .agg #[.int .i64 o.kind, .int .i64 o.id, .int .i64 o.up, .int .i64 o.at_, .string o.txt]] x (RetBelow (keyV (kbackO rs o) (kbackB rs o)) x)) := fun x h1 h2 => implKeyBack_any _ a cap rs o x (Nat.le_refl _) h1 hfit.out hofit.out h2
    have HD1 : Hid (kbackB rs o = true → o.kind = 1 → OpFit (kbackO rs o) ∧ treeB (doT rs o) = true ∧ undT (doT (doT rs o) (kbackO rs o)) o.id 2 = true ∧ (doT (doT rs o) (kbackO rs o)).length = rs.length + 1) := fun q q2 => make_gone q q2
    have HD : Hid (kbackB rs o = true → o.kind ≠ 1 → opokB (kbackO rs o) = true ∧ OpFit (kbackO rs o) ∧ doT (doT rs o) (kbackO rs o) = rs ∧ treeB (doT rs o) = true ∧ doT rs o ≠ rs) := fun q q2 => by
      obtain ⟨h1, h2, h3, h4, h5, _⟩ := kback_undo q q2
      exact ⟨h1, h2, h3, h4, h5⟩
    have HO : Hid (∀ x, RowsAt x.heap.size x a rs → Tab x → Calls Tryd.prog 16 #[.slice a rs.length cap, .agg #[.int .i64 o.kind, .int .i64 o.id, .int .i64 o.up, .int .i64 o.at_, .string o.txt]] x (RetOwn (doT rs o) x)) := fun x h1 h2 => implOpDo_any _ a cap rs o x (Nat.le_refl _) h1 hfit.out hofit.out h2
    have HO2 : Hid (∀ (q : OpD) (x : World) (xa : Option Addr) (xc : Nat), Fit (doT rs o) → OpFit q → RowsAt x.heap.size x xa (doT rs o) → Tab x → Calls Tryd.prog 16 #[.slice xa (doT rs o).length xc, .agg #[.int .i64 q.kind, .int .i64 q.id, .int .i64 q.up, .int .i64 q.at_, .string q.txt]] x (RetOwn (doT (doT rs o) q) x)) := fun q x xa xc h0 h1 h2 h3 => implOpDo_any _ xa xc (doT rs o) q x (Nat.le_refl _) h2 h0 h1 h3
    have hrl : (doT rs o).length ≤ 1048576 := by have := doT_len rs o; omega
    have hyl : Hid (∀ q, (doT (doT rs o) q).length ≤ 1048576) := fun q => by have := doT_len (doT rs o) q; omega
    have HTU : Hid (∀ (ys : List RowD) (x : World) (xa : Option Addr) (xc : Nat), ys.length ≤ 1048576 → treeB ys = true → RowsAt x.heap.size x xa ys → Tab x → Calls Tryd.prog 28 #[.slice xa ys.length xc, .int .i64 o.id, .int .i64 2] x (RetBelow (.bool (undT ys o.id 2)) x)) := fun ys x xa xc _ h1 h2 h3 => implTreeUnder_any _ xa xc ys o.id 2 x (Nat.le_refl _) h2 (tree_fits h1) h3
    generalize kbackO rs o = ko at *
    generalize kbackB rs o = kb at *
    simp only [keyV] at HS HM
    obtain ⟨x0, x1, x2, x3, x4⟩ := K1.cells
    go_wp2_with fail
    refine (HS.out w2 hr1).mono ?_
    rintro e w3 ⟨rfl, b3⟩
    have al3 := (Below.refl w3.heap.size w3).alloc (Nat.le_refl _) (.cells #[.int .i64 ko.kind, .int .i64 ko.id, .int .i64 ko.up, .int .i64 ko.at_, .string ko.txt] 27)
    have c3 := b3.trans (al3.mono b3.size)
    have hb3 := hb1.trans (c3.mono hb1.size)
    have hr3 := (hr1.below c3).mono c3.size
    have K3 := K1.below c3 K1.lt
    have P3 := OBox.new w3 ko
    have ht3 := ht.below hb3 hz
    clear b3 al3 c3 hb1 hr1 K1 ht1 x0 x1 x2 x3 x4
    go_upto_region 5 with fail
    generalize w3.alloc (.cells #[.int .i64 ko.kind, .int .i64 ko.id, .int .i64 ko.up, .int .i64 ko.at_, .string ko.txt] 27) = w4 at *
    generalize w3.heap.size = n3 at *
    obtain ⟨x0, x1, x2, x3, x4⟩ := K3.cells
    go_wp2_with fail
    refine (HM.out w4 hr3 ht3).mono ?_
    rintro e w5 ⟨rfl, b5⟩
    have al5 := (Below.refl w5.heap.size w5).alloc (Nat.le_refl _) (.cells #[.int .i64 ko.kind, .int .i64 ko.id, .int .i64 ko.up, .int .i64 ko.at_, .string ko.txt] 27)
    have c5 := b5.trans (al5.mono b5.size)
    have hb5 := hb3.trans (c5.mono hb3.size)
    have hr5 := (hr3.below c5).mono c5.size
    have K5 := K3.below c5 K3.lt
    have P5 := P3.below c5 P3.lt
    have Q5 := OBox.new w5 ko
    have ht5 := ht.below hb5 hz
    clear b5 al5 c5 hb3 hr3 K3 P3 ht3 x0 x1 x2 x3 x4
    go_upto_region 6 with fail
    generalize w5.alloc (.cells #[.int .i64 ko.kind, .int .i64 ko.id, .int .i64 ko.up, .int .i64 ko.at_, .string ko.txt] 27) = w6 at *
    generalize w5.heap.size = n5 at *
    obtain ⟨x0, x1, x2, x3, x4⟩ := K5.cells
    obtain ⟨p0, p1, p2, p3, p4⟩ := P5.cells
    obtain ⟨q0, q1, q2, q3, q4⟩ := Q5.cells
    clear HS HM
    cases kb
    · clear HD1 HD HO HO2 hyl HTU
      go_wp2
      go_ret
      exact ⟨by first | rfl | simp, hb5⟩
    · by_cases hk : o.kind = 1
      · obtain ⟨d1, d2, d3, d4⟩ := HD1.out rfl hk
        have hfx := tree_fits d2
        have HQ : Hid (∀ (x : World) (xa : Option Addr) (xc : Nat), RowsAt x.heap.size x xa (doT rs o) → Tab x → Calls Tryd.prog 16 #[.slice xa (doT rs o).length xc, .agg #[.int .i64 ko.kind, .int .i64 ko.id, .int .i64 ko.up, .int .i64 ko.at_, .string ko.txt]] x (RetOwn (doT (doT rs o) ko) x)) := fun x xa xc h2 h3 => HO2.out ko x xa xc hfx d1 h2 h3
        have hty : treeB (doT (doT rs o) ko) = true := by
          simp only [undT, Bool.and_eq_true] at d3; exact d3.1
        have HU : Hid (∀ (x : World) (ya : Option Addr) (yc : Nat), RowsAt x.heap.size x ya (doT (doT rs o) ko) → Tab x → Calls Tryd.prog 28 #[.slice ya (doT (doT rs o) ko).length yc, .int .i64 o.id, .int .i64 2] x (RetBelow (.bool true) x)) := fun x ya yc h2 h3 => by
          have := HTU.out (doT (doT rs o) ko) x ya yc (hyl.out ko) hty h2 h3
          rwa [d3] at this
        have HYL : Hid (((doT (doT rs o) ko).length : Int) = (rs.length : Int) + 1) := by show (_ : Int) = _; rw [d4]; omega
        have HK := Lib.hid hk
        clear HD1 HD HO2 hyl HTU d1 d2 d3 d4 hfx hty hk
        generalize doT (doT rs o) ko = ys at *
        generalize doT rs o = res at *
        go_wp2_with fail
        refine (HO.out w6 hr5 ht5).mono ?_
        rintro e w7 ⟨xa, xc, rfl, own7, hxc, b7⟩
        have hx7 := (got_own own7).rows
        have hb7 := hb5.trans (b7.mono hb5.size)
        have hr7 := (hr5.below b7).mono b7.size
        have K7 := K5.below b7 K5.lt
        have Q7 := Q5.below b7 Q5.lt
        have ht7 := ht.below hb7 hz
        clear b7 hb5 hr5 K5 P5 Q5 ht5 own7 HO x0 x1 x2 x3 x4 p0 p1 p2 p3 p4 q0 q1 q2 q3 q4
        obtain ⟨q0, q1, q2, q3, q4⟩ := Q7.cells
        go_wp2_with fail
        refine (HQ.out w7 xa xc hx7 ht7).mono ?_
        rintro e w8 ⟨ya, yc, rfl, own8, hyc, b8⟩
        have hy8 := (got_own own8).rows
        have hb8 := hb7.trans (b8.mono hb7.size)
        have hr8 := (hr7.below b8).mono b8.size
        have hx8 := (hx7.below b8).mono b8.size
        have K8 := K7.below b8 K7.lt
        have Q8 := Q7.below b8 Q7.lt
        have ht8 := ht.below hb8 hz
        clear b8 hb7 hr7 hx7 K7 Q7 ht7 own8 HQ q0 q1 q2 q3 q4
        obtain ⟨x0, x1, x2, x3, x4⟩ := K8.cells
        obtain ⟨q0, q1, q2, q3, q4⟩ := Q8.cells
        rw [HK.out] at x0
        go_wp2_with fail
        refine (HU.out w8 ya yc hy8 ht8).mono ?_
        rintro e w9 ⟨rfl, b9⟩
        have hyl2 := HYL.out
        have hw : IntKind.i64.wrap ((rs.length : Int) + 1) = (rs.length : Int) + 1 := IntWalk.i64_in _ ⟨by omega, by omega⟩
        go_wp2
        go_ret
        exact ⟨by first | rfl | simp [hyl2] | (simp; omega), hb8.trans (b9.mono hb8.size)⟩
      · obtain ⟨d1, d2, d3, d4, d5⟩ := HD.out rfl hk
        have hfx := tree_fits d4
        have HNE := Lib.hid d5
        have HOK := Lib.hid d1
        have HFT := Lib.hid d2
        have HQ : Hid (∀ (x : World) (xa : Option Addr) (xc : Nat), RowsAt x.heap.size x xa (doT rs o) → Tab x → Calls Tryd.prog 16 #[.slice xa (doT rs o).length xc, .agg #[.int .i64 ko.kind, .int .i64 ko.id, .int .i64 ko.up, .int .i64 ko.at_, .string ko.txt]] x (RetOwn rs x)) := fun x xa xc h2 h3 => by
          have := HO2.out ko x xa xc hfx d2 h2 h3
          rwa [d3] at this
        have hk2 : (o.kind == 1) = false := by simp [hk]
        clear HD1 HD HO2 hyl HTU d1 d2 d3 d4 d5 hfx
        generalize doT rs o = res at *
        go_wp2_with fail
        refine (HO.out w6 hr5 ht5).mono ?_
        rintro e w7 ⟨xa, xc, rfl, own7, hxc, b7⟩
        have hx7 := (got_own own7).rows
        have hb7 := hb5.trans (b7.mono hb5.size)
        have hr7 := (hr5.below b7).mono b7.size
        have K7 := K5.below b7 K5.lt
        have Q7 := Q5.below b7 Q5.lt
        have ht7 := ht.below hb7 hz
        clear b7 hb5 hr5 K5 P5 Q5 ht5 own7 HO x0 x1 x2 x3 x4 p0 p1 p2 p3 p4 q0 q1 q2 q3 q4
        obtain ⟨q0, q1, q2, q3, q4⟩ := Q7.cells
        go_wp2_with fail
        refine (HQ.out w7 xa xc hx7 ht7).mono ?_
        rintro e w8 ⟨ya, yc, rfl, own8, hyc, b8⟩
        have hy8 := (got_own own8).rows
        have hb8 := hb7.trans (b8.mono hb7.size)
        have hr8 := (hr7.below b8).mono b8.size
        have hx8 := (hx7.below b8).mono b8.size
        have K8 := K7.below b8 K7.lt
        have Q8 := Q7.below b8 Q7.lt
        have ht8 := ht.below hb8 hz
        clear b8 hb7 hr7 hx7 K7 Q7 ht7 own8 HQ q0 q1 q2 q3 q4
        obtain ⟨x0, x1, x2, x3, x4⟩ := K8.cells
        obtain ⟨q0, q1, q2, q3, q4⟩ := Q8.cells
        go_wp2_with fail
        refine (lpRows_same _ _ _ _ _ _ _ (Nat.le_refl _) hy8 hr8 (by omega)).mono ?_
        rintro e w9 ⟨rfl, b9⟩
        have hb9 := hb8.trans (b9.mono hb8.size)
        have hr9 := (hr8.below b9).mono b9.size
        have hx9 := (hx8.below b9).mono b9.size
        have Q9 := Q8.below b9 Q8.lt
        clear b9 hb8 hr8 hx8 hy8 K8 Q8 ht8 x0 x1 x2 x3 x4 q0 q1 q2 q3 q4
        obtain ⟨q0, q1, q2, q3, q4⟩ := Q9.cells
        go_wp2_with fail
        refine (lpRows_diff _ _ _ _ _ _ _ hx9 hr9 hrl (by omega) HNE.out).mono ?_
        rintro e w10 ⟨rfl, b10⟩
        have hb10 := hb9.trans (b10.mono hb9.size)
        have Q10 := Q9.below b10 Q9.lt
        have ht10 := ht.below hb10 hz
        clear b10 hb9 hr9 hx9 Q9 q0 q1 q2 q3 q4
        obtain ⟨q0, q1, q2, q3, q4⟩ := Q10.cells
        go_wp2_with fail
        refine (implOpOk_any ko w10 ht10 HFT.out.txt).mono ?_
        rintro e w11 ⟨rfl, b11⟩
        rw [HOK.out]
        go_wp2
        go_ret
        exact ⟨by first | rfl | simp, hb10.trans (b11.mono hb10.size)⟩
  · exact fnKeyBack_long _ _ _ _ hlens
end Go.Proofs.YtklefdhjfadhpaaDoor
