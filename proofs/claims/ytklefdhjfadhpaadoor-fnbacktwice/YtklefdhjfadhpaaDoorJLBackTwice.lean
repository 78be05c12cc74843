/-
  The walk of the law FnBackTwice out of the contracts. Conditions: the argument reads as bytes; the table 'creators' holds what its initialiser lays.
-/
import Derived.Test.YtklefdhjfadhpaaDoorJDrawKB
import Derived.Test.YtklefdhjfadhpaaDoorJLpDiff
import Derived.Test.YtklefdhjfadhpaaDoorJLpRows
import Derived.Test.YtklefdhjfadhpaaDoorGB
import Derived.Test.YtklefdhjfadhpaaDoorJKBackM3
namespace Go.Proofs.YtklefdhjfadhpaaDoor
open Go.ChangeShapes Go.WideShapes Go.ChangeAt Go.RowKit Go.Joins


theorem fnBackTwice_long (a0 : Option Addr) (len0 cap0 : Nat) (w : World) (h : ¬ (len0 : Int) ≤ 1048576) :
    Calls Tryd.prog 7 #[.slice a0 len0 cap0] w fun e w' => e = .returned (.bool true) ∧ Below w.heap.size w w' := by
  go_enter Tryd.func7, Tryd.ntmps7
  go_wp2
  go_ret
  exact ⟨rfl, Below.refl _ _⟩
set_option maxRecDepth 100000 in
set_option maxHeartbeats 4000000 in
theorem fnBackTwice_walk (w : World) (ht : Tab w) (a0 : Option Addr) (len0 cap0 : Nat) (b0 : Bytes w a0 len0 cap0) :
    Calls Tryd.prog 7 #[.slice a0 len0 cap0] w fun e w' => e = .returned (.bool true) ∧ Below w.heap.size w w' := by
  have hz := ht.pos
  by_cases hlens : (len0 : Int) ≤ 1048576
  · go_enter Tryd.func7, Tryd.ntmps7
    go_wp2_with fail
    refine (drawKeyBack_any _ _ _ _ b0).mono ?_
    rintro e w1 ⟨a, cap, rs, o, ho, rfl, hl, hb⟩
    have hlen := hl.len
    have hcap := Lib.hid hl.cap
    have hfit := Lib.hid hl.fit
    have hofit := Lib.hid ho.fit
    have hal : Below w1.heap.size w1 (w1.alloc (.cells #[.int .i64 o.kind, .int .i64 o.id, .int .i64 o.up, .int .i64 o.at_, .string o.txt] 27)) := (Below.refl _ _).alloc (Nat.le_refl _) _
    have hb1 := hb.trans (hal.mono hb.size)
    have hr1 := (hl.rows.below hal).mono hal.size
    have K1 := OBox.new w1 o
    have ht1 := ht.below hb1 hz
    clear hl b0 hb hal
    go_upto_region 4 with fail
    generalize w1.alloc (.cells #[.int .i64 o.kind, .int .i64 o.id, .int .i64 o.up, .int .i64 o.at_, .string o.txt] 27) = w2 at *
    generalize w1.heap.size = n1 at *
    have HS : Hid (∀ x, RowsAt x.heap.size x a rs → Calls Tryd.prog 26 #[.slice a rs.length cap, .agg #[.int .i64 o.kind, .int .i64 o.id, .int .i64 o.up, .int .i64 o.at_, .string o.txt]] x (RetBelow (keyV (kbackO rs o) (kbackB rs o)) x)) := fun x h => specKeyBack_any _ a cap rs o x (Nat.le_refl _) h hfit.out hofit.out hcap.out.1 hcap.out.2
    have HM : Hid (∀ x, RowsAt x.heap.size x a rs → Tab x → Calls Tryd.prog 27 #[.slice a rs.length cap, .agg #[.int .i64 o.kind, .int .i64 o.id, .int .i64 o.up, .int .i64 o.at_, .string o.txt]] x (RetBelow (keyV (kbackO rs o) (kbackB rs o)) x)) := fun x h1 h2 => implKeyBack_any _ a cap rs o x (Nat.le_refl _) h1 hfit.out hofit.out h2
    have HD : Hid (kbackB rs o = true → o.kind ≠ 1 → OpFit (kbackO rs o) ∧ treeB (doT rs o) = true ∧ kbackB (doT rs o) (kbackO rs o) = true ∧ doT rs (kbackO (doT rs o) (kbackO rs o)) = doT rs o ∧ OpFit (kbackO (doT rs o) (kbackO rs o))) := fun q q2 => by
      obtain ⟨_, h2, _, h4, _⟩ := kback_undo q q2
      obtain ⟨g1, g2, g3⟩ := kback_twice q q2
      exact ⟨h2, h4, g1, g2, g3⟩
    have HO : Hid (∀ x, RowsAt x.heap.size x a rs → Tab x → Calls Tryd.prog 16 #[.slice a rs.length cap, .agg #[.int .i64 o.kind, .int .i64 o.id, .int .i64 o.up, .int .i64 o.at_, .string o.txt]] x (RetOwn (doT rs o) x)) := fun x h1 h2 => implOpDo_any _ a cap rs o x (Nat.le_refl _) h1 hfit.out hofit.out h2
    have HK2 : Hid (∀ (q : OpD) (x : World) (xa : Option Addr) (xc : Nat), Fit (doT rs o) → OpFit q → RowsAt x.heap.size x xa (doT rs o) → Tab x → Calls Tryd.prog 27 #[.slice xa (doT rs o).length xc, .agg #[.int .i64 q.kind, .int .i64 q.id, .int .i64 q.up, .int .i64 q.at_, .string q.txt]] x (RetBelow (keyV (kbackO (doT rs o) q) (kbackB (doT rs o) q)) x)) := fun q x xa xc h0 h1 h2 h3 => implKeyBack_any _ xa xc (doT rs o) q x (Nat.le_refl _) h2 h0 h1 h3
    have HO2 : Hid (∀ (q : OpD) (x : World), OpFit q → RowsAt x.heap.size x a rs → Tab x → Calls Tryd.prog 16 #[.slice a rs.length cap, .agg #[.int .i64 q.kind, .int .i64 q.id, .int .i64 q.up, .int .i64 q.at_, .string q.txt]] x (RetOwn (doT rs q) x)) := fun q x h0 h1 h2 => implOpDo_any _ a cap rs q x (Nat.le_refl _) h1 hfit.out h0 h2
    have hrl : (doT rs o).length ≤ 1048576 := by have := doT_len rs o; omega
    generalize kbackO rs o = ko at *
    generalize kbackB rs o = kb at *
    simp only [keyV] at HS HM
    obtain ⟨x0, x1, x2, x3, x4⟩ := K1.cells
    go_wp2_with fail
    refine (HS.out w2 hr1).mono ?_
    rintro e w3 ⟨rfl, b3⟩
    have al3 := (Below.refl w3.heap.size w3).alloc (Nat.le_refl _) (.cells #[.int .i64 ko.kind, .int .i64 ko.id, .int .i64 ko.up, .int .i64 ko.at_, .string ko.txt] 27)
    have c3 := b3.trans (al3.mono b3.size)
    have hb3 := hb1.trans (c3.mono hb1.size)
    have hr3 := (hr1.below c3).mono c3.size
    have K3 := K1.below c3 K1.lt
    have P3 := OBox.new w3 ko
    have ht3 := ht.below hb3 hz
    clear b3 al3 c3 hb1 hr1 K1 ht1 x0 x1 x2 x3 x4
    go_upto_region 5 with fail
    generalize w3.alloc (.cells #[.int .i64 ko.kind, .int .i64 ko.id, .int .i64 ko.up, .int .i64 ko.at_, .string ko.txt] 27) = w4 at *
    generalize w3.heap.size = n3 at *
    obtain ⟨x0, x1, x2, x3, x4⟩ := K3.cells
    go_wp2_with fail
    refine (HM.out w4 hr3 ht3).mono ?_
    rintro e w5 ⟨rfl, b5⟩
    have al5 := (Below.refl w5.heap.size w5).alloc (Nat.le_refl _) (.cells #[.int .i64 ko.kind, .int .i64 ko.id, .int .i64 ko.up, .int .i64 ko.at_, .string ko.txt] 27)
    have c5 := b5.trans (al5.mono b5.size)
    have hb5 := hb3.trans (c5.mono hb3.size)
    have hr5 := (hr3.below c5).mono c5.size
    have K5 := K3.below c5 K3.lt
    have P5 := P3.below c5 P3.lt
    have Q5 := OBox.new w5 ko
    have ht5 := ht.below hb5 hz
    clear b5 al5 c5 hb3 hr3 K3 P3 ht3 x0 x1 x2 x3 x4
    go_upto_region 6 with fail
    generalize w5.alloc (.cells #[.int .i64 ko.kind, .int .i64 ko.id, .int .i64 ko.up, .int .i64 ko.at_, .string ko.txt] 27) = w6 at *
    generalize w5.heap.size = n5 at *
    obtain ⟨x0, x1, x2, x3, x4⟩ := K5.cells
    obtain ⟨p0, p1, p2, p3, p4⟩ := P5.cells
    obtain ⟨q0, q1, q2, q3, q4⟩ := Q5.cells
    clear HS HM
    cases kb
    · clear HD HO HK2 HO2
      go_wp2
      go_ret
      exact ⟨by first | rfl | simp, hb5⟩
    · by_cases hk : o.kind = 1
      · rw [hk] at x0
        clear HD HO HK2 HO2
        go_wp2
        go_ret
        exact ⟨by first | rfl | simp, hb5⟩
      · obtain ⟨d1, d2, d3, d4, d5⟩ := HD.out rfl hk
        have hfx := tree_fits d2
        have HKB : Hid (∀ (x : World) (xa : Option Addr) (xc : Nat), RowsAt x.heap.size x xa (doT rs o) → Tab x → Calls Tryd.prog 27 #[.slice xa (doT rs o).length xc, .agg #[.int .i64 ko.kind, .int .i64 ko.id, .int .i64 ko.up, .int .i64 ko.at_, .string ko.txt]] x (RetBelow (keyV (kbackO (doT rs o) ko) true) x)) := fun x xa xc h2 h3 => by
          have := HK2.out ko x xa xc hfx d1 h2 h3
          rwa [d3] at this
        have HOC : Hid (∀ x, RowsAt x.heap.size x a rs → Tab x → Calls Tryd.prog 16 #[.slice a rs.length cap, .agg #[.int .i64 (kbackO (doT rs o) ko).kind, .int .i64 (kbackO (doT rs o) ko).id, .int .i64 (kbackO (doT rs o) ko).up, .int .i64 (kbackO (doT rs o) ko).at_, .string (kbackO (doT rs o) ko).txt]] x (RetOwn (doT rs o) x)) := fun x h1 h2 => by
          have := HO2.out (kbackO (doT rs o) ko) x d5 h1 h2
          rwa [d4] at this
        have hk2 : (o.kind == 1) = false := by simp [hk]
        clear HD HK2 HO2 d1 d2 d3 d4 d5 hfx
        generalize kbackO (doT rs o) ko = kc at *
        generalize doT rs o = res at *
        simp only [keyV] at HKB
        go_wp2_with fail
        refine (HO.out w6 hr5 ht5).mono ?_
        rintro e w7 ⟨xa, xc, rfl, own7, hxc, b7⟩
        have hx7 := (got_own own7).rows
        have hb7 := hb5.trans (b7.mono hb5.size)
        have hr7 := (hr5.below b7).mono b7.size
        have Q7 := Q5.below b7 Q5.lt
        have ht7 := ht.below hb7 hz
        clear b7 hb5 hr5 K5 P5 Q5 ht5 own7 HO x0 x1 x2 x3 x4 p0 p1 p2 p3 p4 q0 q1 q2 q3 q4
        obtain ⟨q0, q1, q2, q3, q4⟩ := Q7.cells
        go_wp2_with fail
        refine (HKB.out w7 xa xc hx7 ht7).mono ?_
        rintro e w8 ⟨rfl, b8⟩
        have al8 := (Below.refl w8.heap.size w8).alloc (Nat.le_refl _) (.cells #[.int .i64 kc.kind, .int .i64 kc.id, .int .i64 kc.up, .int .i64 kc.at_, .string kc.txt] 27)
        have c8 := b8.trans (al8.mono b8.size)
        have hb8 := hb7.trans (c8.mono hb7.size)
        have hr8 := (hr7.below c8).mono c8.size
        have hx8 := (hx7.below c8).mono c8.size
        have C8 := OBox.new w8 kc
        have ht8 := ht.below hb8 hz
        clear b8 al8 c8 hb7 hr7 hx7 Q7 ht7 HKB q0 q1 q2 q3 q4
        go_upto_region 10 with fail
        generalize w8.alloc (.cells #[.int .i64 kc.kind, .int .i64 kc.id, .int .i64 kc.up, .int .i64 kc.at_, .string kc.txt] 27) = w9 at *
        generalize w8.heap.size = n8 at *
        obtain ⟨q0, q1, q2, q3, q4⟩ := C8.cells
        go_wp2_with fail
        refine (HOC.out w9 hr8 ht8).mono ?_
        rintro e w10 ⟨ya, yc, rfl, own10, hyc, b10⟩
        have hy10 := (got_own own10).rows
        have hb10 := hb8.trans (b10.mono hb8.size)
        have hx10 := (hx8.below b10).mono b10.size
        clear b10 hb8 hr8 hx8 C8 ht8 HOC own10 q0 q1 q2 q3 q4
        go_wp2_with fail
        refine (lpRows_same _ _ _ _ _ _ _ (Nat.le_refl _) hy10 hx10 hrl).mono ?_
        rintro e w11 ⟨rfl, b11⟩
        go_wp2
        go_ret
        exact ⟨by first | rfl | simp, hb10.trans (b11.mono hb10.size)⟩
  · exact fnBackTwice_long _ _ _ _ hlens
end Go.Proofs.YtklefdhjfadhpaaDoor
