/-
  The walk of the law FnBackNot out of the contracts. Conditions: the argument reads as bytes; the table 'creators' holds what its initialiser lays.
-/
import Derived.Test.YtklefdhjfadhpaaDoorJDrawKB
import Derived.Test.YtklefdhjfadhpaaDoorJLpDiff
import Derived.Test.YtklefdhjfadhpaaDoorJLpRows
import Derived.Test.YtklefdhjfadhpaaDoorGB
import Derived.Test.YtklefdhjfadhpaaDoorJKeyM
namespace Go.Proofs.YtklefdhjfadhpaaDoor
open Go.ChangeShapes Go.WideShapes Go.ChangeAt Go.RowKit Go.Joins


theorem fnBackNot_long (a0 : Option Addr) (len0 cap0 : Nat) (w : World) (h : ¬ (len0 : Int) ≤ 1048576) :
    Calls Tryd.prog 6 #[.slice a0 len0 cap0] w fun e w' => e = .returned (.bool true) ∧ Below w.heap.size w w' := by
  go_enter Tryd.func6, Tryd.ntmps6
  go_wp2
  go_ret
  exact ⟨rfl, Below.refl _ _⟩
set_option maxRecDepth 100000 in
set_option maxHeartbeats 4000000 in
theorem fnBackNot_walk (w : World) (ht : Tab w) (a0 : Option Addr) (len0 cap0 : Nat) (b0 : Bytes w a0 len0 cap0) :
    Calls Tryd.prog 6 #[.slice a0 len0 cap0] w fun e w' => e = .returned (.bool true) ∧ Below w.heap.size w w' := by
  have hz := ht.pos
  by_cases hlens : (len0 : Int) ≤ 1048576
  · go_enter Tryd.func6, Tryd.ntmps6
    go_wp2_with fail
    refine (drawKeyBack_any _ _ _ _ b0).mono ?_
    rintro e w1 ⟨a, cap, rs, o, ho, rfl, hl, hb⟩
    have hlen := hl.len
    have hcap := Lib.hid hl.cap
    have hfit := Lib.hid hl.fit
    have hofit := Lib.hid ho.fit
    have hal : Below w1.heap.size w1 (w1.alloc (.cells #[.int .i64 o.kind, .int .i64 o.id, .int .i64 o.up, .int .i64 o.at_, .string o.txt] 27)) := (Below.refl _ _).alloc (Nat.le_refl _) _
    have hb1 := hb.trans (hal.mono hb.size)
    have hr1 := (hl.rows.below hal).mono hal.size
    have K1 := OBox.new w1 o
    have ht1 := ht.below hb1 hz
    clear hl b0 hb hal
    go_upto_region 4 with fail
    generalize w1.alloc (.cells #[.int .i64 o.kind, .int .i64 o.id, .int .i64 o.up, .int .i64 o.at_, .string o.txt] 27) = w2 at *
    generalize w1.heap.size = n1 at *
    have HS : Hid (∀ x, RowsAt x.heap.size x a rs → Calls Tryd.prog 26 #[.slice a rs.length cap, .agg #[.int .i64 o.kind, .int .i64 o.id, .int .i64 o.up, .int .i64 o.at_, .string o.txt]] x (RetBelow (keyV (kbackO rs o) (kbackB rs o)) x)) := fun x h => specKeyBack_any _ a cap rs o x (Nat.le_refl _) h hfit.out hofit.out hcap.out.1 hcap.out.2
    have HM : Hid (∀ x, RowsAt x.heap.size x a rs → Tab x → Calls Tryd.prog 27 #[.slice a rs.length cap, .agg #[.int .i64 o.kind, .int .i64 o.id, .int .i64 o.up, .int .i64 o.at_, .string o.txt]] x (RetBelow (keyV (kbackO rs o) (kbackB rs o)) x)) := fun x h1 h2 => implKeyBack_any _ a cap rs o x (Nat.le_refl _) h1 hfit.out hofit.out h2
    have HD : Hid (kbackB rs o = true → treeB rs = true ∧ opokB o = true ∧ doT rs o ≠ rs) := fun q => by
      obtain ⟨h1, h2, h3⟩ := kback_iff.1 q
      exact ⟨h1, h2, by rw [doT_is h1 h2]; exact h3⟩
    have HN : Hid (kbackB rs o = false → treeB rs = true → opokB o = true → doT rs o = rs) := fun q h1 h2 => by
      rw [doT_is h1 h2]
      exact Classical.byContradiction fun g => by rw [kback_iff.2 ⟨h1, h2, g⟩] at q; cases q
    have HO : Hid (∀ x, RowsAt x.heap.size x a rs → Tab x → Calls Tryd.prog 16 #[.slice a rs.length cap, .agg #[.int .i64 o.kind, .int .i64 o.id, .int .i64 o.up, .int .i64 o.at_, .string o.txt]] x (RetOwn (doT rs o) x)) := fun x h1 h2 => implOpDo_any _ a cap rs o x (Nat.le_refl _) h1 hfit.out hofit.out h2
    have hrl : (doT rs o).length ≤ 1048576 := by have := doT_len rs o; omega
    generalize kbackO rs o = ko at *
    generalize kbackB rs o = kb at *
    simp only [keyV] at HS HM
    obtain ⟨x0, x1, x2, x3, x4⟩ := K1.cells
    go_wp2_with fail
    refine (HS.out w2 hr1).mono ?_
    rintro e w3 ⟨rfl, b3⟩
    have al3 := (Below.refl w3.heap.size w3).alloc (Nat.le_refl _) (.cells #[.int .i64 ko.kind, .int .i64 ko.id, .int .i64 ko.up, .int .i64 ko.at_, .string ko.txt] 27)
    have c3 := b3.trans (al3.mono b3.size)
    have hb3 := hb1.trans (c3.mono hb1.size)
    have hr3 := (hr1.below c3).mono c3.size
    have K3 := K1.below c3 K1.lt
    have P3 := OBox.new w3 ko
    have ht3 := ht.below hb3 hz
    clear b3 al3 c3 hb1 hr1 K1 ht1 x0 x1 x2 x3 x4
    go_upto_region 5 with fail
    generalize w3.alloc (.cells #[.int .i64 ko.kind, .int .i64 ko.id, .int .i64 ko.up, .int .i64 ko.at_, .string ko.txt] 27) = w4 at *
    generalize w3.heap.size = n3 at *
    obtain ⟨x0, x1, x2, x3, x4⟩ := K3.cells
    go_wp2_with fail
    refine (HM.out w4 hr3 ht3).mono ?_
    rintro e w5 ⟨rfl, b5⟩
    have al5 := (Below.refl w5.heap.size w5).alloc (Nat.le_refl _) (.cells #[.int .i64 ko.kind, .int .i64 ko.id, .int .i64 ko.up, .int .i64 ko.at_, .string ko.txt] 27)
    have c5 := b5.trans (al5.mono b5.size)
    have hb5 := hb3.trans (c5.mono hb3.size)
    have hr5 := (hr3.below c5).mono c5.size
    have K5 := K3.below c5 K3.lt
    have P5 := P3.below c5 P3.lt
    have Q5 := OBox.new w5 ko
    have ht5 := ht.below hb5 hz
    clear b5 al5 c5 hb3 hr3 K3 P3 ht3 x0 x1 x2 x3 x4
    go_upto_region 6 with fail
    generalize w5.alloc (.cells #[.int .i64 ko.kind, .int .i64 ko.id, .int .i64 ko.up, .int .i64 ko.at_, .string ko.txt] 27) = w6 at *
    generalize w5.heap.size = n5 at *
    obtain ⟨x0, x1, x2, x3, x4⟩ := K5.cells
    obtain ⟨p0, p1, p2, p3, p4⟩ := P5.cells
    obtain ⟨q0, q1, q2, q3, q4⟩ := Q5.cells
    clear HS HM
    cases kb
    · cases htb : treeB rs
      · clear HD HN HO
        go_wp2_with fail
        refine (specTreeOk_any _ _ _ _ _ (Nat.le_refl _) hr5 hfit.out).mono ?_
        rintro e w7 ⟨rfl, b7⟩
        have hb7 := hb5.trans (b7.mono hb5.size)
        have hr7 := (hr5.below b7).mono b7.size
        have K7 := K5.below b7 K5.lt
        have P7 := P5.below b7 P5.lt
        have Q7 := Q5.below b7 Q5.lt
        have ht7 := ht.below hb7 hz
        clear b7 hb5 hr5 K5 P5 Q5 ht5 x0 x1 x2 x3 x4 p0 p1 p2 p3 p4 q0 q1 q2 q3 q4
        rw [htb]
        obtain ⟨x0, x1, x2, x3, x4⟩ := K7.cells
        obtain ⟨p0, p1, p2, p3, p4⟩ := P7.cells
        obtain ⟨q0, q1, q2, q3, q4⟩ := Q7.cells
        go_wp2
        go_ret
        exact ⟨by first | rfl | simp, hb7⟩
      · cases hok : opokB o
        · clear HD HN HO
          go_wp2_with fail
          refine (specTreeOk_any _ _ _ _ _ (Nat.le_refl _) hr5 hfit.out).mono ?_
          rintro e w7 ⟨rfl, b7⟩
          have hb7 := hb5.trans (b7.mono hb5.size)
          have hr7 := (hr5.below b7).mono b7.size
          have K7 := K5.below b7 K5.lt
          have P7 := P5.below b7 P5.lt
          have Q7 := Q5.below b7 Q5.lt
          have ht7 := ht.below hb7 hz
          clear b7 hb5 hr5 K5 P5 Q5 ht5 x0 x1 x2 x3 x4 p0 p1 p2 p3 p4 q0 q1 q2 q3 q4
          rw [htb]
          obtain ⟨x0, x1, x2, x3, x4⟩ := K7.cells
          obtain ⟨p0, p1, p2, p3, p4⟩ := P7.cells
          obtain ⟨q0, q1, q2, q3, q4⟩ := Q7.cells
          go_wp2_with fail
          refine (specOpOk_any o _ hofit.out).mono ?_
          rintro e w8 ⟨rfl, b8⟩
          have hb8 := hb7.trans (b8.mono hb7.size)
          have hr8 := (hr7.below b8).mono b8.size
          have K8 := K7.below b8 K7.lt
          have P8 := P7.below b8 P7.lt
          have Q8 := Q7.below b8 Q7.lt
          have ht8 := ht.below hb8 hz
          clear b8 hb7 hr7 K7 P7 Q7 ht7 x0 x1 x2 x3 x4 p0 p1 p2 p3 p4 q0 q1 q2 q3 q4
          rw [hok]
          obtain ⟨x0, x1, x2, x3, x4⟩ := K8.cells
          obtain ⟨p0, p1, p2, p3, p4⟩ := P8.cells
          obtain ⟨q0, q1, q2, q3, q4⟩ := Q8.cells
          go_wp2
          go_ret
          exact ⟨by first | rfl | simp, hb8⟩
        · have hsame := HN.out rfl htb hok
          rw [hsame] at HO
          clear HD HN hsame hrl
          go_wp2_with fail
          refine (specTreeOk_any _ _ _ _ _ (Nat.le_refl _) hr5 hfit.out).mono ?_
          rintro e w7 ⟨rfl, b7⟩
          have hb7 := hb5.trans (b7.mono hb5.size)
          have hr7 := (hr5.below b7).mono b7.size
          have K7 := K5.below b7 K5.lt
          have P7 := P5.below b7 P5.lt
          have Q7 := Q5.below b7 Q5.lt
          have ht7 := ht.below hb7 hz
          clear b7 hb5 hr5 K5 P5 Q5 ht5 x0 x1 x2 x3 x4 p0 p1 p2 p3 p4 q0 q1 q2 q3 q4
          rw [htb]
          obtain ⟨x0, x1, x2, x3, x4⟩ := K7.cells
          obtain ⟨p0, p1, p2, p3, p4⟩ := P7.cells
          obtain ⟨q0, q1, q2, q3, q4⟩ := Q7.cells
          go_wp2_with fail
          refine (specOpOk_any o _ hofit.out).mono ?_
          rintro e w8 ⟨rfl, b8⟩
          have hb8 := hb7.trans (b8.mono hb7.size)
          have hr8 := (hr7.below b8).mono b8.size
          have K8 := K7.below b8 K7.lt
          have P8 := P7.below b8 P7.lt
          have Q8 := Q7.below b8 Q7.lt
          have ht8 := ht.below hb8 hz
          clear b8 hb7 hr7 K7 P7 Q7 ht7 x0 x1 x2 x3 x4 p0 p1 p2 p3 p4 q0 q1 q2 q3 q4
          rw [hok]
          obtain ⟨x0, x1, x2, x3, x4⟩ := K8.cells
          obtain ⟨p0, p1, p2, p3, p4⟩ := P8.cells
          obtain ⟨q0, q1, q2, q3, q4⟩ := Q8.cells
          go_wp2_with fail
          refine (HO.out w8 hr8 ht8).mono ?_
          rintro e w9 ⟨xa, xc, rfl, own9, hxc, b9⟩
          have hx9 := (got_own own9).rows
          have hb9 := hb8.trans (b9.mono hb8.size)
          have hr9 := (hr8.below b9).mono b9.size
          clear b9 hb8 hr8 K8 P8 Q8 ht8 own9 HO x0 x1 x2 x3 x4 p0 p1 p2 p3 p4 q0 q1 q2 q3 q4
          go_wp2_with fail
          refine (lpRows_same _ _ _ _ _ _ _ (Nat.le_refl _) hx9 hr9 (by omega)).mono ?_
          rintro e w10 ⟨rfl, b10⟩
          go_wp2
          go_ret
          exact ⟨by first | rfl | simp, hb9.trans (b10.mono hb9.size)⟩
    · obtain ⟨htb, hok, hne⟩ := HD.out rfl
      have HNE := Lib.hid hne
      clear HD HN hne
      generalize doT rs o = res at *
      go_wp2_with fail
      refine (specTreeOk_any _ _ _ _ _ (Nat.le_refl _) hr5 hfit.out).mono ?_
      rintro e w7 ⟨rfl, b7⟩
      have hb7 := hb5.trans (b7.mono hb5.size)
      have hr7 := (hr5.below b7).mono b7.size
      have K7 := K5.below b7 K5.lt
      have P7 := P5.below b7 P5.lt
      have Q7 := Q5.below b7 Q5.lt
      have ht7 := ht.below hb7 hz
      clear b7 hb5 hr5 K5 P5 Q5 ht5 x0 x1 x2 x3 x4 p0 p1 p2 p3 p4 q0 q1 q2 q3 q4
      rw [htb]
      obtain ⟨x0, x1, x2, x3, x4⟩ := K7.cells
      obtain ⟨p0, p1, p2, p3, p4⟩ := P7.cells
      obtain ⟨q0, q1, q2, q3, q4⟩ := Q7.cells
      go_wp2_with fail
      refine (specOpOk_any o _ hofit.out).mono ?_
      rintro e w8 ⟨rfl, b8⟩
      have hb8 := hb7.trans (b8.mono hb7.size)
      have hr8 := (hr7.below b8).mono b8.size
      have K8 := K7.below b8 K7.lt
      have P8 := P7.below b8 P7.lt
      have Q8 := Q7.below b8 Q7.lt
      have ht8 := ht.below hb8 hz
      clear b8 hb7 hr7 K7 P7 Q7 ht7 x0 x1 x2 x3 x4 p0 p1 p2 p3 p4 q0 q1 q2 q3 q4
      rw [hok]
      obtain ⟨x0, x1, x2, x3, x4⟩ := K8.cells
      obtain ⟨p0, p1, p2, p3, p4⟩ := P8.cells
      obtain ⟨q0, q1, q2, q3, q4⟩ := Q8.cells
      go_wp2_with fail
      refine (HO.out w8 hr8 ht8).mono ?_
      rintro e w9 ⟨xa, xc, rfl, own9, hxc, b9⟩
      have hx9 := (got_own own9).rows
      have hb9 := hb8.trans (b9.mono hb8.size)
      have hr9 := (hr8.below b9).mono b9.size
      clear b9 hb8 hr8 K8 P8 Q8 ht8 own9 HO x0 x1 x2 x3 x4 p0 p1 p2 p3 p4 q0 q1 q2 q3 q4
      go_wp2_with fail
      refine (lpRows_diff _ _ _ _ _ _ _ hx9 hr9 hrl (by omega) HNE.out).mono ?_
      rintro e w10 ⟨rfl, b10⟩
      go_wp2
      go_ret
      exact ⟨by first | rfl | simp, hb9.trans (b10.mono hb9.size)⟩
  · exact fnBackNot_long _ _ _ _ hlens
end Go.Proofs.YtklefdhjfadhpaaDoor
