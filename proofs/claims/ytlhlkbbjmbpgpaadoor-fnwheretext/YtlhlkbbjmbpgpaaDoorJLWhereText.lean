/-
  The walk of the law FnWhereText out of the contracts. Conditions: the arguments read as bytes; the table 'creators' holds what its initialiser lays.
-/
import Derived.Test.YtlhlkbbjmbpgpaaDoorGI
import Derived.Test.YtlhlkbbjmbpgpaaDoorJDrawWh
import Derived.Test.YtlhlkbbjmbpgpaaDoorGH
import Derived.Test.YtlhlkbbjmbpgpaaDoorJLDoTwice
import Derived.Deep.RegionHeld3
namespace Go.Proofs.YtlhlkbbjmbpgpaaDoor
open Go.ChangeShapes Go.WideShapes Go.ChangeAt Go.RowKit Go.Joins

theorem whereText_facts {rs : List RowD} {o : OpD} (h1 : treeB rs = true) (_h2 : opokB o = true) (q : Int) (q1 : 11 ≤ q) (q3 : q ≤ 13) : treeB (doT rs ⟨2, q, 0, 0, ⟨#[98, 97, 100]⟩⟩) = true ∧ owU (doT rs ⟨2, q, 0, 0, ⟨#[98, 97, 100]⟩⟩) o = owU rs o ∧ owA (doT rs ⟨2, q, 0, 0, ⟨#[98, 97, 100]⟩⟩) o = owA rs o ∧ owB (doT rs ⟨2, q, 0, 0, ⟨#[98, 97, 100]⟩⟩) o = owB rs o := by
  have hm : madeB q = true := (madeB_iff _).2 (by omega)
  have hp : opokB ⟨2, q, 0, 0, ⟨#[98, 97, 100]⟩⟩ = true := by
    unfold opokB
    rw [if_neg (show ¬ (2 : Int) = 1 by decide), if_pos rfl]
    show ((0 : Int) == 0) && ((0 : Int) == 0) && madeB q && textB ⟨#[98, 97, 100]⟩ = true
    rw [hm]; decide
  rw [doT_eq h1 hp]
  have hx := do_tree h1 hp
  have hS := shp_text (rs := rs) (p := ⟨2, q, 0, 0, ⟨#[98, 97, 100]⟩⟩) rfl
  refine ⟨hx, ?_, ?_, ?_⟩
  · unfold owU; rw [hx, h1, hS.whU]
  · unfold owA; rw [hx, h1, hS.whA]
  · unfold owB; rw [hx, h1, hS.noWh]
theorem fnWhereText_long (a0 : Option Addr) (len0 cap0 : Nat) (a1 : Option Addr) (len1 cap1 : Nat) (w : World) (h : ¬ ((len0 : Int) ≤ 1048576 ∧ (len1 : Int) ≤ 1048576)) :
    Calls Tryd.prog 4 #[.slice a0 len0 cap0, .slice a1 len1 cap1] w fun e w' => e = .returned (.bool true) ∧ Below w.heap.size w w' := by
  by_cases h0 : (len0 : Int) ≤ 1048576
  · have h1 : ¬ (len1 : Int) ≤ 1048576 := fun g => h ⟨h0, g⟩
    clear h
    go_enter Tryd.func4, Tryd.ntmps4
    go_wp2
    go_ret
    exact ⟨rfl, Below.refl _ _⟩
  · clear h
    go_enter Tryd.func4, Tryd.ntmps4
    go_wp2
    go_ret
    exact ⟨rfl, Below.refl _ _⟩
set_option maxRecDepth 100000 in
set_option maxHeartbeats 4000000 in
theorem fnWhereText_walk (w : World) (ht : Tab w) (a0 : Option Addr) (len0 cap0 : Nat) (b0 : Bytes w a0 len0 cap0) (a1 : Option Addr) (len1 cap1 : Nat) (_b1 : Bytes w a1 len1 cap1) :
    Calls Tryd.prog 4 #[.slice a0 len0 cap0, .slice a1 len1 cap1] w fun e w' => e = .returned (.bool true) ∧ Below w.heap.size w w' := by
  have hz := ht.pos
  by_cases hlens : (len0 : Int) ≤ 1048576 ∧ (len1 : Int) ≤ 1048576
  · obtain ⟨hl0, hl1⟩ := hlens
    go_enter Tryd.func4, Tryd.ntmps4
    go_wp2_with fail
    refine (drawOpWhere_any _ _ _ _ b0).mono ?_
    rintro e w1 ⟨a, cap, rs, o, ho, rfl, hl, hb⟩
    have hlen := hl.len
    have hcap := hl.cap
    have hfit := Lib.hid hl.fit
    have hofit := Lib.hid ho.fit
    have hal : Below w1.heap.size w1 (w1.alloc (.cells #[.int .i64 o.kind, .int .i64 o.id, .int .i64 o.up, .int .i64 o.at_, .string o.txt] 25)) := (Below.refl _ _).alloc (Nat.le_refl _) _
    have hb1 := hb.trans (hal.mono hb.size)
    have hr1 := (hl.rows.below hal).mono hal.size
    clear hl b0 hb _b1
    go_wp2_with fail
    refine (specOpWhere_any _ _ _ _ _ _ (Nat.le_refl _) hr1 hfit.out hofit.out).mono ?_
    rintro e w2 ⟨rfl, hb2⟩
    have HB : Hid (∀ x, Below w2.heap.size w2 x → x.cell? ⟨w1.heap.size, 0, none⟩ = some (.int .i64 o.kind) ∧ x.cell? ⟨w1.heap.size, 1, none⟩ = some (.int .i64 o.id) ∧ x.cell? ⟨w1.heap.size, 2, none⟩ = some (.int .i64 o.up) ∧ x.cell? ⟨w1.heap.size, 3, none⟩ = some (.int .i64 o.at_) ∧ x.cell? ⟨w1.heap.size, 4, none⟩ = some (.string o.txt)) := fun x hx => ((OBox.new w1 o).below (hb2.trans (hx.mono hb2.size)) (OBox.new w1 o).lt).cells
    have hbw2 := Lib.hid (Nat.lt_of_lt_of_le (OBox.new w1 o).lt hb2.size)
    have hr2 := (hr1.below hb2).mono hb2.size
    have b2 := hb1.trans (hb2.mono hb1.size)
    have ht2 := ht.below b2 hz
    have HI : Hid (∀ x, RowsAt x.heap.size x a rs → Tab x → Calls Tryd.prog 23 #[.slice a rs.length cap, .agg #[.int .i64 o.kind, .int .i64 o.id, .int .i64 o.up, .int .i64 o.at_, .string o.txt]] x (RetBelow (.tuple #[.int .i64 (owU rs o), .int .i64 (owA rs o), .bool (owB rs o)]) x)) := fun x h1 h2 => implOpWhere_any _ a cap rs o x (Nat.le_refl _) h1 hfit.out hofit.out h2
    have HD : Hid (treeB rs = true → opokB o = true → ∀ q : Int, 11 ≤ q → q ≤ 13 → treeB (doT rs ⟨2, q, 0, 0, ⟨#[98, 97, 100]⟩⟩) = true ∧ owU (doT rs ⟨2, q, 0, 0, ⟨#[98, 97, 100]⟩⟩) o = owU rs o ∧ owA (doT rs ⟨2, q, 0, 0, ⟨#[98, 97, 100]⟩⟩) o = owA rs o ∧ owB (doT rs ⟨2, q, 0, 0, ⟨#[98, 97, 100]⟩⟩) o = owB rs o) := fun h1 h2 q q1 q3 => whereText_facts h1 h2 q q1 q3
    clear hr1 hb2 hal hb1
    generalize owU rs o = wu at *
    generalize owA rs o = wa at *
    generalize owB rs o = wb at *
    obtain ⟨x0, x1, x2, x3, x4⟩ := HB.out w2 (Below.refl _ _)
    go_wp2_with fail
    refine (HI.out w2 hr2 ht2).mono ?_
    rintro e w3 ⟨rfl, hb3⟩
    have hr3 := (hr2.below hb3).mono hb3.size
    have b3 := b2.trans (hb3.mono b2.size)
    have c3 := hb3
    have ht3 := ht.below b3 hz
    clear x0 x1 x2 x3 x4 hr2 b2 hb3 ht2
    obtain ⟨x0, x1, x2, x3, x4⟩ := HB.out w3 c3
    go_wp2_with fail
    refine (specTreeOk_any _ _ _ _ _ (Nat.le_refl _) hr3 hfit.out).mono ?_
    rintro e w5 ⟨rfl, hb5⟩
    have hr5 := (hr3.below hb5).mono hb5.size
    have b5 := b3.trans (hb5.mono b3.size)
    have c5 := c3.trans (hb5.mono c3.size)
    clear hr3 b3 c3 hb5 ht3 x0 x1 x2 x3 x4
    obtain ⟨x0, x1, x2, x3, x4⟩ := HB.out w5 c5
    cases hT : treeB rs
    · go_wp2
      go_ret
      exact ⟨by first | rfl | simp, b5⟩
    · go_wp2_with fail
      refine (specOpOk_any o _ hofit.out).mono ?_
      rintro e w6 ⟨rfl, hb6⟩
      have hr6 := (hr5.below hb6).mono hb6.size
      have b6 := b5.trans (hb6.mono b5.size)
      have c6 := c5.trans (hb6.mono c5.size)
      have ht6 := ht.below b6 hz
      clear x0 x1 x2 x3 x4 hr5 b5 c5 hb6
      obtain ⟨x0, x1, x2, x3, x4⟩ := HB.out w6 c6
      cases hK : opokB o
      · go_wp2
        go_ret
        exact ⟨by first | rfl | simp, b6⟩
      · have q1 : 11 ≤ 11 + (len1 : Int) % 3 := by omega
        have q3 : 11 + (len1 : Int) % 3 ≤ 13 := by omega
        obtain ⟨q, hq⟩ : ∃ q, 11 + (len1 : Int) % 3 = q := ⟨_, rfl⟩
        rw [hq] at q1 q3
        obtain ⟨f1, f2, f3, f4⟩ := HD.out hT hK q q1 q3
        have hpf : Hid (OpFit ⟨2, q, 0, 0, ⟨#[98, 97, 100]⟩⟩) := ⟨⟨by dsimp only; omega, by dsimp only; omega⟩, ⟨by dsimp only; omega, by dsimp only; omega⟩, ⟨by dsimp only; omega, by dsimp only; omega⟩, by show (3 : Nat) ≤ maxLen; unfold maxLen; omega⟩
        have hrl : (doT rs ⟨2, q, 0, 0, ⟨#[98, 97, 100]⟩⟩).length ≤ 1048576 := by have := doT_len rs ⟨2, q, 0, 0, ⟨#[98, 97, 100]⟩⟩; omega
        have hfx := Lib.hid (tree_fit f1 hrl)
        have HW : Hid (∀ x xa xc, RowsAt x.heap.size x xa (doT rs ⟨2, q, 0, 0, ⟨#[98, 97, 100]⟩⟩) → Tab x → Calls Tryd.prog 23 #[.slice xa (doT rs ⟨2, q, 0, 0, ⟨#[98, 97, 100]⟩⟩).length xc, .agg #[.int .i64 o.kind, .int .i64 o.id, .int .i64 o.up, .int .i64 o.at_, .string o.txt]] x (RetBelow (.tuple #[.int .i64 wu, .int .i64 wa, .bool wb]) x)) := by
          intro x xa xc h1 h2
          have h3 := implOpWhere_any _ xa xc (doT rs ⟨2, q, 0, 0, ⟨#[98, 97, 100]⟩⟩) o x (Nat.le_refl _) h1 hfx.out hofit.out h2
          rwa [f2, f3, f4] at h3
        have HO : Hid (∀ x, RowsAt x.heap.size x a rs → Tab x → Calls Tryd.prog 29 #[.slice a rs.length cap, .agg #[.int .i64 2, .int .i64 q, .int .i64 0, .int .i64 0, .string ⟨#[98, 97, 100]⟩]] x (RetOwn (doT rs ⟨2, q, 0, 0, ⟨#[98, 97, 100]⟩⟩) x)) := fun x h1 h2 => implOpDo_any _ a cap rs ⟨2, q, 0, 0, ⟨#[98, 97, 100]⟩⟩ x (Nat.le_refl _) h1 hfit.out hpf.out h2
        clear HD hT hK hfx f1 f2 f3 f4 q1 q3 hpf
        generalize doT rs ⟨2, q, 0, 0, ⟨#[98, 97, 100]⟩⟩ = res at *
        go_wp2_with fail
        refine (HO.out _ hr6 ht6).mono ?_
        rintro e w7 ⟨xa, xc, rfl, own7, hxc, hb7⟩
        have hx7 := (got_own own7).rows
        have b7 := b6.trans (hb7.mono b6.size)
        have c7 := c6.trans (hb7.mono c6.size)
        have ht7 := ht.below b7 hz
        clear x0 x1 x2 x3 x4 hr6 b6 c6 hb7 own7 ht6 HO
        obtain ⟨x0, x1, x2, x3, x4⟩ := HB.out w7 c7
        go_wp2_with fail
        refine (HW.out _ _ _ hx7 ht7).mono ?_
        rintro e w8 ⟨rfl, hb8⟩
        have b8 := b7.trans (hb8.mono b7.size)
        go_wp2
        go_ret
        exact ⟨by first | rfl | simp, b8⟩
  · exact fnWhereText_long _ _ _ _ _ _ _ hlens
end Go.Proofs.YtlhlkbbjmbpgpaaDoor
