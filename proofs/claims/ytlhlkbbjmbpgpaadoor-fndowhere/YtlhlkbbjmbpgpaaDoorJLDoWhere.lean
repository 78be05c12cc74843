/-
  The walk of the law FnDoWhere out of the contracts. Conditions: the argument reads as bytes; the table 'creators' holds what its initialiser lays.
-/
import Derived.Test.YtlhlkbbjmbpgpaaDoorGI
import Derived.Test.YtlhlkbbjmbpgpaaDoorJDrawWh
import Derived.Test.YtlhlkbbjmbpgpaaDoorGH
import Derived.Test.YtlhlkbbjmbpgpaaDoorJLDoTwice
import Derived.Test.YtlhlkbbjmbpgpaaDoorGB
import Derived.Deep.RegionHeld3
namespace Go.Proofs.YtlhlkbbjmbpgpaaDoor
open Go.ChangeShapes Go.WideShapes Go.ChangeAt Go.RowKit Go.Joins

theorem doWhere_facts {rs : List RowD} {o : OpD} (h1 : treeB rs = true) (h2 : opokB o = true) : (owB rs o = false → o.kind ≠ 2 → doT rs o = rs) ∧ (owB rs o = true → hasB (doT rs o) o.id = true ∧ upI (doT rs o) o.id = owU rs o ∧ ahB (doT rs o) o.id = true ∧ ahI (doT rs o) o.id = owA rs o) := by
  obtain ⟨e1, e2, e3⟩ := ow_yes (rs := rs) (o := o) (by rw [h1, h2]; rfl)
  rw [e1, e2, e3, doT_eq h1 h2]
  refine ⟨fun g hk => ?_, fun g => ?_⟩
  · have hn : noWhereB rs o = true := by simpa using g
    unfold doR
    rw [if_neg hk, if_pos hn]
  · have hn : noWhereB rs o = false := by simpa using g
    obtain ⟨g1, g2, g3⟩ := do_where h1 h2 hn
    have hx := do_tree h1 h2
    have hh : hasB (doR rs o) o.id = true := hasB_iff.2 ⟨hx, there_iff.1 g1⟩
    have ha : ahB (doR rs o) o.id = true := by unfold ahB; rw [hh, made_root (opok_made h2)]; rfl
    refine ⟨hh, ?_, ha, ?_⟩
    · unfold upI; rw [hh, if_pos rfl]; exact g2
    · unfold ahI; rw [ha, if_pos rfl]; exact g3
theorem fnDoWhere_long (a0 : Option Addr) (len0 cap0 : Nat) (w : World) (h : ¬ (len0 : Int) ≤ 1048576) :
    Calls Tryd.prog 7 #[.slice a0 len0 cap0] w fun e w' => e = .returned (.bool true) ∧ Below w.heap.size w w' := by
  go_enter Tryd.func7, Tryd.ntmps7
  go_wp2
  go_ret
  exact ⟨rfl, Below.refl _ _⟩
set_option maxRecDepth 100000 in
set_option maxHeartbeats 4000000 in
theorem fnDoWhere_walk (w : World) (ht : Tab w) (a0 : Option Addr) (len0 cap0 : Nat) (b0 : Bytes w a0 len0 cap0) :
    Calls Tryd.prog 7 #[.slice a0 len0 cap0] w fun e w' => e = .returned (.bool true) ∧ Below w.heap.size w w' := by
  have hz := ht.pos
  by_cases hlens : (len0 : Int) ≤ 1048576
  · have hl0 := hlens
    go_enter Tryd.func7, Tryd.ntmps7
    go_wp2_with fail
    refine (drawOpWhere_any _ _ _ _ b0).mono ?_
    rintro e w1 ⟨a, cap, rs, o, ho, rfl, hl, hb⟩
    have hlen := hl.len
    have hcap := hl.cap
    have hfit := Lib.hid hl.fit
    have hofit := Lib.hid ho.fit
    have hal : Below w1.heap.size w1 (w1.alloc (.cells #[.int .i64 o.kind, .int .i64 o.id, .int .i64 o.up, .int .i64 o.at_, .string o.txt] 25)) := (Below.refl _ _).alloc (Nat.le_refl _) _
    have hb1 := hb.trans (hal.mono hb.size)
    have hr1 := (hl.rows.below hal).mono hal.size
    clear hl b0 hb
    go_wp2_with fail
    refine (specOpWhere_any _ _ _ _ _ _ (Nat.le_refl _) hr1 hfit.out hofit.out).mono ?_
    rintro e w2 ⟨rfl, hb2⟩
    have HB : Hid (∀ x, Below w2.heap.size w2 x → x.cell? ⟨w1.heap.size, 0, none⟩ = some (.int .i64 o.kind) ∧ x.cell? ⟨w1.heap.size, 1, none⟩ = some (.int .i64 o.id) ∧ x.cell? ⟨w1.heap.size, 2, none⟩ = some (.int .i64 o.up) ∧ x.cell? ⟨w1.heap.size, 3, none⟩ = some (.int .i64 o.at_) ∧ x.cell? ⟨w1.heap.size, 4, none⟩ = some (.string o.txt)) := fun x hx => ((OBox.new w1 o).below (hb2.trans (hx.mono hb2.size)) (OBox.new w1 o).lt).cells
    have hbw2 := Lib.hid (Nat.lt_of_lt_of_le (OBox.new w1 o).lt hb2.size)
    have hr2 := (hr1.below hb2).mono hb2.size
    have b2 := hb1.trans (hb2.mono hb1.size)
    have ht2 := ht.below b2 hz
    have HI : Hid (∀ x, RowsAt x.heap.size x a rs → Tab x → Calls Tryd.prog 23 #[.slice a rs.length cap, .agg #[.int .i64 o.kind, .int .i64 o.id, .int .i64 o.up, .int .i64 o.at_, .string o.txt]] x (RetBelow (.tuple #[.int .i64 (owU rs o), .int .i64 (owA rs o), .bool (owB rs o)]) x)) := fun x h1 h2 => implOpWhere_any _ a cap rs o x (Nat.le_refl _) h1 hfit.out hofit.out h2
    have HD : Hid (treeB rs = true → opokB o = true → (owB rs o = false → o.kind ≠ 2 → doT rs o = rs) ∧ (owB rs o = true → hasB (doT rs o) o.id = true ∧ upI (doT rs o) o.id = owU rs o ∧ ahB (doT rs o) o.id = true ∧ ahI (doT rs o) o.id = owA rs o)) := fun h1 h2 => doWhere_facts h1 h2
    clear hr1 hb2 hal hb1
    generalize owU rs o = wu at *
    generalize owA rs o = wa at *
    generalize owB rs o = wb at *
    obtain ⟨x0, x1, x2, x3, x4⟩ := HB.out w2 (Below.refl _ _)
    go_wp2_with fail
    refine (HI.out w2 hr2 ht2).mono ?_
    rintro e w3 ⟨rfl, hb3⟩
    have hr3 := (hr2.below hb3).mono hb3.size
    have b3 := b2.trans (hb3.mono b2.size)
    have c3 := hb3
    have ht3 := ht.below b3 hz
    clear x0 x1 x2 x3 x4 hr2 b2 hb3 ht2
    obtain ⟨x0, x1, x2, x3, x4⟩ := HB.out w3 c3
    go_wp2_with fail
    refine (specTreeOk_any _ _ _ _ _ (Nat.le_refl _) hr3 hfit.out).mono ?_
    rintro e w5 ⟨rfl, hb5⟩
    have hr5 := (hr3.below hb5).mono hb5.size
    have b5 := b3.trans (hb5.mono b3.size)
    have c5 := c3.trans (hb5.mono c3.size)
    clear hr3 b3 c3 hb5 ht3 x0 x1 x2 x3 x4
    obtain ⟨x0, x1, x2, x3, x4⟩ := HB.out w5 c5
    cases hT : treeB rs
    · go_wp2
      go_ret
      exact ⟨by first | rfl | simp, b5⟩
    · go_wp2_with fail
      refine (specOpOk_any o _ hofit.out).mono ?_
      rintro e w6 ⟨rfl, hb6⟩
      have hr6 := (hr5.below hb6).mono hb6.size
      have b6 := b5.trans (hb6.mono b5.size)
      have c6 := c5.trans (hb6.mono c5.size)
      have ht6 := ht.below b6 hz
      clear x0 x1 x2 x3 x4 hr5 b5 c5 hb6
      obtain ⟨x0, x1, x2, x3, x4⟩ := HB.out w6 c6
      cases hK : opokB o
      · go_wp2
        go_ret
        exact ⟨by first | rfl | simp, b6⟩
      · have HD' := Lib.hid (HD.out hT hK)
        have hrl : (doT rs o).length ≤ 1048576 := by have := doT_len rs o; omega
        have hR := Lib.hid (doT_tree hT hK)
        have hfx := Lib.hid (tree_fit hR.out hrl)
        have HU : Hid (∀ x xa xc, RowsAt x.heap.size x xa (doT rs o) → Tab x → Calls Tryd.prog 33 #[.slice xa (doT rs o).length xc, .int .i64 o.id] x (RetBelow (.tuple #[.int .i64 (upI (doT rs o) o.id), .bool (hasB (doT rs o) o.id)]) x)) := fun x xa xc h1 h2 => implTreeUp_any _ xa xc _ o.id x (Nat.le_refl _) h1 hfx.out h2
        have HA : Hid (∀ x xa xc, RowsAt x.heap.size x xa (doT rs o) → Tab x → Calls Tryd.prog 34 #[.slice xa (doT rs o).length xc, .int .i64 o.id] x (RetBelow (.tuple #[.int .i64 (ahI (doT rs o) o.id), .bool (ahB (doT rs o) o.id)]) x)) := fun x xa xc h1 h2 => implTreeAhead_any _ xa xc _ o.id x (Nat.le_refl _) h1 hfx.out h2
        have HO : Hid (Calls Tryd.prog 29 #[.slice a rs.length cap, .agg #[.int .i64 o.kind, .int .i64 o.id, .int .i64 o.up, .int .i64 o.at_, .string o.txt]] w6 (RetOwn (doT rs o) w6)) := implOpDo_any _ a cap rs o w6 (Nat.le_refl _) hr6 hfit.out hofit.out ht6
        clear HD hR hT hK hfx
        generalize doT rs o = res at *
        cases wb
        · have H1 := Lib.hid (HD'.out.1 rfl)
          clear HD' HU HA
          go_wp2_with fail
          refine HO.out.mono ?_
          rintro e w7 ⟨xa, xc, rfl, own7, hxc, hb7⟩
          have hx7 := (got_own own7).rows
          have hr7 := (hr6.below hb7).mono hb7.size
          have b7 := b6.trans (hb7.mono b6.size)
          have c7 := c6.trans (hb7.mono c6.size)
          clear x0 x1 x2 x3 x4 hr6 b6 c6 hb7 own7 ht6 HO
          obtain ⟨x0, x1, x2, x3, x4⟩ := HB.out w7 c7
          by_cases hk : o.kind = 2
          · rw [hk] at x0
            go_wp2
            go_ret
            exact ⟨rfl, b7⟩
          · have e := H1.out hk
            subst e
            generalize hkd : o.kind = kd at *
            go_wp2_with fail
            refine (lpRows_same _ _ _ _ _ _ _ (Nat.le_refl _) hx7 hr7 hrl).mono ?_
            rintro e w8 ⟨rfl, hb8⟩
            have b8 := b7.trans (hb8.mono b7.size)
            go_wp2
            go_ret
            exact ⟨by first | rfl | simp, b8⟩
        · obtain ⟨f1, f2, f3, f4⟩ := HD'.out.2 rfl
          rw [f1, f2] at HU
          rw [f3, f4] at HA
          clear HD' f1 f2 f3 f4
          go_wp2_with fail
          refine HO.out.mono ?_
          rintro e w7 ⟨xa, xc, rfl, own7, hxc, hb7⟩
          have hx7 := (got_own own7).rows
          have b7 := b6.trans (hb7.mono b6.size)
          have c7 := c6.trans (hb7.mono c6.size)
          have ht7 := ht.below b7 hz
          clear x0 x1 x2 x3 x4 hr6 b6 c6 hb7 own7 ht6 HO
          obtain ⟨x0, x1, x2, x3, x4⟩ := HB.out w7 c7
          go_wp2_with fail
          refine (HU.out _ _ _ hx7 ht7).mono ?_
          rintro e w8 ⟨rfl, hb8⟩
          have hx8 := (hx7.below hb8).mono hb8.size
          have b8 := b7.trans (hb8.mono b7.size)
          have c8 := c7.trans (hb8.mono c7.size)
          have ht8 := ht.below b8 hz
          clear x0 x1 x2 x3 x4 hx7 b7 c7 hb8 ht7
          obtain ⟨x0, x1, x2, x3, x4⟩ := HB.out w8 c8
          go_wp2_with fail
          refine (HA.out _ _ _ hx8 ht8).mono ?_
          rintro e w9 ⟨rfl, hb9⟩
          have b9 := b8.trans (hb9.mono b8.size)
          go_wp2
          go_ret
          exact ⟨by first | rfl | simp, b9⟩
  · exact fnDoWhere_long _ _ _ _ hlens
end Go.Proofs.YtlhlkbbjmbpgpaaDoor
