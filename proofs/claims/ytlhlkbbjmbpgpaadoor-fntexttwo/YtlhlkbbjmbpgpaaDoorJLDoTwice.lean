/-
  The walk of the law FnDoTwice out of the contracts. Conditions: the argument reads as bytes; the table 'creators' holds what its initialiser lays.
-/
import Derived.Test.YtlhlkbbjmbpgpaaDoorGI
import Derived.Test.YtlhlkbbjmbpgpaaDoorGH
import Derived.Deep.RegionHeld3
namespace Go.Proofs.YtlhlkbbjmbpgpaaDoor
open Go.ChangeShapes Go.WideShapes Go.ChangeAt Go.RowKit Go.Joins

theorem doT_eq {rs : List RowD} {o : OpD} (h1 : treeB rs = true) (h2 : opokB o = true) : doT rs o = doR rs o := by simp [doT, h1, h2]
theorem doT_twice {rs : List RowD} {o : OpD} (h1 : treeB rs = true) (h2 : opokB o = true) : doT (doT rs o) o = doT rs o := by
  rw [doT_eq h1 h2, doT_eq (do_tree h1 h2) h2, do_twice h1 h2]
theorem fnDoTwice_long (a0 : Option Addr) (len0 cap0 : Nat) (w : World) (h : ¬ (len0 : Int) ≤ 1048576) :
    Calls Tryd.prog 8 #[.slice a0 len0 cap0] w fun e w' => e = .returned (.bool true) ∧ Below w.heap.size w w' := by
  go_enter Tryd.func8, Tryd.ntmps8
  go_wp2
  go_ret
  exact ⟨rfl, Below.refl _ _⟩
set_option maxRecDepth 100000 in
set_option maxHeartbeats 4000000 in
theorem fnDoTwice_walk (w : World) (ht : Tab w) (a0 : Option Addr) (len0 cap0 : Nat) (b0 : Bytes w a0 len0 cap0) :
    Calls Tryd.prog 8 #[.slice a0 len0 cap0] w fun e w' => e = .returned (.bool true) ∧ Below w.heap.size w w' := by
  have hz := ht.pos
  by_cases hlens : (len0 : Int) ≤ 1048576
  · have hl0 := hlens
    go_enter Tryd.func8, Tryd.ntmps8
    go_wp2_with fail
    refine (drawOpDo_any _ _ _ _ b0).mono ?_
    rintro e w1 ⟨a, cap, rs, o, ho, rfl, hl, hb⟩
    have hlen := hl.len
    have hcap := hl.cap
    have hfit := Lib.hid hl.fit
    have hofit := Lib.hid ho.fit
    have hopS := Lib.hid ho
    have hal : Below w1.heap.size w1 (w1.alloc (.cells #[.int .i64 o.kind, .int .i64 o.id, .int .i64 o.up, .int .i64 o.at_, .string o.txt] 25)) := (Below.refl _ _).alloc (Nat.le_refl _) _
    have hb1 := hb.trans (hal.mono hb.size)
    have hr1 := (hl.rows.below hal).mono hal.size
    have ht1 := ht.below hb1 hz
    clear hl b0 hb
    go_wp2_with fail
    refine (implOpDo_any _ _ _ _ _ _ (Nat.le_refl _) hr1 hfit.out hofit.out ht1).mono ?_
    rintro e w2 ⟨xa, xc, rfl, own2, hxc, hb2⟩
    have HB : Hid (∀ x, Below w2.heap.size w2 x → x.cell? ⟨w1.heap.size, 0, none⟩ = some (.int .i64 o.kind) ∧ x.cell? ⟨w1.heap.size, 1, none⟩ = some (.int .i64 o.id) ∧ x.cell? ⟨w1.heap.size, 2, none⟩ = some (.int .i64 o.up) ∧ x.cell? ⟨w1.heap.size, 3, none⟩ = some (.int .i64 o.at_) ∧ x.cell? ⟨w1.heap.size, 4, none⟩ = some (.string o.txt)) := fun x hx => ((OBox.new w1 o).below (hb2.trans (hx.mono hb2.size)) (OBox.new w1 o).lt).cells
    have hr2 := (hr1.below hb2).mono hb2.size
    have hx2 := (got_own own2).rows
    have HXC := Lib.hid (own_capm own2)
    have b2 := hb1.trans (hb2.mono hb1.size)
    have hrl : (doT rs o).length ≤ 1048576 := by have := doT_len rs o; omega
    have HT : Hid (treeB rs = true → opokB o = true → treeB (doT rs o) = true) := fun h1 h2 => doT_tree h1 h2
    clear hr1 own2 hb2 hal hb1 ht1
    have HS : Hid (∀ x, RowsAt x.heap.size x a rs → Calls Tryd.prog 32 #[.slice a rs.length cap, .agg #[.int .i64 o.kind, .int .i64 o.id, .int .i64 o.up, .int .i64 o.at_, .string o.txt]] x (RetOwn (doT rs o) x)) := fun x h => specOpDo_any _ _ _ rs o x (Nat.le_refl _) h hfit.out hofit.out hcap.1 hcap.2
    have HD : Hid (treeB rs = true → opokB o = true → doT (doT rs o) o = doT rs o) := fun h1 h2 => doT_twice h1 h2
    generalize doT rs o = res at *
    obtain ⟨x0, x1, x2, x3, x4⟩ := HB.out w2 (Below.refl _ _)
    go_wp2_with fail
    refine (HS.out w2 hr2).mono ?_
    rintro e w3 ⟨ya, yc, rfl, own3, hyc, hb3⟩
    have hy3 := (got_own own3).rows
    have hx3 := (hx2.below hb3).mono hb3.size
    have hr3 := (hr2.below hb3).mono hb3.size
    have b3 := b2.trans (hb3.mono b2.size)
    have c3 := hb3
    clear own3 x0 x1 x2 x3 x4 hr2 hx2 b2 hb3
    go_wp2_with fail
    refine (lpRows_same _ _ _ _ _ _ _ (Nat.le_refl _) hx3 hy3 hrl).mono ?_
    rintro e w4 ⟨rfl, hb4⟩
    have hx4 := (hx3.below hb4).mono hb4.size
    have hr4 := (hr3.below hb4).mono hb4.size
    have b4 := b3.trans (hb4.mono b3.size)
    have c4 := c3.trans (hb4.mono c3.size)
    clear hx3 hr3 b3 c3 hb4 hy3
    go_wp2_with fail
    refine (specTreeOk_any _ _ _ _ _ (Nat.le_refl _) hr4 hfit.out).mono ?_
    rintro e w5 ⟨rfl, hb5⟩
    have hx5 := (hx4.below hb5).mono hb5.size
    have hr5 := (hr4.below hb5).mono hb5.size
    have b5 := b4.trans (hb5.mono b4.size)
    have c5 := c4.trans (hb5.mono c4.size)
    clear hx4 hr4 b4 c4 hb5
    obtain ⟨x0, x1, x2, x3, x4⟩ := HB.out w5 c5
    have HL : Hid (∀ x va vc, RowsAt x.heap.size x xa res → RowsAt x.heap.size x va res → Calls Tryd.prog 31 #[.slice xa res.length xc, .slice va res.length vc] x (RetBelow (.bool true) x)) := fun x va vc h1 h2 => lpRows_same _ _ _ _ _ _ _ (Nat.le_refl _) h1 h2 hrl
    cases hT : treeB rs
    · go_wp2_with fail
      refine (HS.out _ hr5).mono ?_
      rintro e wa ⟨za, zc, rfl, owna, hzc, hba⟩
      have hza := (got_own owna).rows
      have hxa := (hx5.below hba).mono hba.size
      have ba := b5.trans (hba.mono b5.size)
      clear owna x0 x1 x2 x3 x4 hr5 hx5 b5 hba
      go_wp2_with fail
      refine (HL.out _ _ _ hxa hza).mono ?_
      rintro e wb ⟨rfl, hbb⟩
      have bb := ba.trans (hbb.mono ba.size)
      go_wp2
      go_ret
      exact ⟨rfl, bb⟩
    · go_wp2_with fail
      refine (specOpOk_any o _ hofit.out).mono ?_
      rintro e w6 ⟨rfl, hb6⟩
      have hx6 := (hx5.below hb6).mono hb6.size
      have hr6 := (hr5.below hb6).mono hb6.size
      have b6 := b5.trans (hb6.mono b5.size)
      have c6 := c5.trans (hb6.mono c5.size)
      clear x0 x1 x2 x3 x4 hx5 hr5 b5 c5 hb6
      obtain ⟨x0, x1, x2, x3, x4⟩ := HB.out w6 c6
      cases hK : opokB o
      · go_wp2_with fail
        refine (HS.out _ hr6).mono ?_
        rintro e wa ⟨za, zc, rfl, owna, hzc, hba⟩
        have hza := (got_own owna).rows
        have hxa := (hx6.below hba).mono hba.size
        have ba := b6.trans (hba.mono b6.size)
        clear owna x0 x1 x2 x3 x4 hr6 hx6 b6 hba
        go_wp2_with fail
        refine (HL.out _ _ _ hxa hza).mono ?_
        rintro e wb ⟨rfl, hbb⟩
        have bb := ba.trans (hbb.mono ba.size)
        go_wp2
        go_ret
        exact ⟨rfl, bb⟩
      · have hR := Lib.hid (HT.out hT hK)
        have hfx := Lib.hid (tree_fit hR.out hrl)
        have ht6 := ht.below b6 hz
        have HO : Hid (∀ x, RowsAt x.heap.size x xa res → Tab x → Calls Tryd.prog 29 #[.slice xa res.length xc, .agg #[.int .i64 o.kind, .int .i64 o.id, .int .i64 o.up, .int .i64 o.at_, .string o.txt]] x (RetOwn res x)) := by
          intro x h1 h2
          have h3 := implOpDo_any _ xa xc res o x (Nat.le_refl _) h1 hfx.out hofit.out h2
          rwa [HD.out hT hK] at h3
        clear HD HT HS hT hK
        go_wp2_with fail
        refine (HO.out _ hx6 ht6).mono ?_
        rintro e w7 ⟨za, zc, rfl, own7, hzc, hb7⟩
        have hy7 := (got_own own7).rows
        have hx7 := (hx6.below hb7).mono hb7.size
        have b7 := b6.trans (hb7.mono b6.size)
        clear own7 x0 x1 x2 x3 x4 hx6 b6 hb7
        go_wp2_with fail
        refine (lpRows_same _ _ _ _ _ _ _ (Nat.le_refl _) hy7 hx7 hrl).mono ?_
        rintro e w8 ⟨rfl, hb8⟩
        have b8 := b7.trans (hb8.mono b7.size)
        go_wp2
        go_ret
        exact ⟨rfl, b8⟩
  · exact fnDoTwice_long _ _ _ _ hlens
end Go.Proofs.YtlhlkbbjmbpgpaaDoor
