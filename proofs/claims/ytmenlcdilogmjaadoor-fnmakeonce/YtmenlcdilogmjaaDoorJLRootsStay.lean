/-
  The walk of the law FnRootsStay out of the contracts. Conditions: the argument reads as bytes; the table 'creators' holds what its initialiser lays.
-/
import Derived.Test.YtmenlcdilogmjaaDoorJDrawOp
import Derived.Test.YtmenlcdilogmjaaDoorGG
import Derived.Test.YtmenlcdilogmjaaDoorGD
import Derived.Test.YtmenlcdilogmjaaDoorGE
namespace Go.Proofs.YtmenlcdilogmjaaDoor
open Go.ChangeShapes Go.WideShapes Go.ChangeAt Go.RowKit Go.Joins

theorem root_yes {rs : List RowD} (h : treeB rs = true) {k : Nat} (hk : k < rs.length) (hd : (rat rs k).dep = 0) : (rat rs k).id = (nroots rs k : Int) + 1 ∧ nroots rs (k + 1) = nroots rs k + 1 := by
  have hT := treeP_of h
  rcases rok_cases (hT.rok k hk) with ⟨h1, _⟩ | ⟨_, _, h3, _⟩
  · exact ⟨hT.rord k hk h1, by rw [nroots_succ, if_pos h1]⟩
  · omega
theorem root_no {rs : List RowD} (h : treeB rs = true) {k : Nat} (hk : k < rs.length) (hd : ¬ (rat rs k).dep = 0) : nroots rs (k + 1) = nroots rs k := by
  rcases rok_cases ((treeP_of h).rok k hk) with ⟨_, h2, _⟩ | ⟨h1, _⟩
  · exact absurd h2 hd
  · rw [nroots_succ, h1]; simp
theorem doT_tree {rs : List RowD} {o : OpD} (h1 : treeB rs = true) (h2 : opokB o = true) : treeB (doT rs o) = true := by
  have e : doT rs o = doR rs o := by simp [doT, h1, h2]
  rw [e]; exact do_tree h1 h2
theorem fnRootsStay_long (a : Option Addr) (len cap : Nat) (w : World) (h : ¬ (len : Int) ≤ 1048576) :
    Calls Tryd.prog 16 #[.slice a len cap] w fun e w' => e = .returned (.bool true) ∧ Below w.heap.size w w' := by
  go_enter Tryd.func16, Tryd.ntmps16
  go_wp2
  go_ret
  exact ⟨rfl, Below.refl _ _⟩
set_option maxRecDepth 100000 in
set_option maxHeartbeats 4000000 in
theorem fnRootsStay_walk (w : World) (ht : Tab w) (a0 : Option Addr) (len0 cap0 : Nat) (b0 : Bytes w a0 len0 cap0) :
    Calls Tryd.prog 16 #[.slice a0 len0 cap0] w fun e w' => e = .returned (.bool true) ∧ Below w.heap.size w w' := by
  have hz := ht.pos
  by_cases hlen : (len0 : Int) ≤ 1048576
  · go_enter Tryd.func16, Tryd.ntmps16
    go_wp2_with fail
    refine (drawOpDo_any _ _ _ _ b0).mono ?_
    rintro e w1 ⟨a, cap, rs, o, ho, rfl, hl, hb⟩
    have hlen := hl.len
    have hcap := hl.cap
    have hfit := Lib.hid hl.fit
    have hofit := Lib.hid ho.fit
    have hal : Below w1.heap.size w1 (w1.alloc (.cells #[.int .i64 o.kind, .int .i64 o.id, .int .i64 o.up, .int .i64 o.at_, .string o.txt] 31)) := (Below.refl _ _).alloc (Nat.le_refl _) _
    have hb1 := hb.trans (hal.mono hb.size)
    have hr1 := (hl.rows.below hal).mono hal.size
    have ht1 := ht.below hb1 hz
    clear hl b0 hb
    go_wp2_with fail
    refine (implOpDo_any _ _ _ _ _ _ (Nat.le_refl _) hr1 hfit.out hofit.out ht1).mono ?_
    rintro e w2 ⟨xa, xc, rfl, own2, hxc, hb2⟩
    have HB : Hid (∀ x, Below w2.heap.size w2 x → x.cell? ⟨w1.heap.size, 0, none⟩ = some (.int .i64 o.kind) ∧ x.cell? ⟨w1.heap.size, 1, none⟩ = some (.int .i64 o.id) ∧ x.cell? ⟨w1.heap.size, 2, none⟩ = some (.int .i64 o.up) ∧ x.cell? ⟨w1.heap.size, 3, none⟩ = some (.int .i64 o.at_) ∧ x.cell? ⟨w1.heap.size, 4, none⟩ = some (.string o.txt)) := fun x hx => ((OBox.new w1 o).below (hb2.trans (hx.mono hb2.size)) (OBox.new w1 o).lt).cells
    have hr2 := (hr1.below hb2).mono hb2.size
    have hx2 := (got_own own2).rows
    have b2 := hb1.trans (hb2.mono hb1.size)
    have hrl : (doT rs o).length ≤ 1048576 := by have := doT_len rs o; omega
    have HT : Hid (treeB rs = true → opokB o = true → treeB (doT rs o) = true) := fun h1 h2 => doT_tree h1 h2
    clear hr1 own2 hb2 hal hb1 ht1
    have HS : Hid (∀ x, RowsAt x.heap.size x a rs → Calls Tryd.prog 27 #[.slice a rs.length cap, .agg #[.int .i64 o.kind, .int .i64 o.id, .int .i64 o.up, .int .i64 o.at_, .string o.txt]] x (RetOwn (doT rs o) x)) := fun x h => specOpDo_any _ _ _ rs o x (Nat.le_refl _) h hfit.out hofit.out hcap.1 hcap.2
    generalize doT rs o = res at *
    obtain ⟨x0, x1, x2, x3, x4⟩ := HB.out w2 (Below.refl _ _)
    go_wp2_with fail
    refine (HS.out w2 hr2).mono ?_
    rintro e w3 ⟨ya, yc, rfl, own3, hyc, hb3⟩
    have hy3 := (got_own own3).rows
    have hx3 := (hx2.below hb3).mono hb3.size
    have hr3 := (hr2.below hb3).mono hb3.size
    have b3 := b2.trans (hb3.mono b2.size)
    have c3 := hb3
    clear own3 x0 x1 x2 x3 x4 hr2 hx2 b2 hb3
    go_wp2_with fail
    refine (lpRows_same _ _ _ _ _ _ _ (Nat.le_refl _) hx3 hy3 hrl).mono ?_
    rintro e w4 ⟨rfl, hb4⟩
    have hx4 := (hx3.below hb4).mono hb4.size
    have hr4 := (hr3.below hb4).mono hb4.size
    have b4 := b3.trans (hb4.mono b3.size)
    have c4 := c3.trans (hb4.mono c3.size)
    clear hx3 hr3 b3 c3 hb4 hy3
    go_wp2_with fail
    refine (specTreeOk_any _ _ _ _ _ (Nat.le_refl _) hr4 hfit.out).mono ?_
    rintro e w5 ⟨rfl, hb5⟩
    have hx5 := (hx4.below hb5).mono hb5.size
    have hr5 := (hr4.below hb5).mono hb5.size
    have b5 := b4.trans (hb5.mono b4.size)
    have c5 := c4.trans (hb5.mono c4.size)
    clear hx4 hr4 b4 c4 hb5
    obtain ⟨x0, x1, x2, x3, x4⟩ := HB.out w5 c5
    have HL : Hid (∀ x va vc, RowsAt x.heap.size x xa res → RowsAt x.heap.size x va res → Calls Tryd.prog 38 #[.slice xa res.length xc, .slice va res.length vc] x (RetBelow (.bool true) x)) := fun x va vc h1 h2 => lpRows_same _ _ _ _ _ _ _ (Nat.le_refl _) h1 h2 hrl
    cases hT : treeB rs
    · go_wp2_with fail
      refine (HS.out _ hr5).mono ?_
      rintro e w6 ⟨za, zc, rfl, own6, hzc, hb6⟩
      have hz6 := (got_own own6).rows
      have hx6 := (hx5.below hb6).mono hb6.size
      have b6 := b5.trans (hb6.mono b5.size)
      clear own6 x0 x1 x2 x3 x4 hr5 hx5 b5 hb6
      go_wp2_with fail
      refine (HL.out _ _ _ hx6 hz6).mono ?_
      rintro e w7 ⟨rfl, hb7⟩
      have b7 := b6.trans (hb7.mono b6.size)
      go_wp2
      go_ret
      exact ⟨rfl, b7⟩
    · go_wp2_with fail
      refine (specOpOk_any o _ hofit.out).mono ?_
      rintro e w6 ⟨rfl, hb6⟩
      have hx6 := (hx5.below hb6).mono hb6.size
      have hr6 := (hr5.below hb6).mono hb6.size
      have b6 := b5.trans (hb6.mono b5.size)
      have c6 := c5.trans (hb6.mono c5.size)
      clear x0 x1 x2 x3 x4 hx5 hr5 b5 c5 hb6
      obtain ⟨x0, x1, x2, x3, x4⟩ := HB.out w6 c6
      cases hK : opokB o
      · go_wp2_with fail
        refine (HS.out _ hr6).mono ?_
        rintro e w7 ⟨za, zc, rfl, own7, hzc, hb7⟩
        have hz7 := (got_own own7).rows
        have hx7 := (hx6.below hb7).mono hb7.size
        have b7 := b6.trans (hb7.mono b6.size)
        clear own7 x0 x1 x2 x3 x4 hr6 hx6 b6 hb7
        go_wp2_with fail
        refine (HL.out _ _ _ hx7 hz7).mono ?_
        rintro e w8 ⟨rfl, hb8⟩
        have b8 := b7.trans (hb8.mono b7.size)
        go_wp2
        go_ret
        exact ⟨rfl, b8⟩
      · have hR := Lib.hid (HT.out hT hK)
        clear HT HS HL HB x0 x1 x2 x3 x4 hT hK hr6 c6
        go_wp2_with fail
        go_loopw [6, 7] (fun r t wr => ∃ k : Nat, k ≤ res.length ∧ t = .int .i64 k ∧ r = .int .i64 (nroots res k : Nat) ∧ Below w6.heap.size w6 wr) (fun _ t _ => res.length - (intOf t).toNat)
        case atStart => exact ⟨0, Nat.zero_le _, rfl, rfl, Below.refl _ _⟩
        case round =>
          obtain ⟨k, hk, rfl, rfl, hbk⟩ := hrel
          have hrk := hx6.below hbk
          by_cases hlt : k < res.length
          · obtain ⟨g, off, rfl, hg, c0, c1, c2⟩ := hrk.at_ hlt
            have i1 : (k : Int) < (res.length : Int) := by omega
            have hn := nroots_le (rs := res) k
            by_cases hd : (rat res k).dep = 0
            · obtain ⟨e1, e2⟩ := root_yes hR.out hlt hd
              rw [hd] at c1
              rw [e1] at c0
              generalize nroots res k = n at *
              go_wp2
              go_roundw
              case rel => exact ⟨k + 1, by omega, by go_num, by rw [e2]; go_num, hbk⟩
              case measure => simp [intOf]; omega
            · have e2 := root_no hR.out hlt hd
              generalize nroots res k = n at *
              generalize (rat res k).dep = d at *
              go_wp2
              go_roundw
              case rel => exact ⟨k + 1, by omega, by go_num, by rw [e2], hbk⟩
              case measure => simp [intOf]; omega
          · have e : k = res.length := by omega
            subst e
            have e3 := (treeP_of hR.out).three
            have b7 := b6.trans (hbk.mono b6.size)
            rw [e3]
            go_wp2
            go_ret
            exact ⟨rfl, b7⟩
  · exact fnRootsStay_long _ _ _ _ hlen
end Go.Proofs.YtmenlcdilogmjaaDoor
