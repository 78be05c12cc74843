/-
  The walk of the law FnMakeOnce out of the contracts. Conditions: the argument reads as bytes; the table 'creators' holds what its initialiser lays.
-/
import Derived.Test.YtmenlcdilogmjaaDoorJLDoOk
import Derived.Test.YtmenlcdilogmjaaDoorJMakeM
import Derived.Test.YtmenlcdilogmjaaDoorGB
namespace Go.Proofs.YtmenlcdilogmjaaDoor
open Go.ChangeShapes Go.WideShapes Go.ChangeAt Go.RowKit Go.Joins

theorem doT_leaf {rs : List RowD} {o : OpD} (h1 : treeB rs = true) (h2 : opokB o = true) (hk : o.kind = 1) (hn : ¬ atN rs o.id < rs.length) : atN (doT rs o) o.id < (doT rs o).length ∧ (rat (doT rs o) (atN (doT rs o) o.id)).txt = o.txt ∧ kidsT (doT rs o) o.id = [] := by
  have hd := doT_made h1 h2 hk hn
  have e : doT rs o = doR rs o := by simp [doT, h1, h2]
  rw [e] at hd ⊢
  obtain ⟨g1, g2⟩ := make_leaf h1 hk hn
  exact ⟨hd.2, g1, by simp [kidsT, g2]⟩
theorem doT_there {rs : List RowD} {o : OpD} (h1 : treeB rs = true) (h2 : opokB o = true) (hk : o.kind = 1) (h : atN rs o.id < rs.length) : doT rs o = rs := by
  have e : doT rs o = doR rs o := by simp [doT, h1, h2]
  rw [e]
  exact doR_no hk (by rw [noWhere1 hk]; exact there_iff.2 h)
theorem fnMakeOnce_long (a : Option Addr) (len cap : Nat) (w : World) (h : ¬ (len : Int) ≤ 1048576) :
    Calls Tryd.prog 18 #[.slice a len cap] w fun e w' => e = .returned (.bool true) ∧ Below w.heap.size w w' := by
  go_enter Tryd.func18, Tryd.ntmps18
  go_wp2
  go_ret
  exact ⟨rfl, Below.refl _ _⟩
set_option maxRecDepth 100000 in
set_option maxHeartbeats 4000000 in
theorem fnMakeOnce_walk (w : World) (ht : Tab w) (a0 : Option Addr) (len0 cap0 : Nat) (b0 : Bytes w a0 len0 cap0) :
    Calls Tryd.prog 18 #[.slice a0 len0 cap0] w fun e w' => e = .returned (.bool true) ∧ Below w.heap.size w w' := by
  have hz := ht.pos
  by_cases hlen : (len0 : Int) ≤ 1048576
  · go_enter Tryd.func18, Tryd.ntmps18
    go_wp2_with fail
    refine (drawOpDo_any _ _ _ _ b0).mono ?_
    rintro e w1 ⟨a, cap, rs, o, ho, rfl, hl, hb⟩
    have hlen := hl.len
    have hcap := hl.cap
    have hfit := Lib.hid hl.fit
    have hofit := Lib.hid ho.fit
    have hal : Below w1.heap.size w1 (w1.alloc (.cells #[.int .i64 o.kind, .int .i64 o.id, .int .i64 o.up, .int .i64 o.at_, .string o.txt] 31)) := (Below.refl _ _).alloc (Nat.le_refl _) _
    have hb1 := hb.trans (hal.mono hb.size)
    have hr1 := (hl.rows.below hal).mono hal.size
    have ht1 := ht.below hb1 hz
    clear hl b0 hb
    go_wp2_with fail
    refine (implOpDo_any _ _ _ _ _ _ (Nat.le_refl _) hr1 hfit.out hofit.out ht1).mono ?_
    rintro e w2 ⟨xa, xc, rfl, own2, hxc, hb2⟩
    have HB : Hid (∀ x, Below w2.heap.size w2 x → x.cell? ⟨w1.heap.size, 0, none⟩ = some (.int .i64 o.kind) ∧ x.cell? ⟨w1.heap.size, 1, none⟩ = some (.int .i64 o.id) ∧ x.cell? ⟨w1.heap.size, 2, none⟩ = some (.int .i64 o.up) ∧ x.cell? ⟨w1.heap.size, 3, none⟩ = some (.int .i64 o.at_) ∧ x.cell? ⟨w1.heap.size, 4, none⟩ = some (.string o.txt)) := fun x hx => ((OBox.new w1 o).below (hb2.trans (hx.mono hb2.size)) (OBox.new w1 o).lt).cells
    have hr2 := (hr1.below hb2).mono hb2.size
    have hx2 := (got_own own2).rows
    have b2 := hb1.trans (hb2.mono hb1.size)
    have hrl : (doT rs o).length ≤ 1048576 := by have := doT_len rs o; omega
    have HT : Hid (treeB rs = true → opokB o = true → treeB (doT rs o) = true) := fun h1 h2 => doT_tree h1 h2
    clear hr1 own2 hb2 hal hb1 ht1
    have HS : Hid (∀ x, RowsAt x.heap.size x a rs → Calls Tryd.prog 27 #[.slice a rs.length cap, .agg #[.int .i64 o.kind, .int .i64 o.id, .int .i64 o.up, .int .i64 o.at_, .string o.txt]] x (RetOwn (doT rs o) x)) := fun x h => specOpDo_any _ _ _ rs o x (Nat.le_refl _) h hfit.out hofit.out hcap.1 hcap.2
    have HD1 : Hid (treeB rs = true → opokB o = true → o.kind = 1 → ¬ atN rs o.id < rs.length → atN (doT rs o) o.id < (doT rs o).length ∧ (rat (doT rs o) (atN (doT rs o) o.id)).txt = o.txt ∧ kidsT (doT rs o) o.id = []) := fun h1 h2 h3 h4 => doT_leaf h1 h2 h3 h4
    have HD2 : Hid (treeB rs = true → opokB o = true → o.kind = 1 → atN rs o.id < rs.length → doT rs o = rs) := fun h1 h2 h3 h4 => doT_there h1 h2 h3 h4
    generalize doT rs o = res at *
    obtain ⟨x0, x1, x2, x3, x4⟩ := HB.out w2 (Below.refl _ _)
    go_wp2_with fail
    refine (HS.out w2 hr2).mono ?_
    rintro e w3 ⟨ya, yc, rfl, own3, hyc, hb3⟩
    have hy3 := (got_own own3).rows
    have hx3 := (hx2.below hb3).mono hb3.size
    have hr3 := (hr2.below hb3).mono hb3.size
    have b3 := b2.trans (hb3.mono b2.size)
    have c3 := hb3
    clear own3 x0 x1 x2 x3 x4 hr2 hx2 b2 hb3
    go_wp2_with fail
    refine (lpRows_same _ _ _ _ _ _ _ (Nat.le_refl _) hx3 hy3 hrl).mono ?_
    rintro e w4 ⟨rfl, hb4⟩
    have hx4 := (hx3.below hb4).mono hb4.size
    have hr4 := (hr3.below hb4).mono hb4.size
    have b4 := b3.trans (hb4.mono b3.size)
    have c4 := c3.trans (hb4.mono c3.size)
    clear hx3 hr3 b3 c3 hb4 hy3
    go_wp2_with fail
    refine (specTreeOk_any _ _ _ _ _ (Nat.le_refl _) hr4 hfit.out).mono ?_
    rintro e w5 ⟨rfl, hb5⟩
    have hx5 := (hx4.below hb5).mono hb5.size
    have hr5 := (hr4.below hb5).mono hb5.size
    have b5 := b4.trans (hb5.mono b4.size)
    have c5 := c4.trans (hb5.mono c4.size)
    clear hx4 hr4 b4 c4 hb5
    obtain ⟨x0, x1, x2, x3, x4⟩ := HB.out w5 c5
    have HL : Hid (∀ x va vc, RowsAt x.heap.size x xa res → RowsAt x.heap.size x va res → Calls Tryd.prog 38 #[.slice xa res.length xc, .slice va res.length vc] x (RetBelow (.bool true) x)) := fun x va vc h1 h2 => lpRows_same _ _ _ _ _ _ _ (Nat.le_refl _) h1 h2 hrl
    cases hT : treeB rs
    · go_wp2_with fail
      refine (HS.out _ hr5).mono ?_
      rintro e w6 ⟨za, zc, rfl, own6, hzc, hb6⟩
      have hz6 := (got_own own6).rows
      have hx6 := (hx5.below hb6).mono hb6.size
      have b6 := b5.trans (hb6.mono b5.size)
      clear own6 x0 x1 x2 x3 x4 hr5 hx5 b5 hb6
      go_wp2_with fail
      refine (HL.out _ _ _ hx6 hz6).mono ?_
      rintro e w7 ⟨rfl, hb7⟩
      have b7 := b6.trans (hb7.mono b6.size)
      go_wp2
      go_ret
      exact ⟨rfl, b7⟩
    · go_wp2_with fail
      refine (specOpOk_any o _ hofit.out).mono ?_
      rintro e w6 ⟨rfl, hb6⟩
      have hx6 := (hx5.below hb6).mono hb6.size
      have hr6 := (hr5.below hb6).mono hb6.size
      have b6 := b5.trans (hb6.mono b5.size)
      have c6 := c5.trans (hb6.mono c5.size)
      clear x0 x1 x2 x3 x4 hx5 hr5 b5 c5 hb6
      obtain ⟨x0, x1, x2, x3, x4⟩ := HB.out w6 c6
      cases hK : opokB o
      · go_wp2_with fail
        refine (HS.out _ hr6).mono ?_
        rintro e w7 ⟨za, zc, rfl, own7, hzc, hb7⟩
        have hz7 := (got_own own7).rows
        have hx7 := (hx6.below hb7).mono hb7.size
        have b7 := b6.trans (hb7.mono b6.size)
        clear own7 x0 x1 x2 x3 x4 hr6 hx6 b6 hb7
        go_wp2_with fail
        refine (HL.out _ _ _ hx7 hz7).mono ?_
        rintro e w8 ⟨rfl, hb8⟩
        have b8 := b7.trans (hb8.mono b7.size)
        go_wp2
        go_ret
        exact ⟨rfl, b8⟩
      · have hR := Lib.hid (HT.out hT hK)
        have hfx := Lib.hid (tree_fit hR.out hrl)
        have D1 := Lib.hid (HD1.out hT hK)
        have D2 := Lib.hid (HD2.out hT hK)
        clear HD1 HD2 HT hT hK
        by_cases hk : o.kind = 1
        · rw [hk] at x0
          by_cases hat : atN rs o.id < rs.length
          · have e := D2.out hk hat
            have HA := Lib.hid (lpAt_any w6.heap.size a cap rs o.id w6 hr6 hfit.out)
            rw [atI_pos hat] at HA
            have HM := Lib.hid (HL.out w6 a cap hx6 (by rw [e]; exact hr6))
            rw [show Value.slice a res.length cap = Value.slice a rs.length cap by rw [e]] at HM
            clear D1 D2 e HS HL
            generalize atN rs o.id = q at *
            go_wp2_with fail
            refine HA.out.mono ?_
            rintro e w' ⟨rfl, rfl⟩
            go_wp2_with fail
            refine HM.out.mono ?_
            rintro e w7 ⟨rfl, hb7⟩
            have b7 := b6.trans (hb7.mono b6.size)
            go_wp2
            go_ret
            exact ⟨rfl, b7⟩
          · obtain ⟨l1, l2, l3⟩ := D1.out hk hat
            have HA := Lib.hid (lpAt_any w6.heap.size a cap rs o.id w6 hr6 hfit.out)
            rw [atI_neg (by have := atN_le rs o.id; omega)] at HA
            have HX : Hid (∀ x, RowsAt w6.heap.size x xa res → Calls Tryd.prog 35 #[.slice xa res.length xc, .int .i64 o.id] x fun e w' => e = .returned (.int .i64 (atN res o.id : Nat)) ∧ x = w') := by
              intro x h
              have h3 := lpAt_any w6.heap.size xa xc res o.id x h hfx.out
              rwa [atI_pos l1] at h3
            have hxd : RowsAt w6.heap.size w6.drew xa res := hx6.below ((Below.refl _ _).drew)
            have HK : Hid (∀ x, RowsAt x.heap.size x xa res → Tab x → Calls Tryd.prog 44 #[.slice xa res.length xc, .int .i64 o.id] x (RetInts [] x)) := by
              intro x h1 h2
              have h3 := implTreeKids_any _ xa xc res o.id x (Nat.le_refl _) h1 hfx.out h2
              rwa [l3] at h3
            have hxd6 : RowsAt w6.drew.heap.size w6.drew xa res := hxd
            have b6d : Below w.heap.size w w6.drew := b6.trans ((Below.refl _ _).drew)
            have ht6d := ht.below b6d hz
            clear D1 D2 hat HS HL
            generalize atN res o.id = q at *
            obtain ⟨g, off, rfl, hg, k0, k1, k2⟩ := hx6.at_ l1
            rw [l2] at k2
            have l1' : (q : Int) < (res.length : Int) := by omega
            go_wp2_with fail
            refine HA.out.mono ?_
            rintro e w' ⟨rfl, rfl⟩
            go_wp2_with fail
            go_region_with (first
              | (go_at_call 35; refine (HX.out _ hxd).mono ?_; rintro e w' ⟨rfl, rfl⟩)
              | (go_at_call 44; refine (HK.out _ hxd6 ht6d).mono ?_; rintro e w7 ⟨kv, rfl, own, hb7⟩; obtain ⟨ka, kc, rfl, hkc⟩ := own_slice own; have b7 := b6d.trans (hb7.mono b6d.size)))
            all_goals
              go_wp2
              go_ret
              exact ⟨by first | rfl | simp, b7⟩
        · generalize hkd : o.kind = kd at *
          go_wp2_with fail
          refine (HS.out _ hr6).mono ?_
          rintro e w7 ⟨za, zc, rfl, own7, hzc, hb7⟩
          have hz7 := (got_own own7).rows
          have hx7 := (hx6.below hb7).mono hb7.size
          have b7 := b6.trans (hb7.mono b6.size)
          clear own7 x0 x1 x2 x3 x4 hr6 hx6 b6 hb7
          go_wp2_with fail
          refine (HL.out _ _ _ hx7 hz7).mono ?_
          rintro e w8 ⟨rfl, hb8⟩
          have b8 := b7.trans (hb8.mono b7.size)
          go_wp2
          go_ret
          exact ⟨rfl, b8⟩
  · exact fnMakeOnce_long _ _ _ _ hlen
end Go.Proofs.YtmenlcdilogmjaaDoor
