/-
  The walk of the law FnNoLoop out of the contracts. Conditions: the argument reads as bytes; the table 'creators' holds what its initialiser lays.
-/
import Derived.Test.YtmenlcdilogmjaaDoorJLRootsStay
import Derived.Test.YtmenlcdilogmjaaDoorGB
namespace Go.Proofs.YtmenlcdilogmjaaDoor
open Go.ChangeShapes Go.WideShapes Go.ChangeAt Go.RowKit Go.Joins

theorem tree_fit {rs : List RowD} (h : treeB rs = true) (hl : rs.length ≤ 1048576) : Fit rs := by
  refine ⟨hl, fun i hi => ?_⟩
  unfold I64 maxLen
  rcases rok_cases ((treeP_of h).rok i hi) with ⟨h1, h2, h3⟩ | ⟨_, h2, h3, h4, h5⟩
  · have := (rootB_iff _).1 h1
    have h6 := textB_nil (t := (rat rs i).txt) (by rw [beq_iff_eq]; exact List.isEmpty_iff.1 h3)
    simp only [textB, Bool.and_eq_true, decide_eq_true_eq] at h6
    omega
  · have := (madeB_iff _).1 h2
    simp only [textB, Bool.and_eq_true, decide_eq_true_eq] at h5
    omega
theorem loop_no {rs : List RowD} {o : OpD} (hk : o.kind = 3) (h : undT rs o.up o.id = true) : owB rs o = false ∧ (opokB o = true → doT rs o = rs) := by
  simp only [undT, Bool.and_eq_true] at h
  have h2 := h.2
  simp only [undB, Bool.and_eq_true, decide_eq_true_eq] at h2
  have hn : noWhereB rs o = true := by simp [noWhereB, thereB, h.2, h2.1.1.2]
  exact ⟨by simp [owB, hn], fun hk' => by simp [doT, h.1, hk', doR, hk, hn]⟩
theorem up_not_under {rs : List RowD} {id : Int} : upI rs id = 0 ∨ undT rs (upI rs id) id = false := by
  cases hh : hasB rs id
  · exact .inl (by simp [upI, hh])
  · have h' := hh
    simp only [hasB, Bool.and_eq_true, decide_eq_true_eq] at h'
    have e : upI rs id = upAt rs (atN rs id) := by simp [upI, hh]
    rw [e]
    unfold upAt
    split
    · rename_i j hj
      obtain ⟨j1, _, _⟩ := lstBelow_some _ _ _ hj
      have ha := (treeP_of h'.1).at_self (show j < rs.length by omega)
      refine .inr ?_
      rw [Bool.eq_false_iff]
      intro g
      simp only [undT, undB, Bool.and_eq_true, decide_eq_true_eq] at g
      rw [ha] at g
      omega
    · exact .inl rfl
theorem fnNoLoop_long (a : Option Addr) (len cap : Nat) (w : World) (h : ¬ (len : Int) ≤ 1048576) :
    Calls Tryd.prog 9 #[.slice a len cap] w fun e w' => e = .returned (.bool true) ∧ Below w.heap.size w w' := by
  go_enter Tryd.func9, Tryd.ntmps9
  go_wp2
  go_ret
  exact ⟨rfl, Below.refl _ _⟩
set_option maxRecDepth 100000 in
set_option maxHeartbeats 4000000 in
theorem fnNoLoop_walk (w : World) (ht : Tab w) (a0 : Option Addr) (len0 cap0 : Nat) (b0 : Bytes w a0 len0 cap0) :
    Calls Tryd.prog 9 #[.slice a0 len0 cap0] w fun e w' => e = .returned (.bool true) ∧ Below w.heap.size w w' := by
  have hz := ht.pos
  by_cases hlen : (len0 : Int) ≤ 1048576
  · go_enter Tryd.func9, Tryd.ntmps9
    go_wp2_with fail
    refine (drawOpDo_any _ _ _ _ b0).mono ?_
    rintro e w1 ⟨a, cap, rs, o, ho, rfl, hl, hb⟩
    have hlen := hl.len
    have hcap := hl.cap
    have hfit := Lib.hid hl.fit
    have hofit := Lib.hid ho.fit
    have hal : Below w1.heap.size w1 (w1.alloc (.cells #[.int .i64 o.kind, .int .i64 o.id, .int .i64 o.up, .int .i64 o.at_, .string o.txt] 31)) := (Below.refl _ _).alloc (Nat.le_refl _) _
    have hb1 := hb.trans (hal.mono hb.size)
    have hr1 := (hl.rows.below hal).mono hal.size
    have ht1 := ht.below hb1 hz
    clear hl b0 hb
    go_wp2_with fail
    refine (implOpDo_any _ _ _ _ _ _ (Nat.le_refl _) hr1 hfit.out hofit.out ht1).mono ?_
    rintro e w2 ⟨xa, xc, rfl, own2, hxc, hb2⟩
    have HB : Hid (∀ x, Below w2.heap.size w2 x → x.cell? ⟨w1.heap.size, 0, none⟩ = some (.int .i64 o.kind) ∧ x.cell? ⟨w1.heap.size, 1, none⟩ = some (.int .i64 o.id) ∧ x.cell? ⟨w1.heap.size, 2, none⟩ = some (.int .i64 o.up) ∧ x.cell? ⟨w1.heap.size, 3, none⟩ = some (.int .i64 o.at_) ∧ x.cell? ⟨w1.heap.size, 4, none⟩ = some (.string o.txt)) := fun x hx => ((OBox.new w1 o).below (hb2.trans (hx.mono hb2.size)) (OBox.new w1 o).lt).cells
    have hr2 := (hr1.below hb2).mono hb2.size
    have hx2 := (got_own own2).rows
    have b2 := hb1.trans (hb2.mono hb1.size)
    have hrl : (doT rs o).length ≤ 1048576 := by have := doT_len rs o; omega
    have HT : Hid (treeB rs = true → opokB o = true → treeB (doT rs o) = true) := fun h1 h2 => doT_tree h1 h2
    clear hr1 own2 hb2 hal hb1 ht1
    have HS : Hid (∀ x, RowsAt x.heap.size x a rs → Calls Tryd.prog 27 #[.slice a rs.length cap, .agg #[.int .i64 o.kind, .int .i64 o.id, .int .i64 o.up, .int .i64 o.at_, .string o.txt]] x (RetOwn (doT rs o) x)) := fun x h => specOpDo_any _ _ _ rs o x (Nat.le_refl _) h hfit.out hofit.out hcap.1 hcap.2
    have HN : Hid (o.kind = 3 → undT rs o.up o.id = true → owB rs o = false ∧ (opokB o = true → doT rs o = rs)) := fun hk h => loop_no hk h
    generalize doT rs o = res at *
    obtain ⟨x0, x1, x2, x3, x4⟩ := HB.out w2 (Below.refl _ _)
    go_wp2_with fail
    refine (HS.out w2 hr2).mono ?_
    rintro e w3 ⟨ya, yc, rfl, own3, hyc, hb3⟩
    have hy3 := (got_own own3).rows
    have hx3 := (hx2.below hb3).mono hb3.size
    have hr3 := (hr2.below hb3).mono hb3.size
    have b3 := b2.trans (hb3.mono b2.size)
    have c3 := hb3
    clear own3 x0 x1 x2 x3 x4 hr2 hx2 b2 hb3
    go_wp2_with fail
    refine (lpRows_same _ _ _ _ _ _ _ (Nat.le_refl _) hx3 hy3 hrl).mono ?_
    rintro e w4 ⟨rfl, hb4⟩
    have hx4 := (hx3.below hb4).mono hb4.size
    have hr4 := (hr3.below hb4).mono hb4.size
    have b4 := b3.trans (hb4.mono b3.size)
    have c4 := c3.trans (hb4.mono c3.size)
    clear hx3 hr3 b3 c3 hb4 hy3
    go_wp2_with fail
    refine (specTreeOk_any _ _ _ _ _ (Nat.le_refl _) hr4 hfit.out).mono ?_
    rintro e w5 ⟨rfl, hb5⟩
    have hx5 := (hx4.below hb5).mono hb5.size
    have hr5 := (hr4.below hb5).mono hb5.size
    have b5 := b4.trans (hb5.mono b4.size)
    have c5 := c4.trans (hb5.mono c4.size)
    clear hx4 hr4 b4 c4 hb5
    obtain ⟨x0, x1, x2, x3, x4⟩ := HB.out w5 c5
    have HL : Hid (∀ x va vc, RowsAt x.heap.size x xa res → RowsAt x.heap.size x va res → Calls Tryd.prog 38 #[.slice xa res.length xc, .slice va res.length vc] x (RetBelow (.bool true) x)) := fun x va vc h1 h2 => lpRows_same _ _ _ _ _ _ _ (Nat.le_refl _) h1 h2 hrl
    cases hT : treeB rs
    · go_wp2_with fail
      refine (HS.out _ hr5).mono ?_
      rintro e w6 ⟨za, zc, rfl, own6, hzc, hb6⟩
      have hz6 := (got_own own6).rows
      have hx6 := (hx5.below hb6).mono hb6.size
      have b6 := b5.trans (hb6.mono b5.size)
      clear own6 x0 x1 x2 x3 x4 hr5 hx5 b5 hb6
      go_wp2_with fail
      refine (HL.out _ _ _ hx6 hz6).mono ?_
      rintro e w7 ⟨rfl, hb7⟩
      have b7 := b6.trans (hb7.mono b6.size)
      go_wp2
      go_ret
      exact ⟨rfl, b7⟩
    · go_wp2_with fail
      refine (specOpOk_any o _ hofit.out).mono ?_
      rintro e w6 ⟨rfl, hb6⟩
      have hx6 := (hx5.below hb6).mono hb6.size
      have hr6 := (hr5.below hb6).mono hb6.size
      have b6 := b5.trans (hb6.mono b5.size)
      have c6 := c5.trans (hb6.mono c5.size)
      clear x0 x1 x2 x3 x4 hx5 hr5 b5 c5 hb6
      obtain ⟨x0, x1, x2, x3, x4⟩ := HB.out w6 c6
      cases hK : opokB o
      · go_wp2_with fail
        refine (HS.out _ hr6).mono ?_
        rintro e w7 ⟨za, zc, rfl, own7, hzc, hb7⟩
        have hz7 := (got_own own7).rows
        have hx7 := (hx6.below hb7).mono hb7.size
        have b7 := b6.trans (hb7.mono b6.size)
        clear own7 x0 x1 x2 x3 x4 hr6 hx6 b6 hb7
        go_wp2_with fail
        refine (HL.out _ _ _ hx7 hz7).mono ?_
        rintro e w8 ⟨rfl, hb8⟩
        have b8 := b7.trans (hb8.mono b7.size)
        go_wp2
        go_ret
        exact ⟨rfl, b8⟩
      · have hR := Lib.hid (HT.out hT hK)
        have hfx := Lib.hid (tree_fit hR.out hrl)
        by_cases hk : o.kind = 3
        · have HM := Lib.hid (HN.out hk)
          clear HN
          rw [hk] at x0
          have ht6 := ht.below b6 hz
          have HW : Hid (∀ x, RowsAt x.heap.size x a rs → Tab x → Calls Tryd.prog 25 #[.slice a rs.length cap, .agg #[.int .i64 3, .int .i64 o.id, .int .i64 o.up, .int .i64 o.at_, .string o.txt]] x (RetBelow (.tuple #[.int .i64 (owU rs o), .int .i64 (owA rs o), .bool (owB rs o)]) x)) := by
            intro x h1 h2
            have h3 := implOpWhere_any _ a cap rs o x (Nat.le_refl _) h1 hfit.out hofit.out h2
            rwa [hk] at h3
          clear HS hk
          go_wp2_with fail
          refine (HW.out _ hr6 ht6).mono ?_
          rintro e w7 ⟨rfl, hb7⟩
          have hx7 := (hx6.below hb7).mono hb7.size
          have hr7 := (hr6.below hb7).mono hb7.size
          have b7 := b6.trans (hb7.mono b6.size)
          have c7 := c6.trans (hb7.mono c6.size)
          have ht7 := ht.below b7 hz
          clear x0 x1 x2 x3 x4 hx6 hr6 b6 c6 hb7 ht6
          obtain ⟨x0, x1, x2, x3, x4⟩ := HB.out w7 c7
          go_wp2_with fail
          refine (implTreeUnder_any _ _ _ _ _ _ _ (Nat.le_refl _) hr7 hfit.out ht7).mono ?_
          rintro e w8 ⟨rfl, hb8⟩
          have hx8 := (hx7.below hb8).mono hb8.size
          have hr8 := (hr7.below hb8).mono hb8.size
          have b8 := b7.trans (hb8.mono b7.size)
          have c8 := c7.trans (hb8.mono c7.size)
          have ht8 := ht.below b8 hz
          clear x0 x1 x2 x3 x4 hx7 hr7 b7 c7 hb8 ht7
          obtain ⟨x0, x1, x2, x3, x4⟩ := HB.out w8 c8
          go_wp2_with fail
          refine (implTreeUp_any _ _ _ _ _ _ (Nat.le_refl _) hx8 hfx.out ht8).mono ?_
          rintro e w9 ⟨rfl, hb9⟩
          have hx9 := (hx8.below hb9).mono hb9.size
          have hr9 := (hr8.below hb9).mono hb9.size
          have b9 := b8.trans (hb9.mono b8.size)
          have c9 := c8.trans (hb9.mono c8.size)
          clear x0 x1 x2 x3 x4 hx8 hr8 b8 c8 hb9 ht8
          obtain ⟨x0, x1, x2, x3, x4⟩ := HB.out w9 c9
          have ht9 := ht.below b9 hz
          have HV : Hid (¬ upI res o.id = 0 → ∀ x, RowsAt x.heap.size x xa res → Tab x → Calls Tryd.prog 45 #[.slice xa res.length xc, .int .i64 (upI res o.id), .int .i64 o.id] x (RetBelow (.bool false) x)) := by
            intro hn x h1 h2
            have h3 := implTreeUnder_any _ xa xc res (upI res o.id) o.id x (Nat.le_refl _) h1 hfx.out h2
            rcases up_not_under (rs := res) (id := o.id) with g | g
            · exact absurd g hn
            · rwa [g] at h3
          generalize upI res o.id = up at *
          cases hU : undT rs o.up o.id
          · by_cases hup : up = 0
            · subst hup
              go_wp2
              go_ret
              exact ⟨rfl, b9⟩
            · go_wp2_with fail
              refine (HV.out hup _ hx9 ht9).mono ?_
              rintro e wa ⟨rfl, hba⟩
              have ba := b9.trans (hba.mono b9.size)
              go_wp2
              go_ret
              exact ⟨rfl, ba⟩
          · obtain ⟨h1, h2⟩ := HM.out hU
            have e := h2 hK
            subst e
            rw [h1]
            go_wp2_with fail
            refine (HL.out _ _ _ hx9 hr9).mono ?_
            rintro e wa ⟨rfl, hba⟩
            have hxa := (hx9.below hba).mono hba.size
            have ba := b9.trans (hba.mono b9.size)
            have ca := c9.trans (hba.mono c9.size)
            have hta := ht.below ba hz
            clear x0 x1 x2 x3 x4 hx9 hr9 b9 c9 hba ht9
            obtain ⟨x0, x1, x2, x3, x4⟩ := HB.out wa ca
            by_cases hup : up = 0
            · subst hup
              go_wp2
              go_ret
              exact ⟨rfl, ba⟩
            · go_wp2_with fail
              refine (HV.out hup _ hxa hta).mono ?_
              rintro e wb ⟨rfl, hbb⟩
              have bb := ba.trans (hbb.mono ba.size)
              go_wp2
              go_ret
              exact ⟨rfl, bb⟩
        · generalize hkd : o.kind = kd at *
          go_wp2_with fail
          refine (HS.out _ hr6).mono ?_
          rintro e w7 ⟨za, zc, rfl, own7, hzc, hb7⟩
          have hz7 := (got_own own7).rows
          have hx7 := (hx6.below hb7).mono hb7.size
          have b7 := b6.trans (hb7.mono b6.size)
          clear own7 x0 x1 x2 x3 x4 hr6 hx6 b6 hb7
          go_wp2_with fail
          refine (HL.out _ _ _ hx7 hz7).mono ?_
          rintro e w8 ⟨rfl, hb8⟩
          have b8 := b7.trans (hb8.mono b7.size)
          go_wp2
          go_ret
          exact ⟨rfl, b8⟩
  · exact fnNoLoop_long _ _ _ _ hlen
end Go.Proofs.YtmenlcdilogmjaaDoor
