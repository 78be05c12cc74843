/-
  The walk of the law FnTextOnly out of the contracts. Conditions: the argument reads as bytes; the table 'creators' holds what its initialiser lays.
-/
import Derived.Test.YtlhlkbbjmbpgpaaDoorGI
import Derived.Test.YtlhlkbbjmbpgpaaDoorGH
import Derived.Test.YtlhlkbbjmbpgpaaDoorJLDoTwice
import Derived.Deep.RegionHeld3
namespace Go.Proofs.YtlhlkbbjmbpgpaaDoor
open Go.ChangeShapes Go.WideShapes Go.ChangeAt Go.RowKit Go.Joins

theorem doT_textOnly {rs : List RowD} {o : OpD} (h1 : treeB rs = true) (h2 : opokB o = true) (hk : o.kind = 2) : (¬ atN rs o.id < rs.length → doT rs o = rs) ∧ (atN rs o.id < rs.length → (doT rs o).length = rs.length ∧ (rat (doT rs o) (atN rs o.id)).txt = o.txt ∧ setTxt (doT rs o) (atN rs o.id) (rat rs (atN rs o.id)).txt = rs) := by
  have e : doR rs o = if thereB rs o.id then setTxt rs (atN rs o.id) o.txt else rs := by simp [doR, hk]
  rw [doT_eq h1 h2, e]
  refine ⟨fun g => ?_, fun g => ?_⟩
  · rw [if_neg (fun q => g (there_iff.1 q))]
  · rw [if_pos (there_iff.2 g)]
    refine ⟨by simp [setTxt], by rw [rat_setTxt g, if_pos rfl], ?_⟩
    have er := rat_lt g
    unfold setTxt
    apply List.ext_getElem
    · simp
    · intro i a1 a2
      simp only [List.getElem_modify]
      by_cases q : atN rs o.id = i
      · subst q
        simp only [if_true, er]
      · rw [if_neg q, if_neg q]
theorem fnTextOnly_long (a0 : Option Addr) (len0 cap0 : Nat) (w : World) (h : ¬ (len0 : Int) ≤ 1048576) :
    Calls Tryd.prog 5 #[.slice a0 len0 cap0] w fun e w' => e = .returned (.bool true) ∧ Below w.heap.size w w' := by
  go_enter Tryd.func5, Tryd.ntmps5
  go_wp2
  go_ret
  exact ⟨rfl, Below.refl _ _⟩
set_option maxRecDepth 100000 in
set_option maxHeartbeats 4000000 in
theorem fnTextOnly_walk (w : World) (ht : Tab w) (a0 : Option Addr) (len0 cap0 : Nat) (b0 : Bytes w a0 len0 cap0) :
    Calls Tryd.prog 5 #[.slice a0 len0 cap0] w fun e w' => e = .returned (.bool true) ∧ Below w.heap.size w w' := by
  have hz := ht.pos
  by_cases hlens : (len0 : Int) ≤ 1048576
  · have hl0 := hlens
    go_enter Tryd.func5, Tryd.ntmps5
    go_wp2_with fail
    refine (drawOpDo_any _ _ _ _ b0).mono ?_
    rintro e w1 ⟨a, cap, rs, o, ho, rfl, hl, hb⟩
    have hlen := hl.len
    have hcap := hl.cap
    have hfit := Lib.hid hl.fit
    have hofit := Lib.hid ho.fit
    have hopS := Lib.hid ho
    have hal : Below w1.heap.size w1 (w1.alloc (.cells #[.int .i64 o.kind, .int .i64 o.id, .int .i64 o.up, .int .i64 o.at_, .string o.txt] 25)) := (Below.refl _ _).alloc (Nat.le_refl _) _
    have hb1 := hb.trans (hal.mono hb.size)
    have hr1 := (hl.rows.below hal).mono hal.size
    have ht1 := ht.below hb1 hz
    clear hl b0 hb
    go_wp2_with fail
    refine (implOpDo_any _ _ _ _ _ _ (Nat.le_refl _) hr1 hfit.out hofit.out ht1).mono ?_
    rintro e w2 ⟨xa, xc, rfl, own2, hxc, hb2⟩
    have HB : Hid (∀ x, Below w2.heap.size w2 x → x.cell? ⟨w1.heap.size, 0, none⟩ = some (.int .i64 o.kind) ∧ x.cell? ⟨w1.heap.size, 1, none⟩ = some (.int .i64 o.id) ∧ x.cell? ⟨w1.heap.size, 2, none⟩ = some (.int .i64 o.up) ∧ x.cell? ⟨w1.heap.size, 3, none⟩ = some (.int .i64 o.at_) ∧ x.cell? ⟨w1.heap.size, 4, none⟩ = some (.string o.txt)) := fun x hx => ((OBox.new w1 o).below (hb2.trans (hx.mono hb2.size)) (OBox.new w1 o).lt).cells
    have hr2 := (hr1.below hb2).mono hb2.size
    have hx2 := (got_own own2).rows
    have HXC := Lib.hid (own_capm own2)
    have b2 := hb1.trans (hb2.mono hb1.size)
    have hrl : (doT rs o).length ≤ 1048576 := by have := doT_len rs o; omega
    have HT : Hid (treeB rs = true → opokB o = true → treeB (doT rs o) = true) := fun h1 h2 => doT_tree h1 h2
    clear hr1 own2 hb2 hal hb1 ht1
    have HS : Hid (∀ x, RowsAt x.heap.size x a rs → Calls Tryd.prog 32 #[.slice a rs.length cap, .agg #[.int .i64 o.kind, .int .i64 o.id, .int .i64 o.up, .int .i64 o.at_, .string o.txt]] x (RetOwn (doT rs o) x)) := fun x h => specOpDo_any _ _ _ rs o x (Nat.le_refl _) h hfit.out hofit.out hcap.1 hcap.2
    have HD : Hid (treeB rs = true → opokB o = true → o.kind = 2 → (¬ atN rs o.id < rs.length → doT rs o = rs) ∧ (atN rs o.id < rs.length → (doT rs o).length = rs.length ∧ (rat (doT rs o) (atN rs o.id)).txt = o.txt ∧ setTxt (doT rs o) (atN rs o.id) (rat rs (atN rs o.id)).txt = rs)) := fun h1 h2 h3 => doT_textOnly h1 h2 h3
    generalize doT rs o = res at *
    obtain ⟨x0, x1, x2, x3, x4⟩ := HB.out w2 (Below.refl _ _)
    go_wp2_with fail
    refine (HS.out w2 hr2).mono ?_
    rintro e w3 ⟨ya, yc, rfl, own3, hyc, hb3⟩
    have hy3 := (got_own own3).rows
    have hx3 := (hx2.below hb3).mono hb3.size
    have hr3 := (hr2.below hb3).mono hb3.size
    have b3 := b2.trans (hb3.mono b2.size)
    have c3 := hb3
    clear own3 x0 x1 x2 x3 x4 hr2 hx2 b2 hb3
    go_wp2_with fail
    refine (lpRows_same _ _ _ _ _ _ _ (Nat.le_refl _) hx3 hy3 hrl).mono ?_
    rintro e w4 ⟨rfl, hb4⟩
    have hx4 := (hx3.below hb4).mono hb4.size
    have hr4 := (hr3.below hb4).mono hb4.size
    have b4 := b3.trans (hb4.mono b3.size)
    have c4 := c3.trans (hb4.mono c3.size)
    clear hx3 hr3 b3 c3 hb4 hy3
    go_wp2_with fail
    refine (specTreeOk_any _ _ _ _ _ (Nat.le_refl _) hr4 hfit.out).mono ?_
    rintro e w5 ⟨rfl, hb5⟩
    have hx5 := (hx4.below hb5).mono hb5.size
    have hr5 := (hr4.below hb5).mono hb5.size
    have b5 := b4.trans (hb5.mono b4.size)
    have c5 := c4.trans (hb5.mono c4.size)
    clear hx4 hr4 b4 c4 hb5
    obtain ⟨x0, x1, x2, x3, x4⟩ := HB.out w5 c5
    have HL : Hid (∀ x va vc, RowsAt x.heap.size x xa res → RowsAt x.heap.size x va res → Calls Tryd.prog 31 #[.slice xa res.length xc, .slice va res.length vc] x (RetBelow (.bool true) x)) := fun x va vc h1 h2 => lpRows_same _ _ _ _ _ _ _ (Nat.le_refl _) h1 h2 hrl
    cases hT : treeB rs
    · go_wp2_with fail
      refine (HS.out _ hr5).mono ?_
      rintro e wa ⟨za, zc, rfl, owna, hzc, hba⟩
      have hza := (got_own owna).rows
      have hxa := (hx5.below hba).mono hba.size
      have ba := b5.trans (hba.mono b5.size)
      clear owna x0 x1 x2 x3 x4 hr5 hx5 b5 hba
      go_wp2_with fail
      refine (HL.out _ _ _ hxa hza).mono ?_
      rintro e wb ⟨rfl, hbb⟩
      have bb := ba.trans (hbb.mono ba.size)
      go_wp2
      go_ret
      exact ⟨rfl, bb⟩
    · go_wp2_with fail
      refine (specOpOk_any o _ hofit.out).mono ?_
      rintro e w6 ⟨rfl, hb6⟩
      have hx6 := (hx5.below hb6).mono hb6.size
      have hr6 := (hr5.below hb6).mono hb6.size
      have b6 := b5.trans (hb6.mono b5.size)
      have c6 := c5.trans (hb6.mono c5.size)
      clear x0 x1 x2 x3 x4 hx5 hr5 b5 c5 hb6
      obtain ⟨x0, x1, x2, x3, x4⟩ := HB.out w6 c6
      cases hK : opokB o
      · go_wp2_with fail
        refine (HS.out _ hr6).mono ?_
        rintro e wa ⟨za, zc, rfl, owna, hzc, hba⟩
        have hza := (got_own owna).rows
        have hxa := (hx6.below hba).mono hba.size
        have ba := b6.trans (hba.mono b6.size)
        clear owna x0 x1 x2 x3 x4 hr6 hx6 b6 hba
        go_wp2_with fail
        refine (HL.out _ _ _ hxa hza).mono ?_
        rintro e wb ⟨rfl, hbb⟩
        have bb := ba.trans (hbb.mono ba.size)
        go_wp2
        go_ret
        exact ⟨rfl, bb⟩
      · have hR := Lib.hid (HT.out hT hK)
        have hfx := Lib.hid (tree_fit hR.out hrl)
        have ht6 := ht.below b6 hz
        by_cases hk : o.kind = 2
        · rw [hk] at x0
          obtain ⟨D1, D2⟩ := HD.out hT hK hk
          have HA := Lib.hid (lpAt_any w6.heap.size a cap rs o.id w6 hr6 hfit.out)
          by_cases hat : atN rs o.id < rs.length
          · rw [atI_pos hat] at HA
            obtain ⟨f1, f2, f3⟩ := D2 hat
            have HL1 := Lib.hid f1
            have HL3 := Lib.hid f3
            have h0 : 0 < res.length := by omega
            have hkr : atN rs o.id < res.length := by omega
            clear D1 D2 HD HT HS HL hT f1 f3
            generalize atN rs o.id = k at *
            obtain ⟨i0, hi, hz0, hz1, hz2⟩ := info_parts infoRow
            obtain ⟨bt, ot, rfl, hbt, t0, t1, t2⟩ := hr6.at_ hat
            obtain ⟨bx, ox, rfl, hbx, v0, v1, v2⟩ := hx6.at_ hkr
            rw [f2] at v2
            have hnews0 := RowsAt.news (s := 0) (n := res.length) hx6 (by omega)
            rw [Nat.zero_mul, Nat.add_zero, List.drop_zero, List.take_length] at hnews0
            have HNW := Lib.hid hnews0
            have hown0 := own_empty3 w6 41
            have i1 : (k : Int) < (rs.length : Int) := by omega
            have i2 : (k : Int) < (res.length : Int) := by omega
            clear hnews0
            go_wp2_with fail
            refine HA.out.mono ?_
            rintro e w' ⟨rfl, rfl⟩
            go_wp2_with (at_builtin; refine wpList_append_own _ rfl _ _ 23 rfl w6.heap.size 41 i0 (.agg #[.int .i64 0, .int .i64 0, .string ⟨#[]⟩]) 3 32 Tryd.underlying23 hi hz0 hz1 hz2 rfl (by decide) _ _ _ rfl hown0 ⟨bx, ox, none⟩ res.length xc (cellsL res) rfl ?c0 ?c1 ?c2 ?c3 ?c4 ?c5 ?_)
            case c0 => exact cellsL_len res
            case c1 => intro j u hu; rw [World.cell?_alloc_lt _ _ _ (by rw [addr_add]; exact hbx)]; exact HNW.out j u hu
            case c2 => exact cellsL_plain _
            case c3 => unfold maxLen; omega
            case c4 => omega
            case c5 => simp
            intro va w7 own1 grow1 _
            have hb7 : Below w6.heap.size w6 w7 := ((Below.refl _ w6).alloc (Nat.le_refl _) (.cells #[] 41)).grown grow1 (by simp) (own_block hown0)
            have own2 : w7.ownsRow w6.heap.size 41 3 va res.length (cellsL res) := by simpa using own1
            obtain ⟨g, c1, rfl, hg, zf, hc1⟩ := own_form own2 h0
            have z2 := zf (k * 3 + 2)
            obtain ⟨b', off', e', _, q0, q1, q2⟩ := (rowsAt_own own2).at_ hkr
            cases e'
            rw [Nat.zero_add] at q0 q1 q2
            have t2' := (hb7.cell (p := ⟨bt, ot + k * 3 + 2, none⟩) hbt).trans t2
            have hS := own_set (o := k * 3 + 2) own2 (.string (rat rs k).txt)
            rw [← cells_setTxt, HL3.out] at hS
            have hS2 : (w7.setCell ⟨g, k * 3 + 2, none⟩ (.string (rat rs k).txt)).ownsRow w6.heap.size 41 3 (.slice (some ⟨g, 0, none⟩) rs.length c1) rs.length (cellsL rs) := by rw [← HL1.out]; exact hS
            have hy8 : RowsAt (w7.setCell ⟨g, k * 3 + 2, none⟩ (.string (rat rs k).txt)).drew.heap.size (w7.setCell ⟨g, k * 3 + 2, none⟩ (.string (rat rs k).txt)).drew (some ⟨g, 0, none⟩) rs := rowsAt_own hS2
            have hB8 : Below w6.heap.size w6 (w7.setCell ⟨g, k * 3 + 2, none⟩ (.string (rat rs k).txt)).drew := (hb7.setCell (p := ⟨g, k * 3 + 2, none⟩) hg _).drew
            have hr8 : RowsAt (w7.setCell ⟨g, k * 3 + 2, none⟩ (.string (rat rs k).txt)).drew.heap.size (w7.setCell ⟨g, k * 3 + 2, none⟩ (.string (rat rs k).txt)).drew (some ⟨bt, ot, none⟩) rs := (hr6.below hB8).mono hB8.size
            have b8 := b6.trans (hB8.mono b6.size)
            have c8 := c6.trans (hB8.mono c6.size)
            have v2' := (hB8.cell (p := ⟨bx, ox + k * 3 + 2, none⟩) hbx).trans v2
            have x4' := (HB.out _ c8).2.2.2.2
            clear own1 grow1 own2 zf hS hS2 hown0 HNW hb7 v0 v1 t0 t1 x0 x1 x2 x3 x4
            go_wp2_with fail
            go_region_held3 (fun x : World => x.cell? ⟨bx, ox + k * 3 + 2, none⟩ = some (.string o.txt) ∧ x.cell? ⟨w1.heap.size, 4, none⟩ = some (.string o.txt)) (first | exact ⟨v2', x4'⟩ | exact ⟨n1, n2⟩) ((go_at_call 31; rw [HL1.out]; refine (lpRows_same _ _ _ _ _ _ _ (Nat.le_refl _) hy8 hr8 (by omega)).mono ?_; rintro e w9 ⟨rfl, hb9⟩; have b9 := b8.trans (hb9.mono b8.size); have n1 := (hb9.cell (p := ⟨bx, ox + k * 3 + 2, none⟩) (Nat.lt_of_lt_of_le hbx hB8.size)).trans v2'; have n2 := (HB.out _ (c8.trans (hb9.mono c8.size))).2.2.2.2))
            all_goals
              go_wp2
              go_ret
              exact ⟨by first | rfl | simp, b9⟩
          · rw [atI_neg (by have := atN_le rs o.id; omega)] at HA
            have e := D1 hat
            subst e
            clear D2 HD HT HS HL hT hat
            go_wp2_with fail
            refine HA.out.mono ?_
            rintro e w' ⟨rfl, rfl⟩
            go_wp2_with fail
            refine (lpRows_same _ _ _ _ _ _ _ (Nat.le_refl _) hx6 hr6 hrl).mono ?_
            rintro e w8 ⟨rfl, hb8⟩
            have b8 := b6.trans (hb8.mono b6.size)
            go_wp2
            go_ret
            exact ⟨rfl, b8⟩
        · generalize hkd : o.kind = kd at *
          go_wp2_with fail
          refine (HS.out _ hr6).mono ?_
          rintro e wa ⟨za, zc, rfl, owna, hzc, hba⟩
          have hza := (got_own owna).rows
          have hxa := (hx6.below hba).mono hba.size
          have ba := b6.trans (hba.mono b6.size)
          clear owna x0 x1 x2 x3 x4 hr6 hx6 b6 hba
          go_wp2_with fail
          refine (HL.out _ _ _ hxa hza).mono ?_
          rintro e wb ⟨rfl, hbb⟩
          have bb := ba.trans (hbb.mono ba.size)
          go_wp2
          go_ret
          exact ⟨rfl, bb⟩
  · exact fnTextOnly_long _ _ _ _ hlens
end Go.Proofs.YtlhlkbbjmbpgpaaDoor
