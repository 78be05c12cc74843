/-
  The walk of the law FnMoveAll out of the contracts. Conditions: the argument reads as bytes; the table 'creators' holds what its initialiser lays.
-/
import Derived.Test.YtlhlkbbjmbpgpaaDoorGI
import Derived.Test.YtlhlkbbjmbpgpaaDoorJAllM
import Derived.Test.YtlhlkbbjmbpgpaaDoorJLDoTwice
import Derived.Test.YtlhlkbbjmbpgpaaDoorGB
import Derived.Test.YtlhlkbbjmbpgpaaDoorJLpInts
import Derived.Deep.RegionHeld3
namespace Go.Proofs.YtlhlkbbjmbpgpaaDoor
open Go.ChangeShapes Go.WideShapes Go.ChangeAt Go.RowKit Go.Joins

theorem doT_moveAll {rs : List RowD} {o : OpD} (h1 : treeB rs = true) (h2 : opokB o = true) (hk : o.kind = 3) (i : Nat) (hi : i < rs.length) : ((rat rs i).id ≠ o.id → upI rs (rat rs i).id = upI (doT rs o) (rat rs i).id) ∧ undT rs (rat rs i).id o.id = undT (doT rs o) (rat rs i).id o.id ∧ ((rat rs i).id ≠ o.id → undT rs (rat rs i).id o.id = true → kidsT rs (rat rs i).id = kidsT (doT rs o) (rat rs i).id) := by
  rw [doT_eq h1 h2]; exact move_all h1 h2 hk hi
theorem fnMoveAll_long (a0 : Option Addr) (len0 cap0 : Nat) (w : World) (h : ¬ (len0 : Int) ≤ 1048576) :
    Calls Tryd.prog 11 #[.slice a0 len0 cap0] w fun e w' => e = .returned (.bool true) ∧ Below w.heap.size w w' := by
  go_enter Tryd.func11, Tryd.ntmps11
  go_wp2
  go_ret
  exact ⟨rfl, Below.refl _ _⟩
set_option maxRecDepth 100000 in
set_option maxHeartbeats 4000000 in
theorem fnMoveAll_walk (w : World) (ht : Tab w) (a0 : Option Addr) (len0 cap0 : Nat) (b0 : Bytes w a0 len0 cap0) :
    Calls Tryd.prog 11 #[.slice a0 len0 cap0] w fun e w' => e = .returned (.bool true) ∧ Below w.heap.size w w' := by
  have hz := ht.pos
  by_cases hlens : (len0 : Int) ≤ 1048576
  · have hl0 := hlens
    go_enter Tryd.func11, Tryd.ntmps11
    go_wp2_with fail
    refine (drawOpDo_any _ _ _ _ b0).mono ?_
    rintro e w1 ⟨a, cap, rs, o, ho, rfl, hl, hb⟩
    have hlen := hl.len
    have hcap := hl.cap
    have hfit := Lib.hid hl.fit
    have hofit := Lib.hid ho.fit
    have hopS := Lib.hid ho
    have hal : Below w1.heap.size w1 (w1.alloc (.cells #[.int .i64 o.kind, .int .i64 o.id, .int .i64 o.up, .int .i64 o.at_, .string o.txt] 25)) := (Below.refl _ _).alloc (Nat.le_refl _) _
    have hb1 := hb.trans (hal.mono hb.size)
    have hr1 := (hl.rows.below hal).mono hal.size
    have ht1 := ht.below hb1 hz
    clear hl b0 hb
    go_wp2_with fail
    refine (implOpDo_any _ _ _ _ _ _ (Nat.le_refl _) hr1 hfit.out hofit.out ht1).mono ?_
    rintro e w2 ⟨xa, xc, rfl, own2, hxc, hb2⟩
    have HB : Hid (∀ x, Below w2.heap.size w2 x → x.cell? ⟨w1.heap.size, 0, none⟩ = some (.int .i64 o.kind) ∧ x.cell? ⟨w1.heap.size, 1, none⟩ = some (.int .i64 o.id) ∧ x.cell? ⟨w1.heap.size, 2, none⟩ = some (.int .i64 o.up) ∧ x.cell? ⟨w1.heap.size, 3, none⟩ = some (.int .i64 o.at_) ∧ x.cell? ⟨w1.heap.size, 4, none⟩ = some (.string o.txt)) := fun x hx => ((OBox.new w1 o).below (hb2.trans (hx.mono hb2.size)) (OBox.new w1 o).lt).cells
    have hr2 := (hr1.below hb2).mono hb2.size
    have hx2 := (got_own own2).rows
    have HXC := Lib.hid (own_capm own2)
    have hbw2 := Lib.hid (Nat.lt_of_lt_of_le (OBox.new w1 o).lt hb2.size)
    have b2 := hb1.trans (hb2.mono hb1.size)
    have hrl : (doT rs o).length ≤ 1048576 := by have := doT_len rs o; omega
    have HT : Hid (treeB rs = true → opokB o = true → treeB (doT rs o) = true) := fun h1 h2 => doT_tree h1 h2
    clear hr1 own2 hb2 hal hb1 ht1
    have HS : Hid (∀ x, RowsAt x.heap.size x a rs → Calls Tryd.prog 32 #[.slice a rs.length cap, .agg #[.int .i64 o.kind, .int .i64 o.id, .int .i64 o.up, .int .i64 o.at_, .string o.txt]] x (RetOwn (doT rs o) x)) := fun x h => specOpDo_any _ _ _ rs o x (Nat.le_refl _) h hfit.out hofit.out hcap.1 hcap.2
    have HD : Hid (treeB rs = true → opokB o = true → o.kind = 3 → ∀ i, i < rs.length → ((rat rs i).id ≠ o.id → upI rs (rat rs i).id = upI (doT rs o) (rat rs i).id) ∧ undT rs (rat rs i).id o.id = undT (doT rs o) (rat rs i).id o.id ∧ ((rat rs i).id ≠ o.id → undT rs (rat rs i).id o.id = true → kidsT rs (rat rs i).id = kidsT (doT rs o) (rat rs i).id)) := fun h1 h2 h3 i hi => doT_moveAll h1 h2 h3 i hi
    generalize doT rs o = res at *
    obtain ⟨x0, x1, x2, x3, x4⟩ := HB.out w2 (Below.refl _ _)
    go_wp2_with fail
    refine (HS.out w2 hr2).mono ?_
    rintro e w3 ⟨ya, yc, rfl, own3, hyc, hb3⟩
    have hy3 := (got_own own3).rows
    have hx3 := (hx2.below hb3).mono hb3.size
    have hr3 := (hr2.below hb3).mono hb3.size
    have b3 := b2.trans (hb3.mono b2.size)
    have c3 := hb3
    clear own3 x0 x1 x2 x3 x4 hr2 hx2 b2 hb3
    go_wp2_with fail
    refine (lpRows_same _ _ _ _ _ _ _ (Nat.le_refl _) hx3 hy3 hrl).mono ?_
    rintro e w4 ⟨rfl, hb4⟩
    have hx4 := (hx3.below hb4).mono hb4.size
    have hr4 := (hr3.below hb4).mono hb4.size
    have b4 := b3.trans (hb4.mono b3.size)
    have c4 := c3.trans (hb4.mono c3.size)
    clear hx3 hr3 b3 c3 hb4 hy3
    go_wp2_with fail
    refine (specTreeOk_any _ _ _ _ _ (Nat.le_refl _) hr4 hfit.out).mono ?_
    rintro e w5 ⟨rfl, hb5⟩
    have hx5 := (hx4.below hb5).mono hb5.size
    have hr5 := (hr4.below hb5).mono hb5.size
    have b5 := b4.trans (hb5.mono b4.size)
    have c5 := c4.trans (hb5.mono c4.size)
    clear hx4 hr4 b4 c4 hb5
    obtain ⟨x0, x1, x2, x3, x4⟩ := HB.out w5 c5
    have HL : Hid (∀ x va vc, RowsAt x.heap.size x xa res → RowsAt x.heap.size x va res → Calls Tryd.prog 31 #[.slice xa res.length xc, .slice va res.length vc] x (RetBelow (.bool true) x)) := fun x va vc h1 h2 => lpRows_same _ _ _ _ _ _ _ (Nat.le_refl _) h1 h2 hrl
    cases hT : treeB rs
    · go_wp2_with fail
      refine (HS.out _ hr5).mono ?_
      rintro e wa ⟨za, zc, rfl, owna, hzc, hba⟩
      have hza := (got_own owna).rows
      have hxa := (hx5.below hba).mono hba.size
      have ba := b5.trans (hba.mono b5.size)
      clear owna x0 x1 x2 x3 x4 hr5 hx5 b5 hba
      go_wp2_with fail
      refine (HL.out _ _ _ hxa hza).mono ?_
      rintro e wb ⟨rfl, hbb⟩
      have bb := ba.trans (hbb.mono ba.size)
      go_wp2
      go_ret
      exact ⟨rfl, bb⟩
    · go_wp2_with fail
      refine (specOpOk_any o _ hofit.out).mono ?_
      rintro e w6 ⟨rfl, hb6⟩
      have hx6 := (hx5.below hb6).mono hb6.size
      have hr6 := (hr5.below hb6).mono hb6.size
      have b6 := b5.trans (hb6.mono b5.size)
      have c6 := c5.trans (hb6.mono c5.size)
      clear x0 x1 x2 x3 x4 hx5 hr5 b5 c5 hb6
      obtain ⟨x0, x1, x2, x3, x4⟩ := HB.out w6 c6
      cases hK : opokB o
      · go_wp2_with fail
        refine (HS.out _ hr6).mono ?_
        rintro e wa ⟨za, zc, rfl, owna, hzc, hba⟩
        have hza := (got_own owna).rows
        have hxa := (hx6.below hba).mono hba.size
        have ba := b6.trans (hba.mono b6.size)
        clear owna x0 x1 x2 x3 x4 hr6 hx6 b6 hba
        go_wp2_with fail
        refine (HL.out _ _ _ hxa hza).mono ?_
        rintro e wb ⟨rfl, hbb⟩
        have bb := ba.trans (hbb.mono ba.size)
        go_wp2
        go_ret
        exact ⟨rfl, bb⟩
      · have hR := Lib.hid (HT.out hT hK)
        have hfx := Lib.hid (tree_fit hR.out hrl)
        have ht6 := ht.below b6 hz
        by_cases hk : o.kind = 3
        · rw [hk] at x0
          have HI := Lib.hid (HD.out hT hK hk)
          have HU1 : Hid (∀ x c, RowsAt x.heap.size x a rs → Tab x → Calls Tryd.prog 33 #[.slice a rs.length cap, .int .i64 c] x (RetBelow (.tuple #[.int .i64 (upI rs c), .bool (hasB rs c)]) x)) := fun x c h1 h2 => implTreeUp_any _ a cap rs c x (Nat.le_refl _) h1 hfit.out h2
          have HU2 : Hid (∀ x c, RowsAt x.heap.size x xa res → Tab x → Calls Tryd.prog 33 #[.slice xa res.length xc, .int .i64 c] x (RetBelow (.tuple #[.int .i64 (upI res c), .bool (hasB res c)]) x)) := fun x c h1 h2 => implTreeUp_any _ xa xc res c x (Nat.le_refl _) h1 hfx.out h2
          have HN1 : Hid (∀ x c, RowsAt x.heap.size x a rs → Tab x → Calls Tryd.prog 35 #[.slice a rs.length cap, .int .i64 c, .int .i64 o.id] x (RetBelow (.bool (undT rs c o.id)) x)) := fun x c h1 h2 => implTreeUnder_any _ a cap rs c o.id x (Nat.le_refl _) h1 hfit.out h2
          have HN2 : Hid (∀ x c, RowsAt x.heap.size x xa res → Tab x → Calls Tryd.prog 35 #[.slice xa res.length xc, .int .i64 c, .int .i64 o.id] x (RetBelow (.bool (undT res c o.id)) x)) := fun x c h1 h2 => implTreeUnder_any _ xa xc res c o.id x (Nat.le_refl _) h1 hfx.out h2
          have HK1 : Hid (∀ x c, RowsAt x.heap.size x a rs → Tab x → Calls Tryd.prog 26 #[.slice a rs.length cap, .int .i64 c] x (RetInts (kidsT rs c) x)) := fun x c h1 h2 => implTreeKids_any _ a cap rs c x (Nat.le_refl _) h1 hfit.out h2
          have HK2 : Hid (∀ x c, RowsAt x.heap.size x xa res → Tab x → Calls Tryd.prog 26 #[.slice xa res.length xc, .int .i64 c] x (RetInts (kidsT res c) x)) := fun x c h1 h2 => implTreeKids_any _ xa xc res c x (Nat.le_refl _) h1 hfx.out h2
          clear HD HT HS hT HL hfx hK
          go_wp2_with fail
          go_loopw [6] (fun i wr => ∃ k : Nat, k ≤ rs.length ∧ i = .int .i64 k ∧ Below w6.heap.size w6 wr) (fun i _ => rs.length - (intOf i).toNat)
          case atStart => exact ⟨0, Nat.zero_le _, rfl, Below.refl _ _⟩
          case round =>
            obtain ⟨k, hk', rfl, hb⟩ := hrel
            have hr := (hr6.below hb).mono hb.size
            have hx := (hx6.below hb).mono hb.size
            have bw := b6.trans (hb.mono b6.size)
            have cw := c6.trans (hb.mono c6.size)
            have htw := ht.below bw hz
            by_cases hlt : k < rs.length
            · have i1 : (k : Int) < (rs.length : Int) := by omega
              obtain ⟨g, off, rfl, hg, e0, _, _⟩ := hr.at_ hlt
              obtain ⟨f1, f2, f3⟩ := HI.out k hlt
              have F1 := Lib.hid f1
              have F3 := Lib.hid f3
              have HC1 := Lib.hid (HU1.out _ (rat rs k).id hr htw)
              have HC2 : Hid (∀ x, RowsAt x.heap.size x xa res → Tab x → Calls Tryd.prog 33 #[.slice xa res.length xc, .int .i64 (rat rs k).id] x (RetBelow (.tuple #[.int .i64 (upI res (rat rs k).id), .bool (hasB res (rat rs k).id)]) x)) := fun x h1 h2 => HU2.out x _ h1 h2
              have HC3 : Hid (∀ x, RowsAt x.heap.size x (some ⟨g, off, none⟩) rs → Tab x → Calls Tryd.prog 35 #[.slice (some ⟨g, off, none⟩) rs.length cap, .int .i64 (rat rs k).id, .int .i64 o.id] x (RetBelow (.bool (undT rs (rat rs k).id o.id)) x)) := fun x h1 h2 => HN1.out x _ h1 h2
              have HC4 : Hid (∀ x, RowsAt x.heap.size x xa res → Tab x → Calls Tryd.prog 35 #[.slice xa res.length xc, .int .i64 (rat rs k).id, .int .i64 o.id] x (RetBelow (.bool (undT rs (rat rs k).id o.id)) x)) := by
                intro x h1 h2
                have h3 := HN2.out x (rat rs k).id h1 h2
                rwa [← f2] at h3
              have HC5 : Hid (∀ x, RowsAt x.heap.size x (some ⟨g, off, none⟩) rs → Tab x → Calls Tryd.prog 26 #[.slice (some ⟨g, off, none⟩) rs.length cap, .int .i64 (rat rs k).id] x (RetInts (kidsT rs (rat rs k).id) x)) := fun x h1 h2 => HK1.out x _ h1 h2
              have HC6 : Hid (∀ x, RowsAt x.heap.size x xa res → Tab x → Calls Tryd.prog 26 #[.slice xa res.length xc, .int .i64 (rat rs k).id] x (RetInts (kidsT res (rat rs k).id) x)) := fun x h1 h2 => HK2.out x _ h1 h2
              clear f1 f2 f3 HU1 HU2 HN1 HN2 HK1 HK2 HI x0 x1 x2 x3 x4
              generalize hasB rs (rat rs k).id = q1 at *
              generalize hasB res (rat rs k).id = q2 at *
              generalize upI rs (rat rs k).id = v1 at *
              generalize upI res (rat rs k).id = v2 at *
              generalize undT rs (rat rs k).id o.id = un at *
              go_wp2_with fail
              refine HC1.out.mono ?_
              rintro e w7 ⟨rfl, hb7⟩
              have hr7 := (hr.below hb7).mono hb7.size
              have hx7 := (hx.below hb7).mono hb7.size
              have bw7 := bw.trans (hb7.mono bw.size)
              have cw7 := cw.trans (hb7.mono cw.size)
              have hb70 := hb.trans (hb7.mono hb.size)
              have ht7 := ht.below bw7 hz
              clear hr hx bw cw htw hb7 hb HC1 e0
              go_wp2_with fail
              refine (HC2.out _ hx7 ht7).mono ?_
              rintro e w8 ⟨rfl, hb8⟩
              have hr8 := (hr7.below hb8).mono hb8.size
              have hx8 := (hx7.below hb8).mono hb8.size
              have bw8 := bw7.trans (hb8.mono bw7.size)
              have cw8 := cw7.trans (hb8.mono cw7.size)
              have hb80 := hb70.trans (hb8.mono hb70.size)
              have ht8 := ht.below bw8 hz
              clear hr7 hx7 bw7 cw7 ht7 hb8 hb70 HC2
              have x1 := (HB.out w8 cw8).2.1
              have hbw8 : Hid (w1.heap.size < w8.heap.size) := Nat.lt_of_lt_of_le hbw2.out cw8.size
              have L1 := later_cell x1 hbw8.out
              have HR : Hid (∀ u : Later w8, RowsAt u.x.heap.size u.x (some ⟨g, off, none⟩) rs ∧ RowsAt u.x.heap.size u.x xa res ∧ Tab u.x ∧ Below w6.heap.size w6 u.x) := fun u => ⟨(hr8.below u.h).mono u.h.size, (hx8.below u.h).mono u.h.size, ht.below (bw8.trans (u.h.mono bw8.size)) hz, hb80.trans (u.h.mono hb80.size)⟩
              go_wp2_with fail
              by_cases hid : (rat rs k).id = o.id
              · have hid' : ((rat rs k).id == o.id) = true := beq_iff_eq.2 hid
                have hid2 : ((rat rs k).id != o.id) = false := by simp [hid]
                rw [hid] at HC3 HC4
                refine wp_region_later (by kernel_rfl) (by kernel_rfl) ?_
                repeat (go_big_quiet_step (first | (go_at_call 35; (with_reducible exact later_of (HC3.out _ (HR.out _).1 (HR.out _).2.2.1))) | (go_at_call 35; (with_reducible exact later_of (HC4.out _ (HR.out _).2.1 (HR.out _).2.2.1)))))
                refine wpQuiet_nil ?_
                rintro wn ⟨u, rfl⟩
                have bn := (HR.out u).2.2.2
                clear HC3 HC4 HC5 HC6 F1 F3 L1 HR x1
                go_wp2
                go_roundw
                case rel => exact ⟨k + 1, by omega, by go_num, bn⟩
                case measure => simp [intOf]; omega
              · have hid' : ((rat rs k).id == o.id) = false := beq_eq_false_iff_ne.2 hid
                have hid2 : ((rat rs k).id != o.id) = true := by simp [hid]
                have ev := F1.out hid
                subst ev
                cases un
                · refine wp_region_later (by kernel_rfl) (by kernel_rfl) ?_
                  repeat (go_big_quiet_step (first | (go_at_call 35; (with_reducible exact later_of (HC3.out _ (HR.out _).1 (HR.out _).2.2.1))) | (go_at_call 35; (with_reducible exact later_of (HC4.out _ (HR.out _).2.1 (HR.out _).2.2.1)))))
                  refine wpQuiet_nil ?_
                  rintro wn ⟨u, rfl⟩
                  have bn := (HR.out u).2.2.2
                  clear HC3 HC4 HC5 HC6 F1 F3 L1 HR x1
                  go_wp2
                  go_roundw
                  case rel => exact ⟨k + 1, by omega, by go_num, bn⟩
                  case measure => simp [intOf]; omega
                · have ek := F3.out hid rfl
                  rw [← ek] at HC6
                  have hkl : Hid ((kidsT rs (rat rs k).id).length ≤ 1048576) := by
                    show (kidsT rs (rat rs k).id).length ≤ 1048576
                    unfold kidsT
                    split
                    · exact kidsL_len (by omega)
                    · simp
                  have hd8 : Below w8.heap.size w8 w8.drew := (Below.refl _ _).drew
                  have hr8d : RowsAt w8.drew.heap.size w8.drew (some ⟨g, off, none⟩) rs := (hr8.below hd8).mono hd8.size
                  have hx8d : RowsAt w8.drew.heap.size w8.drew xa res := (hx8.below hd8).mono hd8.size
                  have b8d : Below w.heap.size w w8.drew := bw8.trans (hd8.mono bw8.size)
                  have c8d : Below w2.heap.size w2 w8.drew := cw8.trans (hd8.mono cw8.size)
                  have hb8d : Below w6.heap.size w6 w8.drew := hb80.trans (hd8.mono hb80.size)
                  have ht8d := ht.below b8d hz
                  have m1 := (HB.out _ c8d).2.1
                  clear ek F1 F3 L1 HR hr8 hx8 bw8 cw8 hb80 ht8 hd8
                  generalize kidsT rs (rat rs k).id = ks at *
                  go_region_held3 (fun x : World => x.cell? ⟨w1.heap.size, 1, none⟩ = some (.int .i64 o.id)) (first | exact m1 | exact n1 | exact n2 | exact n3 | exact n4 | exact n5 | exact n6) (first
                    | (go_at_call 35; (with_reducible refine (HC3.out _ hr8d ht8d).mono ?_); rintro e w9 ⟨rfl, h9⟩; have hr9 := (hr8d.below h9).mono h9.size; have hx9 := (hx8d.below h9).mono h9.size; have b9 := b8d.trans (h9.mono b8d.size); have c9 := c8d.trans (h9.mono c8d.size); have hb9 := hb8d.trans (h9.mono hb8d.size); have ht9 := ht.below b9 hz; have n1 := (HB.out _ c9).2.1)
                    | (go_at_call 35; (with_reducible refine (HC4.out _ hx9 ht9).mono ?_); rintro e w10 ⟨rfl, h10⟩; have hr10 := (hr9.below h10).mono h10.size; have hx10 := (hx9.below h10).mono h10.size; have b10 := b9.trans (h10.mono b9.size); have c10 := c9.trans (h10.mono c9.size); have hb10 := hb9.trans (h10.mono hb9.size); have ht10 := ht.below b10 hz; have n2 := (HB.out _ c10).2.1)
                    | (go_at_call 35; (with_reducible refine (HC3.out _ hr10 ht10).mono ?_); rintro e w11 ⟨rfl, h11⟩; have hr11 := (hr10.below h11).mono h11.size; have hx11 := (hx10.below h11).mono h11.size; have b11 := b10.trans (h11.mono b10.size); have c11 := c10.trans (h11.mono c10.size); have hb11 := hb10.trans (h11.mono hb10.size); have ht11 := ht.below b11 hz; have n3 := (HB.out _ c11).2.1)
                    | (go_at_call 26; (with_reducible refine (HC5.out _ hr11 ht11).mono ?_); rintro e w12 ⟨kv, rfl, own12, h12⟩; obtain ⟨ka, kc, rfl, hkc⟩ := own_slice own12; have hk12 := (ints_of_own own12).low; have hx12 := (hx11.below h12).mono h12.size; have b12 := b11.trans (h12.mono b11.size); have c12 := c11.trans (h12.mono c11.size); have hb12 := hb11.trans (h12.mono hb11.size); have ht12 := ht.below b12 hz; have n4 := (HB.out _ c12).2.1)
                    | (go_at_call 26; (with_reducible refine (HC6.out _ hx12 ht12).mono ?_); rintro e w13 ⟨kv', rfl, own13, h13⟩; obtain ⟨ka', kc', rfl, hkc'⟩ := own_slice own13; have hk13 := (ints_of_own own13).low; have hk13' := (hk12.below h13).mono h13.size; have c13 := c12.trans (h13.mono c12.size); have hb13 := hb12.trans (h13.mono hb12.size); have n5 := (HB.out _ c13).2.1)
                    | (go_at_call 36; refine (lpInts_eq _ _ _ _ _ _ _ (Nat.le_refl _) hk13' hk13 hkl.out).mono ?_; rintro e w14 ⟨rfl, h14⟩; have c14 := c13.trans (h14.mono c13.size); have hb14 := hb13.trans (h14.mono hb13.size); have n6 := (HB.out _ c14).2.1))
                  all_goals
                    clear HC3 HC4 HC5 HC6
                    go_wp2
                    go_roundw
                    case rel => exact ⟨k + 1, by omega, by go_num, hb14⟩
                    case measure => simp [intOf]; omega
            · go_wp2
              go_ret
              exact ⟨rfl, bw⟩
        · generalize hkd : o.kind = kd at *
          go_wp2_with fail
          refine (HS.out _ hr6).mono ?_
          rintro e wa ⟨za, zc, rfl, owna, hzc, hba⟩
          have hza := (got_own owna).rows
          have hxa := (hx6.below hba).mono hba.size
          have ba := b6.trans (hba.mono b6.size)
          clear owna x0 x1 x2 x3 x4 hr6 hx6 b6 hba
          go_wp2_with fail
          refine (HL.out _ _ _ hxa hza).mono ?_
          rintro e wb ⟨rfl, hbb⟩
          have bb := ba.trans (hbb.mono ba.size)
          go_wp2
          go_ret
          exact ⟨rfl, bb⟩
  · exact fnMoveAll_long _ _ _ _ hlens
end Go.Proofs.YtlhlkbbjmbpgpaaDoor
