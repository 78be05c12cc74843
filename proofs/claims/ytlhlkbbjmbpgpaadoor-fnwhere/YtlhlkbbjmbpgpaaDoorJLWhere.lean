/-
  The walk of the law FnWhere out of the contracts. Conditions: the argument reads as bytes; the table 'creators' holds what its initialiser lays.
-/
import Derived.Test.YtlhlkbbjmbpgpaaDoorGI
import Derived.Test.YtlhlkbbjmbpgpaaDoorJDrawWh
import Derived.Test.YtlhlkbbjmbpgpaaDoorGH
import Derived.Test.YtlhlkbbjmbpgpaaDoorGB
import Derived.Deep.RegionHeld3
namespace Go.Proofs.YtlhlkbbjmbpgpaaDoor
open Go.ChangeShapes Go.WideShapes Go.ChangeAt Go.RowKit Go.Joins

theorem kidsT_few {rs : List RowD} {id : Int} (hl : rs.length ≤ 1048576) : (kidsT rs id).length ≤ 1048576 := by
  unfold kidsT
  split
  · exact kidsL_len hl
  · simp
theorem where_facts {rs : List RowD} {o : OpD} (h : owB rs o = true) : treeB rs = true ∧ (¬ atN rs o.up < rs.length → owU rs o = 3 ∧ owA rs o = 0) ∧ (atN rs o.up < rs.length → owU rs o = o.up ∧ (0 < o.at_ → o.at_ ≠ o.id → amongB (kidsT rs o.up) o.at_ = true → owA rs o = o.at_) ∧ ((¬ 0 < o.at_ ∨ o.at_ = o.id ∨ amongB (kidsT rs o.up) o.at_ = false) → owA rs o = 0)) := by
  unfold owB at h
  simp only [Bool.and_eq_true, Bool.not_eq_true'] at h
  obtain ⟨⟨h1, h2⟩, hn⟩ := h
  obtain ⟨e1, e2, _⟩ := ow_yes (rs := rs) (o := o) (by rw [h1, h2]; rfl)
  rw [e1, e2]
  refine ⟨h1, fun g => ?_, fun g => ?_⟩
  · have hu : thereB rs o.up = false := by simp [thereB, g]
    exact ⟨by simp [whereU, hn, hu], by simp [whereA, hn, hu]⟩
  · have hu : thereB rs o.up = true := there_iff.2 g
    have hA : whereA rs o = atOfL (kidsL rs o.up) o := by simp [whereA, hn, hu]
    have hk : kidsT rs o.up = kidsL rs o.up := by simp [kidsT, h1]
    refine ⟨by simp [whereU, hn, hu], fun g1 g2 g3 => ?_, fun g1 => ?_⟩
    · rw [hk, amongB_iff] at g3
      rw [hA, atOf_eq, if_pos ⟨g3, g2⟩]
    · rw [hA, atOf_eq]
      split
      · rename_i q
        rcases g1 with g1 | g1 | g1
        · have := ((kids_up h1 hu).1 q.1).1
          have := (there_pos h1 this).1
          omega
        · exact absurd g1 q.2
        · rw [hk, Bool.eq_false_iff] at g1
          exact absurd (amongB_iff.2 q.1) g1
      · rfl
theorem fnWhere_long (a0 : Option Addr) (len0 cap0 : Nat) (w : World) (h : ¬ (len0 : Int) ≤ 1048576) :
    Calls Tryd.prog 3 #[.slice a0 len0 cap0] w fun e w' => e = .returned (.bool true) ∧ Below w.heap.size w w' := by
  go_enter Tryd.func3, Tryd.ntmps3
  go_wp2
  go_ret
  exact ⟨rfl, Below.refl _ _⟩
set_option maxRecDepth 100000 in
set_option maxHeartbeats 4000000 in
theorem fnWhere_walk (w : World) (ht : Tab w) (a0 : Option Addr) (len0 cap0 : Nat) (b0 : Bytes w a0 len0 cap0) :
    Calls Tryd.prog 3 #[.slice a0 len0 cap0] w fun e w' => e = .returned (.bool true) ∧ Below w.heap.size w w' := by
  have hz := ht.pos
  by_cases hlens : (len0 : Int) ≤ 1048576
  · have hl0 := hlens
    go_enter Tryd.func3, Tryd.ntmps3
    go_wp2_with fail
    refine (drawOpWhere_any _ _ _ _ b0).mono ?_
    rintro e w1 ⟨a, cap, rs, o, ho, rfl, hl, hb⟩
    have hlen := hl.len
    have hcap := hl.cap
    have hfit := Lib.hid hl.fit
    have hofit := Lib.hid ho.fit
    have hal : Below w1.heap.size w1 (w1.alloc (.cells #[.int .i64 o.kind, .int .i64 o.id, .int .i64 o.up, .int .i64 o.at_, .string o.txt] 25)) := (Below.refl _ _).alloc (Nat.le_refl _) _
    have hb1 := hb.trans (hal.mono hb.size)
    have hr1 := (hl.rows.below hal).mono hal.size
    clear hl b0 hb
    go_wp2_with fail
    refine (specOpWhere_any _ _ _ _ _ _ (Nat.le_refl _) hr1 hfit.out hofit.out).mono ?_
    rintro e w2 ⟨rfl, hb2⟩
    have HB : Hid (∀ x, Below w2.heap.size w2 x → x.cell? ⟨w1.heap.size, 0, none⟩ = some (.int .i64 o.kind) ∧ x.cell? ⟨w1.heap.size, 1, none⟩ = some (.int .i64 o.id) ∧ x.cell? ⟨w1.heap.size, 2, none⟩ = some (.int .i64 o.up) ∧ x.cell? ⟨w1.heap.size, 3, none⟩ = some (.int .i64 o.at_) ∧ x.cell? ⟨w1.heap.size, 4, none⟩ = some (.string o.txt)) := fun x hx => ((OBox.new w1 o).below (hb2.trans (hx.mono hb2.size)) (OBox.new w1 o).lt).cells
    have hbw2 := Lib.hid (Nat.lt_of_lt_of_le (OBox.new w1 o).lt hb2.size)
    have hr2 := (hr1.below hb2).mono hb2.size
    have b2 := hb1.trans (hb2.mono hb1.size)
    have ht2 := ht.below b2 hz
    have HI : Hid (∀ x, RowsAt x.heap.size x a rs → Tab x → Calls Tryd.prog 23 #[.slice a rs.length cap, .agg #[.int .i64 o.kind, .int .i64 o.id, .int .i64 o.up, .int .i64 o.at_, .string o.txt]] x (RetBelow (.tuple #[.int .i64 (owU rs o), .int .i64 (owA rs o), .bool (owB rs o)]) x)) := fun x h1 h2 => implOpWhere_any _ a cap rs o x (Nat.le_refl _) h1 hfit.out hofit.out h2
    have HD : Hid (owB rs o = true → treeB rs = true ∧ (¬ atN rs o.up < rs.length → owU rs o = 3 ∧ owA rs o = 0) ∧ (atN rs o.up < rs.length → owU rs o = o.up ∧ (0 < o.at_ → o.at_ ≠ o.id → amongB (kidsT rs o.up) o.at_ = true → owA rs o = o.at_) ∧ ((¬ 0 < o.at_ ∨ o.at_ = o.id ∨ amongB (kidsT rs o.up) o.at_ = false) → owA rs o = 0))) := fun h => where_facts h
    clear hr1 hb2 hal hb1
    generalize owU rs o = wu at *
    generalize owA rs o = wa at *
    generalize owB rs o = wb at *
    obtain ⟨x0, x1, x2, x3, x4⟩ := HB.out w2 (Below.refl _ _)
    go_wp2_with fail
    refine (HI.out w2 hr2 ht2).mono ?_
    rintro e w3 ⟨rfl, hb3⟩
    have hr3 := (hr2.below hb3).mono hb3.size
    have b3 := b2.trans (hb3.mono b2.size)
    have c3 := hb3
    have ht3 := ht.below b3 hz
    clear x0 x1 x2 x3 x4 hr2 b2 hb3 ht2
    obtain ⟨x0, x1, x2, x3, x4⟩ := HB.out w3 c3
    cases wb
    · go_wp2
      go_ret
      exact ⟨by first | rfl | simp, b3⟩
    · obtain ⟨hT, D1, D2⟩ := HD.out rfl
      have HA := Lib.hid (lpAt_any w3.heap.size a cap rs o.up w3 hr3 hfit.out)
      by_cases hu : atN rs o.up < rs.length
      · rw [atI_pos hu] at HA
        obtain ⟨f1, f2, f3⟩ := D2 hu
        subst f1
        have F2 := Lib.hid f2
        have F3 := Lib.hid f3
        clear D1 D2 HD hu f2 f3
        generalize atN rs o.up = q at *
        have b3d := b3.trans ((Below.refl w3.heap.size w3).drew.mono b3.size)
        have hr3d : RowsAt w3.drew.heap.size w3.drew a rs := (hr3.below (Below.refl w3.heap.size w3).drew).mono (Below.refl w3.heap.size w3).drew.size
        have HK := Lib.hid (implTreeKids_any w3.drew.heap.size a cap rs o.up w3.drew (Nat.le_refl _) hr3d hfit.out (ht.below b3d hz))
        have HKL : Hid ((kidsT rs o.up).length ≤ 1048576) := kidsT_few (by omega)
        by_cases h1 : (0 : Int) < o.at_
        · by_cases h2 : o.at_ = o.id
          · have e := F3.out (.inr (.inl h2))
            subst e
            have h2' := beq_iff_eq.2 h2
            have h1c : (0 : Int) < o.id := by omega
            have h1b : decide ((0 : Int) < o.id) = true := by simp [h1c]
            rw [h2] at x3
            go_wp2_with fail
            refine HA.out.mono ?_
            rintro e w' ⟨rfl, rfl⟩
            go_wp2_with fail
            have hbw := Nat.lt_of_lt_of_le hbw2.out c3.size
            have L1 := later_cell x1 hbw
            have L2 := later_cell x2 hbw
            have L3 := later_cell x3 hbw
            clear hbw
            refine wp_region_later (by kernel_rfl) (by kernel_rfl) ?_
            repeat (go_big_quiet_step (fail))
            refine wpQuiet_nil ?_
            rintro wn ⟨⟨_, hbn⟩, rfl⟩
            have bn := b3.trans (hbn.mono b3.size)
            have cn := c3.trans (hbn.mono c3.size)
            clear x0 x1 x2 x3 x4 L1 L2 L3
            obtain ⟨x0, x1, x2, x3, x4⟩ := HB.out _ cn
            go_wp2
            go_ret
            exact ⟨by first | rfl | simp, bn⟩
          · have h2' : (o.at_ == o.id) = false := beq_eq_false_iff_ne.2 h2
            have F2' := Lib.hid (F2.out h1 h2)
            have F3' : Hid (amongB (kidsT rs o.up) o.at_ = false → wa = 0) := fun g => F3.out (.inr (.inr g))
            clear F2 F3
            generalize kidsT rs o.up = ks at *
            generalize hm : amongB ks o.at_ = m at *
            go_wp2_with fail
            refine HA.out.mono ?_
            rintro e w' ⟨rfl, rfl⟩
            have c3d := c3.trans ((Below.refl w3.heap.size w3).drew.mono c3.size)
            obtain ⟨y0, y1, y2, y3, y4⟩ := HB.out w3.drew c3d
            go_wp2_with fail
            have h2b : (o.at_ != o.id) = true := by simp [h2]
            have h2d : (!(o.at_ == o.id)) = true := by rw [h2']; rfl
            have h1b : decide ((0 : Int) < o.at_) = true := by simp [h1]
            go_region_held3 (fun x : World => x.cell? ⟨w1.heap.size, 1, none⟩ = some (.int .i64 o.id) ∧ x.cell? ⟨w1.heap.size, 2, none⟩ = some (.int .i64 o.up) ∧ x.cell? ⟨w1.heap.size, 3, none⟩ = some (.int .i64 o.at_)) (first | exact ⟨y1, y2, y3⟩ | exact ⟨z1, z2, z3⟩) (first | (go_at_call 26; refine HK.out.mono ?_; rintro e w4 ⟨kv, rfl, own, hb4⟩; obtain ⟨ka, kc, rfl, hkc⟩ := own_slice own; have b4 := b3d.trans (hb4.mono b3d.size); have c4 := c3d.trans (hb4.mono c3d.size); obtain ⟨z0, z1, z2, z3, z4⟩ := HB.out w4 c4) | (go_at_call 25; refine (lpAmong_any w4.heap.size _ _ _ _ _ (ints_of_own own).low HKL.out).mono ?_; rintro e w5 ⟨rfl, rfl⟩; rw [hm]))
            all_goals
              cases m
              · have e := F3'.out rfl
                subst e
                go_wp2
                go_ret
                exact ⟨by first | rfl | simp, b4⟩
              · have e := F2'.out rfl
                subst e
                go_wp2
                go_ret
                exact ⟨by first | rfl | simp, b4⟩
        · have e := F3.out (.inl (by omega))
          subst e
          have h1b : decide ((0 : Int) < o.at_) = false := by simp; omega
          go_wp2_with fail
          refine HA.out.mono ?_
          rintro e w' ⟨rfl, rfl⟩
          go_wp2_with fail
          have hbw := Nat.lt_of_lt_of_le hbw2.out c3.size
          have L1 := later_cell x1 hbw
          have L2 := later_cell x2 hbw
          have L3 := later_cell x3 hbw
          clear hbw
          refine wp_region_later (by kernel_rfl) (by kernel_rfl) ?_
          repeat (go_big_quiet_step (fail))
          refine wpQuiet_nil ?_
          rintro wn ⟨⟨_, hbn⟩, rfl⟩
          have bn := b3.trans (hbn.mono b3.size)
          have cn := c3.trans (hbn.mono c3.size)
          clear x0 x1 x2 x3 x4 L1 L2 L3
          obtain ⟨x0, x1, x2, x3, x4⟩ := HB.out _ cn
          go_wp2
          go_ret
          exact ⟨by first | rfl | simp, bn⟩
      · obtain ⟨f1, f2⟩ := D1 hu
        subst f1 f2
        rw [atI_neg (by have := atN_le rs o.up; omega)] at HA
        clear D1 D2 HD hu
        go_wp2_with fail
        refine HA.out.mono ?_
        rintro e w' ⟨rfl, rfl⟩
        go_wp2
        go_ret
        exact ⟨by first | rfl | simp, b3⟩
  · exact fnWhere_long _ _ _ _ hlens
end Go.Proofs.YtlhlkbbjmbpgpaaDoor
