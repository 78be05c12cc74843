/-
  Contract of the model's KeyBack at every change. Conditions: the rows lie in memory as a slice of rows; the change's text is not too long.
-/
import Derived.Test.YtklefdhjfadhpaaDoorJSKeyBack
namespace Go.Proofs.YtklefdhjfadhpaaDoor
open Go.ChangeShapes Go.WideShapes Go.ChangeAt Go.RowKit Go.Joins Go.Deep

set_option maxRecDepth 100000 in
set_option maxHeartbeats 4000000 in
theorem specKeyBack_nowhere (B : Nat) (a : Option Addr) (cap : Nat) (rs : List RowD) (o : OpD) (w : World) (hB : B ≤ w.heap.size) (h : RowsAt B w a rs) (hf : Fit rs) (ho : OpFit o) (_hc : rs.length ≤ cap) (_hcm : cap ≤ maxLen) (htb : treeB rs = true) (hok : opokB o = true) (hk : ¬ o.kind = 2) (hn : noWhereB rs o = true) :
    Calls Tryd.prog 26 #[.slice a rs.length cap, .agg #[.int .i64 o.kind, .int .i64 o.id, .int .i64 o.up, .int .i64 o.at_, .string o.txt]] w (RetBelow (keyV kz false) w) := by
  have hl := hf.1
  have hk0 := BSt.start o hB h
  have hsm := treeP_small htb
  go_enter Tryd.func26, Tryd.ntmps26
  go_wp2_with fail
  refine (specTreeOk_any _ _ _ _ _ (Nat.le_refl _) hk0.rows hf).mono ?_
  rintro _ w1 ⟨rfl, hb1⟩
  have hk1 := hk0.step hb1
  clear hk0 hb1
  rw [htb]
  obtain ⟨x0, x1, x2, x3, x4⟩ := hk1.arg.cells
  go_wp2_with fail
  refine (specOpOk_any o _ ho).mono ?_
  rintro _ w2 ⟨rfl, hb2⟩
  have hk2 := hk1.step hb2
  clear hk1 hb2 x0 x1 x2 x3 x4
  rw [hok]
  obtain ⟨x0, x1, x2, x3, x4⟩ := hk2.arg.cells
  go_wp2_with fail
  refine (l2At_any _ _ _ _ _ _ hk2.rows hf).mono ?_
  rintro _ _ ⟨rfl, rfl⟩
  go_wp2_with fail
  refine (l3Where_any _ _ _ _ _ _ (Nat.le_refl _) hk2.rows hf hsm).mono ?_
  rintro _ w3 ⟨rfl, hb3⟩
  have hk3 := hk2.step hb3
  clear hk2 hb3 x0 x1 x2 x3 x4
  rw [hn]
  obtain ⟨d0, d1, d2, d3, d4⟩ := hk3.box.cells
  have y0 := hk3.box.frozen 0
  have y1 := hk3.box.frozen 1
  have y2 := hk3.box.frozen 2
  have y3 := hk3.box.frozen 3
  have y4 := hk3.box.frozen 4
  have HP := Lib.hid (hk3.post kz)
  clear hk3 hn htb hok hsm
  go_wp2
  exact bodyPost_ret (by simp [results, Tryd.results26, go_sem, d0, d1, d2, d3, d4, keyV, kz]) rfl ⟨rfl, HP.out⟩
set_option maxRecDepth 100000 in
set_option maxHeartbeats 4000000 in
theorem specKeyBack_go (B : Nat) (a : Option Addr) (cap : Nat) (rs : List RowD) (o : OpD) (w : World) (hB : B ≤ w.heap.size) (h : RowsAt B w a rs) (hf : Fit rs) (ho : OpFit o) (hc : rs.length ≤ cap) (hcm : cap ≤ maxLen) (htb : treeB rs = true) (hok : opokB o = true) (hk : ¬ o.kind = 2) (hnw : noWhereB rs o = false) :
    Calls Tryd.prog 26 #[.slice a rs.length cap, .agg #[.int .i64 o.kind, .int .i64 o.id, .int .i64 o.up, .int .i64 o.at_, .string o.txt]] w (RetBelow (keyV (kbackO rs o) (kbackB rs o)) w) := by
  have hl := hf.1
  have hk0 := BSt.start o hB h
  have hsm := treeP_small htb
  go_enter Tryd.func26, Tryd.ntmps26
  go_wp2_with fail
  refine (specTreeOk_any _ _ _ _ _ (Nat.le_refl _) hk0.rows hf).mono ?_
  rintro _ w1 ⟨rfl, hb1⟩
  have hk1 := hk0.step hb1
  clear hk0 hb1
  rw [htb]
  obtain ⟨x0, x1, x2, x3, x4⟩ := hk1.arg.cells
  go_wp2_with fail
  refine (specOpOk_any o _ ho).mono ?_
  rintro _ w2 ⟨rfl, hb2⟩
  have hk2 := hk1.step hb2
  clear hk1 hb2 x0 x1 x2 x3 x4
  rw [hok]
  obtain ⟨x0, x1, x2, x3, x4⟩ := hk2.arg.cells
  go_wp2_with fail
  refine (l2At_any _ _ _ _ _ _ hk2.rows hf).mono ?_
  rintro _ _ ⟨rfl, rfl⟩
  go_wp2_with fail
  refine (l3Where_any _ _ _ _ _ _ (Nat.le_refl _) hk2.rows hf hsm).mono ?_
  rintro _ w3 ⟨rfl, hb3⟩
  have hk3 := hk2.step hb3
  clear hk2 hb3 x0 x1 x2 x3 x4
  have hres := do_tree htb hok
  cases hn : noWhereB rs o
  · obtain ⟨x0, x1, x2, x3, x4⟩ := hk3.arg.cells
    have HIN : Hid (textT (doR rs o) = textT rs → doR rs o = rs) := fun e => textT_inj hres htb e
    have HKP : Hid (kbackP rs o = if o.kind = 1 then moveO o.id 2 0 else moveO o.id (upAt rs (atN rs o.id)) (ahAt rs (atN rs o.id))) := by unfold Hid; simp [kbackP, hk]
    have hmv : Hid (doR rs o ≠ rs → o.kind = 1 ∨ (o.kind = 3 ∧ atN rs o.id < rs.length)) := fun e => by
      rcases opok_kind hok with q | q | q
      · exact .inl q
      · exact absurd q hk
      · exact .inr ⟨q, by simpa [thereB] using move_there q e⟩
    have HON : Hid (doR rs o ≠ rs → kbackB rs o = true) := fun e => kback_iff.2 ⟨htb, hok, e⟩
    have HOFF : Hid (doR rs o = rs → kbackB rs o = false) := fun e => kback_off3 e
    have hlr := tree_len hres
    have HLN := Lib.hid (tree_lines hres)
    have HLM := Lib.hid (tree_lines htb)
    have HKI := Lib.hid (fun q => kback_is (rs := rs) (o := o) q)
    have HKN := Lib.hid (fun q => kback_no (rs := rs) (o := o) q)
    have HDO := Lib.hid (l3Do_any _ _ cap rs o w3 (Nat.le_refl _) hk3.rows hf hc hcm htb hok)
    generalize kbackO rs o = ko at *
    generalize kbackB rs o = kb at *
    generalize doR rs o = res at *
    go_wp2_with fail
    refine HDO.out.mono ?_
    rintro _ w4 ⟨xa, xc, rfl, own4, hxc, hb4⟩
    have hx4 := (got_own own4).rows
    have hk4 := hk3.step hb4
    clear hk3 hb4 own4 HDO x0 x1 x2 x3 x4
    go_wp2_with fail
    refine (l2Text_any _ _ _ _ _ (Nat.le_refl _) hx4 (by omega) HLN.out).mono ?_
    rintro _ w5 ⟨rfl, hb5⟩
    have hk5 := hk4.step hb5
    clear hk4 hb5 hx4
    go_wp2_with fail
    refine (l2Text_any _ _ _ _ _ (Nat.le_refl _) hk5.rows hl HLM.out).mono ?_
    rintro _ w6 ⟨rfl, hb6⟩
    have hk6 := hk5.step hb6
    clear hk5 hb6
    obtain ⟨x0, x1, x2, x3, x4⟩ := hk6.arg.cells
    obtain ⟨d0, d1, d2, d3, d4⟩ := hk6.box.cells
    have y0 := hk6.box.frozen 0
    have y1 := hk6.box.frozen 1
    have y2 := hk6.box.frozen 2
    have y3 := hk6.box.frozen 3
    have y4 := hk6.box.frozen 4
    by_cases he : textT res = textT rs
    · have e1 := HOFF.out (HIN.out he)
      subst e1
      obtain rfl : ko = kz := HKN.out rfl
      have HP := Lib.hid (hk6.post kz)
      rw [he]
      clear hk6 HIN HKP hmv HON HOFF HLN HLM HKI HKN hn he
      go_wp2
      exact bodyPost_ret (by simp [results, Tryd.results26, go_sem, d0, d1, d2, d3, d4, keyV, kz]) rfl ⟨rfl, HP.out⟩
    · have hne : res ≠ rs := fun e => he (by rw [e])
      have e1 := HON.out hne
      subst e1
      have HKO : Hid (ko = if o.kind = 1 then moveO o.id 2 0 else moveO o.id (upAt rs (atN rs o.id)) (ahAt rs (atN rs o.id))) := by unfold Hid; rw [HKI.out rfl, HKP.out]
      have HM := Lib.hid (hmv.out hne)
      have he2 : ¬ (textT res).toList = (textT rs).toList := fun e => he (txt_inj e)
      have he3 : ((textT res).toList == (textT rs).toList) = false := beq_eq_false_iff_ne.2 he2
      clear HIN HKP hmv HON HOFF HLN HLM HKI HKN hn he hne
      generalize textT res = s1 at *
      generalize textT rs = s2 at *
      by_cases hk1 : o.kind = 1
      · obtain rfl : ko = moveO o.id 2 0 := by rw [HKO.out, if_pos hk1]
        rw [hk1] at x0
        clear HKO
        go_wp2_with fail
        refine (l11Move_any _ _ _ _).mono ?_
        rintro _ w7 ⟨rfl, hb7⟩
        have hk7 := hk6.step hb7
        clear hk6 hb7 d0 d1 d2 d3 d4 y0 y1 y2 y3 y4 x0 x1 x2 x3 x4
        obtain ⟨d0, d1, d2, d3, d4⟩ := hk7.box.cells
        have y0 := hk7.box.frozen 0
        have y1 := hk7.box.frozen 1
        have y2 := hk7.box.frozen 2
        have y3 := hk7.box.frozen 3
        have y4 := hk7.box.frozen 4
        have HP := Lib.hid (hk7.post (moveO o.id 2 0))
        clear hk7
        go_wp2
        exact bodyPost_ret (by simp [results, Tryd.results26, go_sem, d0, d1, d2, d3, d4, keyV, moveO]) rfl ⟨rfl, HP.out⟩
      · obtain rfl : ko = moveO o.id (upAt rs (atN rs o.id)) (ahAt rs (atN rs o.id)) := by rw [HKO.out, if_neg hk1]
        clear HKO
        have hat : atN rs o.id < rs.length := by
          rcases HM.out with q | q
          · exact absurd q hk1
          · exact q.2
        rw [atI_pos hat]
        have HUP : Hid (∀ x, RowsAt x.heap.size x a rs → Calls Tryd.prog 69 #[.slice a rs.length cap, .int .i64 ((atN rs o.id : Nat) : Int)] x (RetBelow (.int .i64 (upAt rs (atN rs o.id))) x)) := fun x hx => l2Up_any _ _ _ _ _ _ (Nat.le_refl _) hx hf hat
        have HAH : Hid (∀ x, RowsAt x.heap.size x a rs → Calls Tryd.prog 70 #[.slice a rs.length cap, .int .i64 ((atN rs o.id : Nat) : Int)] x (RetBelow (.int .i64 (ahAt rs (atN rs o.id))) x)) := fun x hx => l2Ahead_any _ _ _ _ _ _ (Nat.le_refl _) hx hf hat
        generalize upAt rs (atN rs o.id) = up at *
        generalize ahAt rs (atN rs o.id) = ah at *
        generalize atN rs o.id = k at *
        have hk6d := hk6.step ((Below.refl w6.heap.size w6).drew)
        have x1d := hk6d.arg.cells.2.1
        clear d0 d1 d2 d3 d4 y0 y1 y2 y3 y4
        go_upto_region 13 with fail
        go_region_held3 (fun x : World => x.cell? ⟨w.heap.size, 1, none⟩ = some (.int .i64 o.id)) (first | (with_reducible exact x1d) | (with_reducible exact x1) | (with_reducible exact n7) | (with_reducible exact n8) | (with_reducible exact n9) | (with_reducible exact g1)) (first
          | (go_at_call 69; (refine (HUP.out _ hk6d.rows).mono ?_); rintro _ w7 ⟨rfl, hb7⟩; have hk7 := hk6d.step hb7; have n7 := hk7.arg.cells.2.1)
          | (go_at_call 70; (refine (HAH.out _ hk7.rows).mono ?_); rintro _ w8 ⟨rfl, hb8⟩; have hk8 := hk7.step hb8; have n8 := hk8.arg.cells.2.1)
          | (go_at_call 49; (refine (l11Move_any _ _ _ _).mono ?_); rintro _ w9 ⟨rfl, hb9⟩; have hk9 := hk8.step hb9; have n9 := hk9.arg.cells.2.1; have g1 := (kgiven_cell (w := w9) (o := moveO o.id up ah) (k := 1) (show w.heap.size ≠ w.heap.size + 1 by omega)).trans n9; simp only [kgiven, moveO] at g1; obtain ⟨d0, d1, d2, d3, d4⟩ := hk9.box.cells; have y0 := hk9.box.frozen 0; have y1 := hk9.box.frozen 1; have y2 := hk9.box.frozen 2; have y3 := hk9.box.frozen 3; have y4 := hk9.box.frozen 4))
        all_goals
          have HP := Lib.hid (hk9.post (moveO o.id up ah))
          clear hk6 hk6d hk7 hk8 hk9 hb7 hb8 hb9 n7 n8 n9 g1 HUP HAH x0 x1 x2 x3 x4
          go_wp2
          exact bodyPost_ret (by simp [results, Tryd.results26, go_sem, d0, d1, d2, d3, d4, keyV, moveO]) rfl ⟨rfl, HP.out⟩
  · exact absurd hn (by rw [hnw]; decide)
theorem specKeyBack_any (B : Nat) (a : Option Addr) (cap : Nat) (rs : List RowD) (o : OpD) (w : World) (hB : B ≤ w.heap.size) (h : RowsAt B w a rs) (hf : Fit rs) (ho : OpFit o) (hc : rs.length ≤ cap) (hcm : cap ≤ maxLen) :
    Calls Tryd.prog 26 #[.slice a rs.length cap, .agg #[.int .i64 o.kind, .int .i64 o.id, .int .i64 o.up, .int .i64 o.at_, .string o.txt]] w (RetBelow (keyV (kbackO rs o) (kbackB rs o)) w) := by
  cases htb : treeB rs
  · rw [kback_no (kback_off1 htb), kback_off1 htb]
    exact specKeyBack_off B a cap rs o w hB h hf ho (.inl htb)
  · cases hok : opokB o
    · rw [kback_no (kback_off2 hok), kback_off2 hok]
      exact specKeyBack_off B a cap rs o w hB h hf ho (.inr ⟨htb, hok⟩)
    · by_cases hk : o.kind = 2
      · exact specKeyBack_word B a cap rs o w hB h hf ho htb hok hk
      · cases hn : noWhereB rs o
        · exact specKeyBack_go B a cap rs o w hB h hf ho hc hcm htb hok hk hn
        · have hb : kbackB rs o = false := kback_off3 (no_where hk hn)
          rw [kback_no hb, hb]
          exact specKeyBack_nowhere B a cap rs o w hB h hf ho hc hcm htb hok hk hn
end Go.Proofs.YtklefdhjfadhpaaDoor
