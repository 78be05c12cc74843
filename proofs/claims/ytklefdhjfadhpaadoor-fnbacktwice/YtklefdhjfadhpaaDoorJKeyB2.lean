/-
  Contract of the program's KeyBack at a change that makes a row, and at one of a text. Conditions: the rows lie in memory as a slice of rows; the change's text is not too long; the table 'creators' holds what its initialiser lays.
-/
import Derived.Test.YtklefdhjfadhpaaDoorJKeyB
namespace Go.Proofs.YtklefdhjfadhpaaDoor
open Go.ChangeShapes Go.WideShapes Go.ChangeAt Go.RowKit Go.Joins

set_option maxRecDepth 100000 in
set_option maxHeartbeats 2000000 in
theorem keyBack_word (B : Nat) (a : Option Addr) (cap : Nat) (rs : List RowD) (o : OpD) (w : World) (hB : B ≤ w.heap.size) (h : RowsAt B w a rs) (hf : Fit rs) (ho : OpFit o) (ht : Tab w) (hok : opokB o = true) (htb : treeB rs = true) (hs : doT rs o ≠ rs) (hkd : o.kind = 2) (hid : thereB rs o.id = true) :
    Calls Tryd.prog 27 #[.slice a rs.length cap, .agg #[.int .i64 o.kind, .int .i64 o.id, .int .i64 o.up, .int .i64 o.at_, .string o.txt]] w (RetBelow (keyV ⟨2, o.id, 0, 0, (rat rs (atN rs o.id)).txt⟩ true) w) := by
  have hl := hf.1
  have hrl : (doT rs o).length ≤ 1048576 := by have := doT_len rs o; omega
  have HS : Hid (doT rs o ≠ rs) := hs
  have HCV : Hid (chR o = .iface 90 (.agg #[.int .i64 o.id, .string o.txt])) := by unfold Hid chR chV; rw [hok, if_pos rfl, if_neg (by omega), if_pos hkd]
  have hk0 := BSt.start o hB h
  have HC := Lib.hid (changeOf_any o _ (ht.below hk0.b ht.pos) ho.txt)
  rw [hok, HCV.out] at HC
  have HM := Lib.hid (nodesN_tree htb)
  have hat := there_iff.1 hid
  have HF := Lib.hid (fnd_yes (hasB_iff.2 ⟨htb, hat⟩))
  have X1 := as_wor_mak
  have X2 := as_wor_wor
  clear hs HCV hkd hid hok
  generalize atN rs o.id = k at *
  go_enter Tryd.func27, Tryd.ntmps27
  go_wp2_with fail
  refine HC.out.mono ?_
  rintro e w1 ⟨rfl, hb1⟩
  have hk1 := hk0.step hb1
  clear hk0 hb1 HC
  go_wp2_with fail
  refine (implTreeOk_any _ _ _ _ _ (Nat.le_refl _) hk1.rows hf (ht.below hk1.b ht.pos)).mono ?_
  rintro e w2 ⟨rfl, hb2⟩
  have hk2 := hk1.step hb2
  clear hk1 hb2
  rw [htb]
  obtain ⟨x0, x1, x2, x3, x4⟩ := hk2.arg.cells
  go_wp2_with fail
  refine (implOpDo_any _ _ _ _ _ _ (Nat.le_refl _) hk2.rows hf ho (ht.below hk2.b ht.pos)).mono ?_
  rintro e w3 ⟨xa, xc, rfl, own3, hxc, hb3⟩
  have hx3 := (got_own own3).rows
  have hk3 := hk2.step hb3
  clear hk2 hb3 own3 x0 x1 x2 x3 x4
  generalize doT rs o = res at *
  go_wp2_with fail
  refine (slEq_diff _ _ _ _ _ _ _ hx3 hk3.rows hrl hl HS.out).mono ?_
  rintro e w4 ⟨rfl, hb4⟩
  have hk4 := (hk3.step hb4).step ((Below.refl w4.heap.size w4).drew)
  clear hk3 hb4 hx3 HS
  have hbx4 := Lib.hid hk4.box.lt
  obtain ⟨x0, x1, x2, x3, x4⟩ := hk4.arg.cells
  go_wp2_with fail
  go_region_held3 (fun x : World => x.cell? ⟨w.heap.size, 1, none⟩ = some (.int .i64 o.id)) (first | (with_reducible exact x1) | (with_reducible exact n1) | (with_reducible exact n2)) (first
    | (go_at_call 53; refine (treeOf_any _ _ _ _ _ (Nat.le_refl _) hk4.rows hf (ht.below hk4.b ht.pos)).mono ?_; rintro e w5 ⟨nb, rfl, hge, hN, hb5⟩; have hk5 := hk4.step hb5; have n1 := hk5.arg.cells.2.1)
    | (go_at_call 54; refine (find_any nb rs o.id w5 hN).mono ?_; rintro e w6 ⟨rfl, hb6⟩; have hk6 := hk5.step hb6; have n2 := hk6.arg.cells.2.1))
  all_goals
    have hN6 : Nodes w6 nb rs (nodesN rs) := hN.below hb6
    rw [HM.out] at hN6
    rw [HF.out]
    simp only [padr]
    clear hk4 hk5 hb5 hb6 hN n1 n2 x0 x1 x2 x3 x4 HF HM
    have hal7 : Below w6.heap.size w6 (w6.alloc (.cells #[.int .i64 o.id, .string o.txt] 90)).drew := ((Below.refl _ _).alloc (Nat.le_refl _) _).drew
    have hk7 := hk6.step hal7
    have hN7 := hN6.below hal7
    have m7 : (w6.alloc (.cells #[.int .i64 o.id, .string o.txt] 90)).drew.cell? ⟨w6.heap.size, 0, none⟩ = some (.int .i64 o.id) := by simp [go_sem]
    have hlt7 : w6.heap.size < (w6.alloc (.cells #[.int .i64 o.id, .string o.txt] 90)).drew.heap.size := by simp
    have l3 : (w6.alloc (.cells #[.int .i64 o.id, .string o.txt] 90)).drew.cell? ⟨nb (k + 1), 2, none⟩ = some (.string (rat rs k).txt) := (hN7.row (show k + 1 < rs.length + 1 by omega)).2.2
    have hlk := hN7.lt (show k + 1 < rs.length + 1 by omega)
    have hne6 : Hid (w6.heap.size ≠ w.heap.size + 1) := by have := hk6.box.lt; show w6.heap.size ≠ w.heap.size + 1; omega
    have hnek : Hid (nb (k + 1) ≠ w.heap.size + 1) := by
      have h1 := hN6.ge (show k + 1 < rs.length + 1 by omega)
      have h2 := hbx4.out
      show nb (k + 1) ≠ w.heap.size + 1
      omega
    clear hN6 hN7 hk6
    go_wp2_with fail
    go_region_held3 (fun x : World => x.cell? ⟨w6.heap.size, 0, none⟩ = some (.int .i64 o.id) ∧ x.cell? ⟨nb (k + 1), 2, none⟩ = some (.string (rat rs k).txt)) (first | (with_reducible exact ⟨m7, l3⟩) | (with_reducible exact ⟨m9, l39⟩) | (with_reducible exact ⟨g1, g2⟩)) ((go_at_call 74; refine (wordingOp_any ⟨0, o.id, 0, 0, (rat rs k).txt⟩ _).mono ?_; rintro e w9 ⟨rfl, hb9⟩; have hk9 := hk7.step hb9; have m9 := (hb9.cell (p := ⟨w6.heap.size, 0, none⟩) hlt7).trans m7; have l39 := (hb9.cell (p := ⟨nb (k + 1), 2, none⟩) hlk).trans l3; have g1 := (kgiven_cell (o := ⟨2, o.id, 0, 0, (rat rs k).txt⟩) (k := 0) hne6.out).trans m9; have g2 := (kgiven_cell (o := ⟨2, o.id, 0, 0, (rat rs k).txt⟩) (k := 2) hnek.out).trans l39; simp only [kgiven] at g1 g2; obtain ⟨d0, d1, d2, d3, d4⟩ := hk9.box.cells; have y0 := hk9.box.frozen 0; have y1 := hk9.box.frozen 1; have y2 := hk9.box.frozen 2; have y3 := hk9.box.frozen 3; have y4 := hk9.box.frozen 4))
    all_goals
      have HP := Lib.hid (hk9.post ⟨2, o.id, 0, 0, (rat rs k).txt⟩)
      clear hk9 hk7 hb9 g1 g2 m9 l39
      go_wp2
      exact bodyPost_ret (by simp [results, Tryd.results27, go_sem, d0, d1, d2, d3, d4, keyV]) rfl ⟨rfl, HP.out⟩
set_option maxRecDepth 100000 in
set_option maxHeartbeats 2000000 in
theorem keyBack_make (B : Nat) (a : Option Addr) (cap : Nat) (rs : List RowD) (o : OpD) (w : World) (hB : B ≤ w.heap.size) (h : RowsAt B w a rs) (hf : Fit rs) (ho : OpFit o) (ht : Tab w) (hok : opokB o = true) (htb : treeB rs = true) (hs : doT rs o ≠ rs) (hkd : o.kind = 1) :
    Calls Tryd.prog 27 #[.slice a rs.length cap, .agg #[.int .i64 o.kind, .int .i64 o.id, .int .i64 o.up, .int .i64 o.at_, .string o.txt]] w (RetBelow (keyV (moveO o.id 2 0) true) w) := by
  have hl := hf.1
  have hrl : (doT rs o).length ≤ 1048576 := by have := doT_len rs o; omega
  have HS : Hid (doT rs o ≠ rs) := hs
  have HCV : Hid (chR o = .iface 85 (.agg #[.int .i64 o.id, .int .i64 o.up, .int .i64 o.at_, .string o.txt])) := by unfold Hid chR chV; rw [hok, if_pos rfl, if_pos hkd]
  have hk0 := BSt.start o hB h
  have HC := Lib.hid (changeOf_any o _ (ht.below hk0.b ht.pos) ho.txt)
  rw [hok, HCV.out] at HC
  have X1 := as_mak_mak
  clear hs HCV hkd hok
  go_enter Tryd.func27, Tryd.ntmps27
  go_wp2_with fail
  refine HC.out.mono ?_
  rintro e w1 ⟨rfl, hb1⟩
  have hk1 := hk0.step hb1
  clear hk0 hb1 HC
  go_wp2_with fail
  refine (implTreeOk_any _ _ _ _ _ (Nat.le_refl _) hk1.rows hf (ht.below hk1.b ht.pos)).mono ?_
  rintro e w2 ⟨rfl, hb2⟩
  have hk2 := hk1.step hb2
  clear hk1 hb2
  rw [htb]
  obtain ⟨x0, x1, x2, x3, x4⟩ := hk2.arg.cells
  go_wp2_with fail
  refine (implOpDo_any _ _ _ _ _ _ (Nat.le_refl _) hk2.rows hf ho (ht.below hk2.b ht.pos)).mono ?_
  rintro e w3 ⟨xa, xc, rfl, own3, hxc, hb3⟩
  have hx3 := (got_own own3).rows
  have hk3 := hk2.step hb3
  clear hk2 hb3 own3 x0 x1 x2 x3 x4
  generalize doT rs o = res at *
  go_wp2_with fail
  refine (slEq_diff _ _ _ _ _ _ _ hx3 hk3.rows hrl hl HS.out).mono ?_
  rintro e w4 ⟨rfl, hb4⟩
  have hk4 := (hk3.step hb4).step ((Below.refl w4.heap.size w4).drew)
  clear hk3 hb4 hx3 HS
  have hbx4 := Lib.hid hk4.box.lt
  obtain ⟨x0, x1, x2, x3, x4⟩ := hk4.arg.cells
  go_wp2_with fail
  go_region_held3 (fun x : World => x.cell? ⟨w.heap.size, 1, none⟩ = some (.int .i64 o.id)) (first | (with_reducible exact x1) | (with_reducible exact n1) | (with_reducible exact n2)) (first
    | (go_at_call 53; refine (treeOf_any _ _ _ _ _ (Nat.le_refl _) hk4.rows hf (ht.below hk4.b ht.pos)).mono ?_; rintro e w5 ⟨nb, rfl, hge, hN, hb5⟩; have hk5 := hk4.step hb5; have n1 := hk5.arg.cells.2.1)
    | (go_at_call 54; refine (find_any nb rs o.id w5 hN).mono ?_; rintro e w6 ⟨rfl, hb6⟩; have hk6 := hk5.step hb6; have n2 := hk6.arg.cells.2.1))
  all_goals
    generalize padr nb (fndO rs (nodesN rs) o.id) = fo at *
    have hal7 : Below w6.heap.size w6 (w6.alloc (.cells #[.int .i64 o.id, .int .i64 o.up, .int .i64 o.at_, .string o.txt] 85)).drew := ((Below.refl _ _).alloc (Nat.le_refl _) _).drew
    have hk7 := hk6.step hal7
    have m7 : (w6.alloc (.cells #[.int .i64 o.id, .int .i64 o.up, .int .i64 o.at_, .string o.txt] 85)).drew.cell? ⟨w6.heap.size, 0, none⟩ = some (.int .i64 o.id) := by simp [go_sem]
    have hlt7 : w6.heap.size < (w6.alloc (.cells #[.int .i64 o.id, .int .i64 o.up, .int .i64 o.at_, .string o.txt] 85)).drew.heap.size := by simp
    have hne6 : Hid (w6.heap.size ≠ w.heap.size + 1) := by have := hk6.box.lt; show w6.heap.size ≠ w.heap.size + 1; omega
    clear hk4 hk5 hb5 hb6 hN n1 n2 x0 x1 x2 x3 x4 hk6
    go_wp2_with fail
    go_region_held3 (fun x : World => x.cell? ⟨w6.heap.size, 0, none⟩ = some (.int .i64 o.id)) (first | (with_reducible exact m7) | (with_reducible exact m8) | (with_reducible exact m9) | (with_reducible exact g1)) (first
      | (go_at_call 72; refine (trash_any _).mono ?_; rintro e w8 ⟨rfl, hb8⟩; have hk8 := hk7.step hb8; have m8 := (hb8.cell (p := ⟨w6.heap.size, 0, none⟩) hlt7).trans m7)
      | (go_at_call 73; refine (movingOp_any ⟨0, o.id, 2, 0, ⟨#[]⟩⟩ _).mono ?_; rintro e w9 ⟨rfl, hb9⟩; have hk9 := hk8.step hb9; have m9 := (hb9.cell (p := ⟨w6.heap.size, 0, none⟩) (Nat.lt_of_lt_of_le hlt7 hb8.size)).trans m8; have g1 := (kgiven_cell (o := moveO o.id 2 0) (k := 0) hne6.out).trans m9; simp only [kgiven, moveO] at g1; obtain ⟨d0, d1, d2, d3, d4⟩ := hk9.box.cells; have y0 := hk9.box.frozen 0; have y1 := hk9.box.frozen 1; have y2 := hk9.box.frozen 2; have y3 := hk9.box.frozen 3; have y4 := hk9.box.frozen 4))
    all_goals
      have HP := Lib.hid (hk9.post (moveO o.id 2 0))
      clear hk9 hk8 hk7 hb8 hb9 g1 m9 m8
      go_wp2
      exact bodyPost_ret (by simp [results, Tryd.results27, go_sem, d0, d1, d2, d3, d4, keyV, moveO]) rfl ⟨rfl, HP.out⟩
end Go.Proofs.YtklefdhjfadhpaaDoor
