/-
  Contracts of the program's press at each key, of KeyIn, KeyOut and KeyGone: they answer as the model's. Conditions: the rows lie in memory as a slice of rows; the table 'creators' holds what its initialiser lays.
-/
import Derived.Test.YtclhjgcapalniaaDoorJKeyI3
import Derived.Test.YtclhjgcapalniaaDoorGC
namespace Go.Proofs.YtclhjgcapalniaaDoor
open Go.ChangeShapes Go.WideShapes Go.ChangeAt Go.RowKit Go.Joins

set_option maxRecDepth 100000 in
set_option maxHeartbeats 1000000 in
theorem press_gone (B : Nat) (a : Option Addr) (cap : Nat) (rs : List RowD) (id : Int) (w : World) (hB : B ≤ w.heap.size) (h : RowsAt B w a rs) (hf : Fit rs) (ht : Tab w) (key : Int) (hh : hasB rs id = false) :
    Calls Tryd.prog 43 #[.int .i64 key, .slice a rs.length cap, .int .i64 id] w (RetBelow (keyV kz false) w) := by
  have HF := Lib.hid (fnd_no hh)
  have hk0 := KSt.start hB h
  clear hh
  go_enter Tryd.func43, Tryd.ntmps43
  go_wp2_with fail
  refine (treeOf_any _ _ _ _ _ (Nat.le_refl _) hk0.rows hf (ht.below hk0.b ht.pos)).mono ?_
  rintro e w1 ⟨nb, rfl, _, hN, hb1⟩
  have hk1 := hk0.step hb1
  go_wp2_with fail
  refine (find_any nb rs id w1 hN).mono ?_
  rintro e w2 ⟨rfl, hb2⟩
  rw [HF.out]
  simp only [padr]
  have hk2 := hk1.step hb2
  clear hk0 hk1 hb1 hb2 hN
  obtain ⟨d0, d1, d2, d3, d4⟩ := hk2.box.cells
  have y0 := hk2.box.frozen 0
  have y1 := hk2.box.frozen 1
  have y2 := hk2.box.frozen 2
  have y3 := hk2.box.frozen 3
  have y4 := hk2.box.frozen 4
  have HP := Lib.hid (hk2.post (kz))
  clear hk2
  go_wp2
  exact bodyPost_ret (by simp [results, Tryd.results43, go_sem, d0, d1, d2, d3, d4, keyV, kz]) rfl ⟨rfl, HP.out⟩
set_option maxRecDepth 100000 in
set_option maxHeartbeats 1000000 in
theorem press_root (B : Nat) (a : Option Addr) (cap : Nat) (rs : List RowD) (id : Int) (w : World) (hB : B ≤ w.heap.size) (h : RowsAt B w a rs) (hf : Fit rs) (ht : Tab w) (key : Int) (hh : hasB rs id = true) (hm : madeB id = false) :
    Calls Tryd.prog 43 #[.int .i64 key, .slice a rs.length cap, .int .i64 id] w (RetBelow (keyV kz false) w) := by
  have HF := Lib.hid (fnd_yes hh)
  obtain ⟨htb, hat⟩ := hasB_iff.1 hh
  have HM := Lib.hid (nodesN_tree htb)
  have hdm := dep_made htb hat
  rw [atN_id hat, hm] at hdm
  have hdm' : ((rat rs (atN rs id)).dep == 0) = true := hdm
  have hk0 := KSt.start hB h
  clear hdm hh
  go_enter Tryd.func43, Tryd.ntmps43
  go_wp2_with fail
  refine (treeOf_any _ _ _ _ _ (Nat.le_refl _) hk0.rows hf (ht.below hk0.b ht.pos)).mono ?_
  rintro e w1 ⟨nb, rfl, _, hN, hb1⟩
  have hk1 := hk0.step hb1
  go_wp2_with fail
  refine (find_any nb rs id w1 hN).mono ?_
  rintro e w2 ⟨rfl, hb2⟩
  rw [HF.out]
  simp only [padr]
  have hk2 := hk1.step hb2
  have hN2 : Nodes w2 nb rs (nodesN rs) := hN.below hb2
  rw [HM.out] at hN2
  have r1 : w2.cell? ⟨nb (atN rs id + 1), 1, none⟩ = some (.int .i64 (rat rs (atN rs id)).dep) := (hN2.row (show atN rs id + 1 < rs.length + 1 by omega)).2.1
  clear hk0 hk1 hb1 hb2 hN
  go_wp2_with fail
  refine (isRoot_any _ _ _ r1).mono ?_
  rintro e w' ⟨rfl, rfl⟩
  rw [hdm']
  clear hN2 r1
  obtain ⟨d0, d1, d2, d3, d4⟩ := hk2.box.cells
  have y0 := hk2.box.frozen 0
  have y1 := hk2.box.frozen 1
  have y2 := hk2.box.frozen 2
  have y3 := hk2.box.frozen 3
  have y4 := hk2.box.frozen 4
  have HP := Lib.hid (hk2.post (kz))
  clear hk2
  go_wp2
  exact bodyPost_ret (by simp [results, Tryd.results43, go_sem, d0, d1, d2, d3, d4, keyV, kz]) rfl ⟨rfl, HP.out⟩
set_option maxRecDepth 100000 in
set_option maxHeartbeats 1000000 in
theorem press_in_yes (B : Nat) (a : Option Addr) (cap : Nat) (rs : List RowD) (id : Int) (w : World) (hB : B ≤ w.heap.size) (h : RowsAt B w a rs) (hf : Fit rs) (ht : Tab w) (hh : hasB rs id = true) (hm : madeB id = true) (hb : (ahAt rs (atN rs id) != 0) = true) :
    Calls Tryd.prog 43 #[.int .i64 0, .slice a rs.length cap, .int .i64 id] w (RetBelow (keyV (moveO id (ahAt rs (atN rs id)) (inA rs (atN rs id))) true) w) := by
  have HF := Lib.hid (fnd_yes hh)
  obtain ⟨htb, hat⟩ := hasB_iff.1 hh
  have HM := Lib.hid (nodesN_tree htb)
  have hdm := dep_made htb hat
  rw [atN_id hat, hm] at hdm
  have hdm' : ((rat rs (atN rs id)).dep == 0) = false := hdm
  have hk0 := KSt.start hB h
  have hm' : madeB (rat rs (atN rs id)).id = true := by rw [atN_id hat]; exact hm
  have hix : ∀ w : World, (Instr.index 125 (.agg #[.func (.func 106) #[] #[], .func (.func 107) #[] #[], .func (.func 108) #[] #[]]) (.int .i64 0)).run Tryd.prog w = .ok (.func (.func 106) #[] #[]) w := fun _ => by kernel_rfl
  clear hdm hh
  go_enter Tryd.func43, Tryd.ntmps43
  go_wp2_with fail
  refine (treeOf_any _ _ _ _ _ (Nat.le_refl _) hk0.rows hf (ht.below hk0.b ht.pos)).mono ?_
  rintro e w1 ⟨nb, rfl, _, hN, hb1⟩
  have hk1 := hk0.step hb1
  go_wp2_with fail
  refine (find_any nb rs id w1 hN).mono ?_
  rintro e w2 ⟨rfl, hb2⟩
  rw [HF.out]
  simp only [padr]
  have hk2 := hk1.step hb2
  have hN2 : Nodes w2 nb rs (nodesN rs) := hN.below hb2
  rw [HM.out] at hN2
  have r1 : w2.cell? ⟨nb (atN rs id + 1), 1, none⟩ = some (.int .i64 (rat rs (atN rs id)).dep) := (hN2.row (show atN rs id + 1 < rs.length + 1 by omega)).2.1
  clear hk0 hk1 hb1 hb2 hN
  go_wp2_with fail
  refine (isRoot_any _ _ _ r1).mono ?_
  rintro e w' ⟨rfl, rfl⟩
  rw [hdm']
  go_wp2_with fail
  refine (commands_any _).mono ?_
  rintro e w3 ⟨rfl, hb3⟩
  have hk3 := hk2.step hb3
  have hN3 := hN2.below hb3
  clear hk2 hN2 r1 hb3
  go_wp2_with fail
  refine (inward_any nb rs (atN rs id) _ htb hat hm' hN3).mono ?_
  rintro e w4 ⟨rfl, hb4⟩
  have hk4 := hk3.step hb4
  rw [hb]
  simp only [spotV]
  clear hk3 hN3 hb4 hix hb
  generalize ahAt rs (atN rs id) = u at *
  generalize inA rs (atN rs id) = v at *
  have hal5 : Below w4.heap.size w4 (w4.alloc (.cells #[.int .i64 u, .int .i64 v] 79)) := (Below.refl _ _).alloc (Nat.le_refl _) _
  have hk5 := hk4.step hal5
  clear hk4
  go_wp2_with fail
  refine (movingOp_any ⟨0, id, u, v, ⟨#[]⟩⟩ _).mono ?_
  rintro e w6 ⟨rfl, hb6⟩
  have hk6 := hk5.step hb6
  clear hk5 hb6 hal5
  obtain ⟨d0, d1, d2, d3, d4⟩ := hk6.box.cells
  have y0 := hk6.box.frozen 0
  have y1 := hk6.box.frozen 1
  have y2 := hk6.box.frozen 2
  have y3 := hk6.box.frozen 3
  have y4 := hk6.box.frozen 4
  have HP := Lib.hid (hk6.post (moveO id u v))
  clear hk6
  go_wp2
  exact bodyPost_ret (by simp [results, Tryd.results43, go_sem, d0, d1, d2, d3, d4, keyV, moveO]) rfl ⟨rfl, HP.out⟩
set_option maxRecDepth 100000 in
set_option maxHeartbeats 1000000 in
theorem press_in_no (B : Nat) (a : Option Addr) (cap : Nat) (rs : List RowD) (id : Int) (w : World) (hB : B ≤ w.heap.size) (h : RowsAt B w a rs) (hf : Fit rs) (ht : Tab w) (hh : hasB rs id = true) (hm : madeB id = true) (hb : (ahAt rs (atN rs id) != 0) = false) :
    Calls Tryd.prog 43 #[.int .i64 0, .slice a rs.length cap, .int .i64 id] w (RetBelow (keyV (kz) false) w) := by
  have HF := Lib.hid (fnd_yes hh)
  obtain ⟨htb, hat⟩ := hasB_iff.1 hh
  have HM := Lib.hid (nodesN_tree htb)
  have hdm := dep_made htb hat
  rw [atN_id hat, hm] at hdm
  have hdm' : ((rat rs (atN rs id)).dep == 0) = false := hdm
  have hk0 := KSt.start hB h
  have hm' : madeB (rat rs (atN rs id)).id = true := by rw [atN_id hat]; exact hm
  have hix : ∀ w : World, (Instr.index 125 (.agg #[.func (.func 106) #[] #[], .func (.func 107) #[] #[], .func (.func 108) #[] #[]]) (.int .i64 0)).run Tryd.prog w = .ok (.func (.func 106) #[] #[]) w := fun _ => by kernel_rfl
  clear hdm hh
  go_enter Tryd.func43, Tryd.ntmps43
  go_wp2_with fail
  refine (treeOf_any _ _ _ _ _ (Nat.le_refl _) hk0.rows hf (ht.below hk0.b ht.pos)).mono ?_
  rintro e w1 ⟨nb, rfl, _, hN, hb1⟩
  have hk1 := hk0.step hb1
  go_wp2_with fail
  refine (find_any nb rs id w1 hN).mono ?_
  rintro e w2 ⟨rfl, hb2⟩
  rw [HF.out]
  simp only [padr]
  have hk2 := hk1.step hb2
  have hN2 : Nodes w2 nb rs (nodesN rs) := hN.below hb2
  rw [HM.out] at hN2
  have r1 : w2.cell? ⟨nb (atN rs id + 1), 1, none⟩ = some (.int .i64 (rat rs (atN rs id)).dep) := (hN2.row (show atN rs id + 1 < rs.length + 1 by omega)).2.1
  clear hk0 hk1 hb1 hb2 hN
  go_wp2_with fail
  refine (isRoot_any _ _ _ r1).mono ?_
  rintro e w' ⟨rfl, rfl⟩
  rw [hdm']
  go_wp2_with fail
  refine (commands_any _).mono ?_
  rintro e w3 ⟨rfl, hb3⟩
  have hk3 := hk2.step hb3
  have hN3 := hN2.below hb3
  clear hk2 hN2 r1 hb3
  go_wp2_with fail
  refine (inward_any nb rs (atN rs id) _ htb hat hm' hN3).mono ?_
  rintro e w4 ⟨rfl, hb4⟩
  have hk4 := hk3.step hb4
  rw [hb]
  simp only [spotV]
  clear hk3 hN3 hb4 hix hb
  generalize ahAt rs (atN rs id) = u at *
  generalize inA rs (atN rs id) = v at *
  have hal5 : Below w4.heap.size w4 (w4.alloc (.cells #[.int .i64 u, .int .i64 v] 79)) := (Below.refl _ _).alloc (Nat.le_refl _) _
  have hk5 := hk4.step hal5
  clear hk4
  obtain ⟨d0, d1, d2, d3, d4⟩ := hk5.box.cells
  have y0 := hk5.box.frozen 0
  have y1 := hk5.box.frozen 1
  have y2 := hk5.box.frozen 2
  have y3 := hk5.box.frozen 3
  have y4 := hk5.box.frozen 4
  have HP := Lib.hid (hk5.post (kz))
  clear hk5
  go_wp2
  exact bodyPost_ret (by simp [results, Tryd.results43, go_sem, d0, d1, d2, d3, d4, keyV, kz]) rfl ⟨rfl, HP.out⟩
set_option maxRecDepth 100000 in
set_option maxHeartbeats 1000000 in
theorem press_out_yes (B : Nat) (a : Option Addr) (cap : Nat) (rs : List RowD) (id : Int) (w : World) (hB : B ≤ w.heap.size) (h : RowsAt B w a rs) (hf : Fit rs) (ht : Tab w) (hh : hasB rs id = true) (hm : madeB id = true) (hb : madeB (upAt rs (atN rs id)) = true) :
    Calls Tryd.prog 43 #[.int .i64 1, .slice a rs.length cap, .int .i64 id] w (RetBelow (keyV (moveO id (outU rs (atN rs id)) (outA rs (atN rs id))) true) w) := by
  have HF := Lib.hid (fnd_yes hh)
  obtain ⟨htb, hat⟩ := hasB_iff.1 hh
  have HM := Lib.hid (nodesN_tree htb)
  have hdm := dep_made htb hat
  rw [atN_id hat, hm] at hdm
  have hdm' : ((rat rs (atN rs id)).dep == 0) = false := hdm
  have hk0 := KSt.start hB h
  have hm' : madeB (rat rs (atN rs id)).id = true := by rw [atN_id hat]; exact hm
  have hix : ∀ w : World, (Instr.index 125 (.agg #[.func (.func 106) #[] #[], .func (.func 107) #[] #[], .func (.func 108) #[] #[]]) (.int .i64 1)).run Tryd.prog w = .ok (.func (.func 107) #[] #[]) w := fun _ => by kernel_rfl
  clear hdm hh
  go_enter Tryd.func43, Tryd.ntmps43
  go_wp2_with fail
  refine (treeOf_any _ _ _ _ _ (Nat.le_refl _) hk0.rows hf (ht.below hk0.b ht.pos)).mono ?_
  rintro e w1 ⟨nb, rfl, _, hN, hb1⟩
  have hk1 := hk0.step hb1
  go_wp2_with fail
  refine (find_any nb rs id w1 hN).mono ?_
  rintro e w2 ⟨rfl, hb2⟩
  rw [HF.out]
  simp only [padr]
  have hk2 := hk1.step hb2
  have hN2 : Nodes w2 nb rs (nodesN rs) := hN.below hb2
  rw [HM.out] at hN2
  have r1 : w2.cell? ⟨nb (atN rs id + 1), 1, none⟩ = some (.int .i64 (rat rs (atN rs id)).dep) := (hN2.row (show atN rs id + 1 < rs.length + 1 by omega)).2.1
  clear hk0 hk1 hb1 hb2 hN
  go_wp2_with fail
  refine (isRoot_any _ _ _ r1).mono ?_
  rintro e w' ⟨rfl, rfl⟩
  rw [hdm']
  go_wp2_with fail
  refine (commands_any _).mono ?_
  rintro e w3 ⟨rfl, hb3⟩
  have hk3 := hk2.step hb3
  have hN3 := hN2.below hb3
  clear hk2 hN2 r1 hb3
  go_wp2_with fail
  refine (outward_any nb rs (atN rs id) _ htb hat hm' hN3).mono ?_
  rintro e w4 ⟨rfl, hb4⟩
  have hk4 := hk3.step hb4
  rw [hb]
  simp only [spotV]
  clear hk3 hN3 hb4 hix hb
  generalize outU rs (atN rs id) = u at *
  generalize outA rs (atN rs id) = v at *
  have hal5 : Below w4.heap.size w4 (w4.alloc (.cells #[.int .i64 u, .int .i64 v] 79)) := (Below.refl _ _).alloc (Nat.le_refl _) _
  have hk5 := hk4.step hal5
  clear hk4
  go_wp2_with fail
  refine (movingOp_any ⟨0, id, u, v, ⟨#[]⟩⟩ _).mono ?_
  rintro e w6 ⟨rfl, hb6⟩
  have hk6 := hk5.step hb6
  clear hk5 hb6 hal5
  obtain ⟨d0, d1, d2, d3, d4⟩ := hk6.box.cells
  have y0 := hk6.box.frozen 0
  have y1 := hk6.box.frozen 1
  have y2 := hk6.box.frozen 2
  have y3 := hk6.box.frozen 3
  have y4 := hk6.box.frozen 4
  have HP := Lib.hid (hk6.post (moveO id u v))
  clear hk6
  go_wp2
  exact bodyPost_ret (by simp [results, Tryd.results43, go_sem, d0, d1, d2, d3, d4, keyV, moveO]) rfl ⟨rfl, HP.out⟩
set_option maxRecDepth 100000 in
set_option maxHeartbeats 1000000 in
theorem press_out_no (B : Nat) (a : Option Addr) (cap : Nat) (rs : List RowD) (id : Int) (w : World) (hB : B ≤ w.heap.size) (h : RowsAt B w a rs) (hf : Fit rs) (ht : Tab w) (hh : hasB rs id = true) (hm : madeB id = true) (hb : madeB (upAt rs (atN rs id)) = false) :
    Calls Tryd.prog 43 #[.int .i64 1, .slice a rs.length cap, .int .i64 id] w (RetBelow (keyV (kz) false) w) := by
  have HF := Lib.hid (fnd_yes hh)
  obtain ⟨htb, hat⟩ := hasB_iff.1 hh
  have HM := Lib.hid (nodesN_tree htb)
  have hdm := dep_made htb hat
  rw [atN_id hat, hm] at hdm
  have hdm' : ((rat rs (atN rs id)).dep == 0) = false := hdm
  have hk0 := KSt.start hB h
  have hm' : madeB (rat rs (atN rs id)).id = true := by rw [atN_id hat]; exact hm
  have hix : ∀ w : World, (Instr.index 125 (.agg #[.func (.func 106) #[] #[], .func (.func 107) #[] #[], .func (.func 108) #[] #[]]) (.int .i64 1)).run Tryd.prog w = .ok (.func (.func 107) #[] #[]) w := fun _ => by kernel_rfl
  clear hdm hh
  go_enter Tryd.func43, Tryd.ntmps43
  go_wp2_with fail
  refine (treeOf_any _ _ _ _ _ (Nat.le_refl _) hk0.rows hf (ht.below hk0.b ht.pos)).mono ?_
  rintro e w1 ⟨nb, rfl, _, hN, hb1⟩
  have hk1 := hk0.step hb1
  go_wp2_with fail
  refine (find_any nb rs id w1 hN).mono ?_
  rintro e w2 ⟨rfl, hb2⟩
  rw [HF.out]
  simp only [padr]
  have hk2 := hk1.step hb2
  have hN2 : Nodes w2 nb rs (nodesN rs) := hN.below hb2
  rw [HM.out] at hN2
  have r1 : w2.cell? ⟨nb (atN rs id + 1), 1, none⟩ = some (.int .i64 (rat rs (atN rs id)).dep) := (hN2.row (show atN rs id + 1 < rs.length + 1 by omega)).2.1
  clear hk0 hk1 hb1 hb2 hN
  go_wp2_with fail
  refine (isRoot_any _ _ _ r1).mono ?_
  rintro e w' ⟨rfl, rfl⟩
  rw [hdm']
  go_wp2_with fail
  refine (commands_any _).mono ?_
  rintro e w3 ⟨rfl, hb3⟩
  have hk3 := hk2.step hb3
  have hN3 := hN2.below hb3
  clear hk2 hN2 r1 hb3
  go_wp2_with fail
  refine (outward_any nb rs (atN rs id) _ htb hat hm' hN3).mono ?_
  rintro e w4 ⟨rfl, hb4⟩
  have hk4 := hk3.step hb4
  rw [hb]
  simp only [spotV]
  clear hk3 hN3 hb4 hix hb
  generalize outU rs (atN rs id) = u at *
  generalize outA rs (atN rs id) = v at *
  have hal5 : Below w4.heap.size w4 (w4.alloc (.cells #[.int .i64 u, .int .i64 v] 79)) := (Below.refl _ _).alloc (Nat.le_refl _) _
  have hk5 := hk4.step hal5
  clear hk4
  obtain ⟨d0, d1, d2, d3, d4⟩ := hk5.box.cells
  have y0 := hk5.box.frozen 0
  have y1 := hk5.box.frozen 1
  have y2 := hk5.box.frozen 2
  have y3 := hk5.box.frozen 3
  have y4 := hk5.box.frozen 4
  have HP := Lib.hid (hk5.post (kz))
  clear hk5
  go_wp2
  exact bodyPost_ret (by simp [results, Tryd.results43, go_sem, d0, d1, d2, d3, d4, keyV, kz]) rfl ⟨rfl, HP.out⟩
set_option maxRecDepth 100000 in
set_option maxHeartbeats 1000000 in
theorem press_away_yes (B : Nat) (a : Option Addr) (cap : Nat) (rs : List RowD) (id : Int) (w : World) (hB : B ≤ w.heap.size) (h : RowsAt B w a rs) (hf : Fit rs) (ht : Tab w) (hh : hasB rs id = true) (hm : madeB id = true) (hb : undB rs id 2 = false) :
    Calls Tryd.prog 43 #[.int .i64 2, .slice a rs.length cap, .int .i64 id] w (RetBelow (keyV (moveO id 2 0) true) w) := by
  have HF := Lib.hid (fnd_yes hh)
  obtain ⟨htb, hat⟩ := hasB_iff.1 hh
  have HM := Lib.hid (nodesN_tree htb)
  have hdm := dep_made htb hat
  rw [atN_id hat, hm] at hdm
  have hdm' : ((rat rs (atN rs id)).dep == 0) = false := hdm
  have hk0 := KSt.start hB h
  have hm' : madeB (rat rs (atN rs id)).id = true := by rw [atN_id hat]; exact hm
  have hix : ∀ w : World, (Instr.index 125 (.agg #[.func (.func 106) #[] #[], .func (.func 107) #[] #[], .func (.func 108) #[] #[]]) (.int .i64 2)).run Tryd.prog w = .ok (.func (.func 108) #[] #[]) w := fun _ => by kernel_rfl
  have HW : Hid (∀ nb x, Nodes x nb rs (rs.length + 1) → Calls Tryd.prog 108 #[.pointer (some ⟨nb (atN rs id + 1), 0, none⟩)] x (RetBelow (spotV 2 0 true) x)) := by
    intro nb x hx
    have h3 := away_any nb rs (atN rs id) x htb hat hx
    rw [atN_id hat, hb] at h3
    exact h3
  clear hdm hh
  go_enter Tryd.func43, Tryd.ntmps43
  go_wp2_with fail
  refine (treeOf_any _ _ _ _ _ (Nat.le_refl _) hk0.rows hf (ht.below hk0.b ht.pos)).mono ?_
  rintro e w1 ⟨nb, rfl, _, hN, hb1⟩
  have hk1 := hk0.step hb1
  go_wp2_with fail
  refine (find_any nb rs id w1 hN).mono ?_
  rintro e w2 ⟨rfl, hb2⟩
  rw [HF.out]
  simp only [padr]
  have hk2 := hk1.step hb2
  have hN2 : Nodes w2 nb rs (nodesN rs) := hN.below hb2
  rw [HM.out] at hN2
  have r1 : w2.cell? ⟨nb (atN rs id + 1), 1, none⟩ = some (.int .i64 (rat rs (atN rs id)).dep) := (hN2.row (show atN rs id + 1 < rs.length + 1 by omega)).2.1
  clear hk0 hk1 hb1 hb2 hN
  go_wp2_with fail
  refine (isRoot_any _ _ _ r1).mono ?_
  rintro e w' ⟨rfl, rfl⟩
  rw [hdm']
  go_wp2_with fail
  refine (commands_any _).mono ?_
  rintro e w3 ⟨rfl, hb3⟩
  have hk3 := hk2.step hb3
  have hN3 := hN2.below hb3
  clear hk2 hN2 r1 hb3
  go_wp2_with fail
  refine (HW.out nb _ hN3).mono ?_
  rintro e w4 ⟨rfl, hb4⟩
  have hk4 := hk3.step hb4
  simp only [spotV]
  clear hk3 hN3 hb4 hix hb
  have hal5 : Below w4.heap.size w4 (w4.alloc (.cells #[.int .i64 2, .int .i64 0] 79)) := (Below.refl _ _).alloc (Nat.le_refl _) _
  have hk5 := hk4.step hal5
  clear hk4
  go_wp2_with fail
  refine (movingOp_any ⟨0, id, 2, 0, ⟨#[]⟩⟩ _).mono ?_
  rintro e w6 ⟨rfl, hb6⟩
  have hk6 := hk5.step hb6
  clear hk5 hb6 hal5
  obtain ⟨d0, d1, d2, d3, d4⟩ := hk6.box.cells
  have y0 := hk6.box.frozen 0
  have y1 := hk6.box.frozen 1
  have y2 := hk6.box.frozen 2
  have y3 := hk6.box.frozen 3
  have y4 := hk6.box.frozen 4
  have HP := Lib.hid (hk6.post (moveO id 2 0))
  clear hk6
  go_wp2
  exact bodyPost_ret (by simp [results, Tryd.results43, go_sem, d0, d1, d2, d3, d4, keyV, moveO]) rfl ⟨rfl, HP.out⟩
set_option maxRecDepth 100000 in
set_option maxHeartbeats 1000000 in
theorem press_away_no (B : Nat) (a : Option Addr) (cap : Nat) (rs : List RowD) (id : Int) (w : World) (hB : B ≤ w.heap.size) (h : RowsAt B w a rs) (hf : Fit rs) (ht : Tab w) (hh : hasB rs id = true) (hm : madeB id = true) (hb : undB rs id 2 = true) :
    Calls Tryd.prog 43 #[.int .i64 2, .slice a rs.length cap, .int .i64 id] w (RetBelow (keyV (kz) false) w) := by
  have HF := Lib.hid (fnd_yes hh)
  obtain ⟨htb, hat⟩ := hasB_iff.1 hh
  have HM := Lib.hid (nodesN_tree htb)
  have hdm := dep_made htb hat
  rw [atN_id hat, hm] at hdm
  have hdm' : ((rat rs (atN rs id)).dep == 0) = false := hdm
  have hk0 := KSt.start hB h
  have hm' : madeB (rat rs (atN rs id)).id = true := by rw [atN_id hat]; exact hm
  have hix : ∀ w : World, (Instr.index 125 (.agg #[.func (.func 106) #[] #[], .func (.func 107) #[] #[], .func (.func 108) #[] #[]]) (.int .i64 2)).run Tryd.prog w = .ok (.func (.func 108) #[] #[]) w := fun _ => by kernel_rfl
  have HW : Hid (∀ nb x, Nodes x nb rs (rs.length + 1) → Calls Tryd.prog 108 #[.pointer (some ⟨nb (atN rs id + 1), 0, none⟩)] x (RetBelow (spotV 0 0 false) x)) := by
    intro nb x hx
    have h3 := away_any nb rs (atN rs id) x htb hat hx
    rw [atN_id hat, hb] at h3
    exact h3
  clear hdm hh
  go_enter Tryd.func43, Tryd.ntmps43
  go_wp2_with fail
  refine (treeOf_any _ _ _ _ _ (Nat.le_refl _) hk0.rows hf (ht.below hk0.b ht.pos)).mono ?_
  rintro e w1 ⟨nb, rfl, _, hN, hb1⟩
  have hk1 := hk0.step hb1
  go_wp2_with fail
  refine (find_any nb rs id w1 hN).mono ?_
  rintro e w2 ⟨rfl, hb2⟩
  rw [HF.out]
  simp only [padr]
  have hk2 := hk1.step hb2
  have hN2 : Nodes w2 nb rs (nodesN rs) := hN.below hb2
  rw [HM.out] at hN2
  have r1 : w2.cell? ⟨nb (atN rs id + 1), 1, none⟩ = some (.int .i64 (rat rs (atN rs id)).dep) := (hN2.row (show atN rs id + 1 < rs.length + 1 by omega)).2.1
  clear hk0 hk1 hb1 hb2 hN
  go_wp2_with fail
  refine (isRoot_any _ _ _ r1).mono ?_
  rintro e w' ⟨rfl, rfl⟩
  rw [hdm']
  go_wp2_with fail
  refine (commands_any _).mono ?_
  rintro e w3 ⟨rfl, hb3⟩
  have hk3 := hk2.step hb3
  have hN3 := hN2.below hb3
  clear hk2 hN2 r1 hb3
  go_wp2_with fail
  refine (HW.out nb _ hN3).mono ?_
  rintro e w4 ⟨rfl, hb4⟩
  have hk4 := hk3.step hb4
  simp only [spotV]
  clear hk3 hN3 hb4 hix hb
  have hal5 : Below w4.heap.size w4 (w4.alloc (.cells #[.int .i64 0, .int .i64 0] 79)) := (Below.refl _ _).alloc (Nat.le_refl _) _
  have hk5 := hk4.step hal5
  clear hk4
  obtain ⟨d0, d1, d2, d3, d4⟩ := hk5.box.cells
  have y0 := hk5.box.frozen 0
  have y1 := hk5.box.frozen 1
  have y2 := hk5.box.frozen 2
  have y3 := hk5.box.frozen 3
  have y4 := hk5.box.frozen 4
  have HP := Lib.hid (hk5.post (kz))
  clear hk5
  go_wp2
  exact bodyPost_ret (by simp [results, Tryd.results43, go_sem, d0, d1, d2, d3, d4, keyV, kz]) rfl ⟨rfl, HP.out⟩
end Go.Proofs.YtclhjgcapalniaaDoor
