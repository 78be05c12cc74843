/-
  Contract of the program's KeyBack. Conditions: the rows lie in memory as a slice of rows; the change's text is not too long; the table 'creators' holds what its initialiser lays.
-/
import Derived.Test.YtklefdhjfadhpaaDoorJSlEq
import Derived.Test.YtklefdhjfadhpaaDoorJKeyI5
import Derived.Test.YtklefdhjfadhpaaDoorGD
import Derived.Test.YtklefdhjfadhpaaDoorJGoM
import Derived.Test.YtklefdhjfadhpaaDoorGE
namespace Go.Proofs.YtklefdhjfadhpaaDoor
open Go.ChangeShapes Go.WideShapes Go.ChangeAt Go.RowKit Go.Joins

/-- What holds while KeyBack runs: the change's box, the result's box behind it, the rows. -/
structure BSt (w : World) (a : Option Addr) (rs : List RowD) (o : OpD) (wk : World) : Prop where
  rows : RowsAt wk.heap.size wk a rs
  arg : KBox wk w.heap.size o
  box : KBox wk (w.heap.size + 1) kz
  b : Below w.heap.size w wk
theorem BSt.step {w : World} {a : Option Addr} {rs : List RowD} {o : OpD} {wk wl : World} (h : BSt w a rs o wk) (hb : Below wk.heap.size wk wl) : BSt w a rs o wl :=
  ⟨(h.rows.below hb).mono hb.size, h.arg.below hb h.arg.lt, h.box.below hb h.box.lt, h.b.trans (hb.mono h.b.size)⟩
theorem BSt.start {B : Nat} {w : World} {a : Option Addr} {rs : List RowD} (o : OpD) (hB : B ≤ w.heap.size) (h : RowsAt B w a rs) : BSt w a rs o ((w.alloc (.cells #[.int .i64 o.kind, .int .i64 o.id, .int .i64 o.up, .int .i64 o.at_, .string o.txt] 27)).alloc (.cells #[.int .i64 0, .int .i64 0, .int .i64 0, .int .i64 0, .string ⟨#[]⟩] 27)) := by
  have h1 : Below w.heap.size w (w.alloc (.cells #[.int .i64 o.kind, .int .i64 o.id, .int .i64 o.up, .int .i64 o.at_, .string o.txt] 27)) := (Below.refl _ _).alloc (Nat.le_refl _) _
  have h2 : Below (w.alloc (.cells #[.int .i64 o.kind, .int .i64 o.id, .int .i64 o.up, .int .i64 o.at_, .string o.txt] 27)).heap.size (w.alloc (.cells #[.int .i64 o.kind, .int .i64 o.id, .int .i64 o.up, .int .i64 o.at_, .string o.txt] 27)) ((w.alloc (.cells #[.int .i64 o.kind, .int .i64 o.id, .int .i64 o.up, .int .i64 o.at_, .string o.txt] 27)).alloc (.cells #[.int .i64 0, .int .i64 0, .int .i64 0, .int .i64 0, .string ⟨#[]⟩] 27)) := (Below.refl _ _).alloc (Nat.le_refl _) _
  have hs : (w.alloc (.cells #[.int .i64 o.kind, .int .i64 o.id, .int .i64 o.up, .int .i64 o.at_, .string o.txt] 27)).heap.size = w.heap.size + 1 := by simp
  have hk := KBox.new (w.alloc (.cells #[.int .i64 o.kind, .int .i64 o.id, .int .i64 o.up, .int .i64 o.at_, .string o.txt] 27)) kz
  rw [hs] at hk
  have ha := KBox.new w o
  have h12 := h1.trans (h2.mono h1.size)
  exact ⟨((h.mono hB).below h12).mono h12.size, ha.below h2 ha.lt, hk, h12⟩
theorem BSt.post {w : World} {a : Option Addr} {rs : List RowD} {o : OpD} {wk : World} (h : BSt w a rs o wk) (p : OpD) : Below w.heap.size w (kgiven wk (w.heap.size + 1) p) := h.b.trans (kgiven_below _ _ _ (by omega))
theorem kgiven_cell {w : World} {B C k : Nat} {o : OpD} (hne : B ≠ C) : (kgiven w C o).cell? ⟨B, k, none⟩ = w.cell? ⟨B, k, none⟩ := by
  have : (kgiven w C o).heap[B]? = w.heap[B]? := by
    unfold kgiven
    rw [Below.heap_setCell _ _ _ _ hne, Below.heap_setCell _ _ _ _ hne, Below.heap_setCell _ _ _ _ hne, Below.heap_setCell _ _ _ _ hne, Below.heap_setCell _ _ _ _ hne]
  unfold World.cell?
  simp only [this]
set_option maxRecDepth 100000 in
set_option maxHeartbeats 1000000 in
theorem keyBack_bad (B : Nat) (a : Option Addr) (cap : Nat) (rs : List RowD) (o : OpD) (w : World) (hB : B ≤ w.heap.size) (h : RowsAt B w a rs) (_hf : Fit rs) (ho : OpFit o) (ht : Tab w) (hok : opokB o = false) :
    Calls Tryd.prog 27 #[.slice a rs.length cap, .agg #[.int .i64 o.kind, .int .i64 o.id, .int .i64 o.up, .int .i64 o.at_, .string o.txt]] w (RetBelow (keyV kz false) w) := by
  have hk0 := BSt.start o hB h
  have HC := Lib.hid (changeOf_any o _ (ht.below hk0.b ht.pos) ho.txt)
  rw [hok] at HC
  generalize chR o = c at *
  go_enter Tryd.func27, Tryd.ntmps27
  go_wp2_with fail
  refine HC.out.mono ?_
  rintro e w1 ⟨rfl, hb1⟩
  have hk1 := hk0.step hb1
  clear hk0 hb1 HC
  obtain ⟨d0, d1, d2, d3, d4⟩ := hk1.box.cells
  have y0 := hk1.box.frozen 0
  have y1 := hk1.box.frozen 1
  have y2 := hk1.box.frozen 2
  have y3 := hk1.box.frozen 3
  have y4 := hk1.box.frozen 4
  have HP := Lib.hid (hk1.post (kz))
  clear hk1
  go_wp2
  exact bodyPost_ret (by simp [results, Tryd.results27, go_sem, d0, d1, d2, d3, d4, keyV, kz]) rfl ⟨rfl, HP.out⟩
set_option maxRecDepth 100000 in
set_option maxHeartbeats 1000000 in
theorem keyBack_none (B : Nat) (a : Option Addr) (cap : Nat) (rs : List RowD) (o : OpD) (w : World) (hB : B ≤ w.heap.size) (h : RowsAt B w a rs) (hf : Fit rs) (ho : OpFit o) (ht : Tab w) (hok : opokB o = true) (htb : treeB rs = false) :
    Calls Tryd.prog 27 #[.slice a rs.length cap, .agg #[.int .i64 o.kind, .int .i64 o.id, .int .i64 o.up, .int .i64 o.at_, .string o.txt]] w (RetBelow (keyV kz false) w) := by
  have hk0 := BSt.start o hB h
  have HC := Lib.hid (changeOf_any o _ (ht.below hk0.b ht.pos) ho.txt)
  rw [hok] at HC
  generalize chR o = c at *
  go_enter Tryd.func27, Tryd.ntmps27
  go_wp2_with fail
  refine HC.out.mono ?_
  rintro e w1 ⟨rfl, hb1⟩
  have hk1 := hk0.step hb1
  clear hk0 hb1 HC
  go_wp2_with fail
  refine (implTreeOk_any _ _ _ _ _ (Nat.le_refl _) hk1.rows hf (ht.below hk1.b ht.pos)).mono ?_
  rintro e w2 ⟨rfl, hb2⟩
  have hk2 := hk1.step hb2
  clear hk1 hb2
  rw [htb]
  obtain ⟨d0, d1, d2, d3, d4⟩ := hk2.box.cells
  have y0 := hk2.box.frozen 0
  have y1 := hk2.box.frozen 1
  have y2 := hk2.box.frozen 2
  have y3 := hk2.box.frozen 3
  have y4 := hk2.box.frozen 4
  have HP := Lib.hid (hk2.post (kz))
  clear hk2
  go_wp2
  exact bodyPost_ret (by simp [results, Tryd.results27, go_sem, d0, d1, d2, d3, d4, keyV, kz]) rfl ⟨rfl, HP.out⟩
set_option maxRecDepth 100000 in
set_option maxHeartbeats 1000000 in
theorem keyBack_still (B : Nat) (a : Option Addr) (cap : Nat) (rs : List RowD) (o : OpD) (w : World) (hB : B ≤ w.heap.size) (h : RowsAt B w a rs) (hf : Fit rs) (ho : OpFit o) (ht : Tab w) (hok : opokB o = true) (htb : treeB rs = true) (hs : doT rs o = rs) :
    Calls Tryd.prog 27 #[.slice a rs.length cap, .agg #[.int .i64 o.kind, .int .i64 o.id, .int .i64 o.up, .int .i64 o.at_, .string o.txt]] w (RetBelow (keyV kz false) w) := by
  have hl := hf.1
  have HS := Lib.hid hs
  have hk0 := BSt.start o hB h
  have HC := Lib.hid (changeOf_any o _ (ht.below hk0.b ht.pos) ho.txt)
  rw [hok] at HC
  generalize chR o = c at *
  clear hs
  go_enter Tryd.func27, Tryd.ntmps27
  go_wp2_with fail
  refine HC.out.mono ?_
  rintro e w1 ⟨rfl, hb1⟩
  have hk1 := hk0.step hb1
  clear hk0 hb1 HC
  go_wp2_with fail
  refine (implTreeOk_any _ _ _ _ _ (Nat.le_refl _) hk1.rows hf (ht.below hk1.b ht.pos)).mono ?_
  rintro e w2 ⟨rfl, hb2⟩
  have hk2 := hk1.step hb2
  clear hk1 hb2
  rw [htb]
  obtain ⟨x0, x1, x2, x3, x4⟩ := hk2.arg.cells
  go_wp2_with fail
  refine (implOpDo_any _ _ _ _ _ _ (Nat.le_refl _) hk2.rows hf ho (ht.below hk2.b ht.pos)).mono ?_
  rintro e w3 ⟨xa, xc, rfl, own3, hxc, hb3⟩
  have hx3 := (got_own own3).rows
  have hk3 := hk2.step hb3
  clear hk2 hb3 own3 x0 x1 x2 x3 x4
  rw [HS.out] at hx3 ⊢
  go_wp2_with fail
  refine (slEq_same _ _ _ _ _ _ hx3 hk3.rows hl).mono ?_
  rintro e w4 ⟨rfl, hb4⟩
  have hk4 := hk3.step hb4
  clear hk3 hb4 hx3
  obtain ⟨d0, d1, d2, d3, d4⟩ := hk4.box.cells
  have y0 := hk4.box.frozen 0
  have y1 := hk4.box.frozen 1
  have y2 := hk4.box.frozen 2
  have y3 := hk4.box.frozen 3
  have y4 := hk4.box.frozen 4
  have HP := Lib.hid (hk4.post (kz))
  clear hk4
  go_wp2
  exact bodyPost_ret (by simp [results, Tryd.results27, go_sem, d0, d1, d2, d3, d4, keyV, kz]) rfl ⟨rfl, HP.out⟩
set_option maxRecDepth 100000 in
set_option maxHeartbeats 2000000 in
theorem keyBack_move (B : Nat) (a : Option Addr) (cap : Nat) (rs : List RowD) (o : OpD) (w : World) (hB : B ≤ w.heap.size) (h : RowsAt B w a rs) (hf : Fit rs) (ho : OpFit o) (ht : Tab w) (hok : opokB o = true) (htb : treeB rs = true) (hs : doT rs o ≠ rs) (hkd : o.kind = 3) (hid : thereB rs o.id = true) :
    Calls Tryd.prog 27 #[.slice a rs.length cap, .agg #[.int .i64 o.kind, .int .i64 o.id, .int .i64 o.up, .int .i64 o.at_, .string o.txt]] w (RetBelow (keyV (moveO o.id (upAt rs (atN rs o.id)) (ahAt rs (atN rs o.id))) true) w) := by
  have hl := hf.1
  have hrl : (doT rs o).length ≤ 1048576 := by have := doT_len rs o; omega
  have HS : Hid (doT rs o ≠ rs) := hs
  have HCV : Hid (chR o = .iface 92 (.agg #[.int .i64 o.id, .int .i64 o.up, .int .i64 o.at_])) := by unfold Hid chR chV; rw [hok, if_pos rfl, if_neg (by omega), if_neg (by omega)]
  have hk0 := BSt.start o hB h
  have HC := Lib.hid (changeOf_any o _ (ht.below hk0.b ht.pos) ho.txt)
  rw [hok, HCV.out] at HC
  have HM := Lib.hid (nodesN_tree htb)
  have hat := there_iff.1 hid
  have HF := Lib.hid (fnd_yes (hasB_iff.2 ⟨htb, hat⟩))
  have X1 := as_mov_mak
  have X2 := as_mov_wor
  have X3 := as_mov_mov
  have hmd := made_dep htb hat (by rw [atN_id hat]; exact opok_made hok)
  obtain ⟨u, huk, hp, eu, _⟩ := par_row htb hat hmd
  have HO : Hid (upO rs (atN rs o.id + 1) = some (u + 1)) := by unfold Hid upO; rw [if_neg (by omega), hp]
  have hah := ah_shift (treeP_of htb) hat hmd
  rw [eu]
  clear hs HCV hkd hp eu hid hok
  generalize atN rs o.id = k at *
  go_enter Tryd.func27, Tryd.ntmps27
  go_wp2_with fail
  refine HC.out.mono ?_
  rintro e w1 ⟨rfl, hb1⟩
  have hk1 := hk0.step hb1
  clear hk0 hb1 HC
  go_wp2_with fail
  refine (implTreeOk_any _ _ _ _ _ (Nat.le_refl _) hk1.rows hf (ht.below hk1.b ht.pos)).mono ?_
  rintro e w2 ⟨rfl, hb2⟩
  have hk2 := hk1.step hb2
  clear hk1 hb2
  rw [htb]
  obtain ⟨x0, x1, x2, x3, x4⟩ := hk2.arg.cells
  go_wp2_with fail
  refine (implOpDo_any _ _ _ _ _ _ (Nat.le_refl _) hk2.rows hf ho (ht.below hk2.b ht.pos)).mono ?_
  rintro e w3 ⟨xa, xc, rfl, own3, hxc, hb3⟩
  have hx3 := (got_own own3).rows
  have hk3 := hk2.step hb3
  clear hk2 hb3 own3 x0 x1 x2 x3 x4
  generalize doT rs o = res at *
  go_wp2_with fail
  refine (slEq_diff _ _ _ _ _ _ _ hx3 hk3.rows hrl hl HS.out).mono ?_
  rintro e w4 ⟨rfl, hb4⟩
  have hk4 := (hk3.step hb4).step ((Below.refl w4.heap.size w4).drew)
  clear hk3 hb4 hx3 HS
  have hbx4 := Lib.hid hk4.box.lt
  obtain ⟨x0, x1, x2, x3, x4⟩ := hk4.arg.cells
  go_wp2_with fail
  go_region_held3 (fun x : World => x.cell? ⟨w.heap.size, 1, none⟩ = some (.int .i64 o.id)) (first | (with_reducible exact x1) | (with_reducible exact n1) | (with_reducible exact n2)) (first
    | (go_at_call 53; refine (treeOf_any _ _ _ _ _ (Nat.le_refl _) hk4.rows hf (ht.below hk4.b ht.pos)).mono ?_; rintro e w5 ⟨nb, rfl, hge, hN, hb5⟩; have hk5 := hk4.step hb5; have n1 := hk5.arg.cells.2.1)
    | (go_at_call 54; refine (find_any nb rs o.id w5 hN).mono ?_; rintro e w6 ⟨rfl, hb6⟩; have hk6 := hk5.step hb6; have n2 := hk6.arg.cells.2.1))
  all_goals
    have hN6 : Nodes w6 nb rs (nodesN rs) := hN.below hb6
    rw [HM.out] at hN6
    rw [HF.out]
    simp only [padr]
    clear hk4 hk5 hb5 hb6 hN n1 n2 x0 x1 x2 x3 x4 HF HM
    have hal7 : Below w6.heap.size w6 (w6.alloc (.cells #[.int .i64 o.id, .int .i64 o.up, .int .i64 o.at_] 92)).drew := ((Below.refl _ _).alloc (Nat.le_refl _) _).drew
    have hk7 := hk6.step hal7
    have hN7 := hN6.below hal7
    have m7 : (w6.alloc (.cells #[.int .i64 o.id, .int .i64 o.up, .int .i64 o.at_] 92)).drew.cell? ⟨w6.heap.size, 0, none⟩ = some (.int .i64 o.id) := by simp [go_sem]
    have hlt7 : w6.heap.size < (w6.alloc (.cells #[.int .i64 o.id, .int .i64 o.up, .int .i64 o.at_] 92)).drew.heap.size := by simp
    have l3 := (hN7.links (show k + 1 < rs.length + 1 by omega)).1
    rw [HO.out] at l3
    have l4 := (hN7.links (show k + 1 < rs.length + 1 by omega)).2.1
    have r0 : (w6.alloc (.cells #[.int .i64 o.id, .int .i64 o.up, .int .i64 o.at_] 92)).drew.cell? ⟨nb (u + 1), 0, none⟩ = some (.int .i64 (rat rs u).id) := (hN7.row (show u + 1 < rs.length + 1 by omega)).1
    have hlu := hN7.lt (show u + 1 < rs.length + 1 by omega)
    have hlk := hN7.lt (show k + 1 < rs.length + 1 by omega)
    have hne6 : Hid (w6.heap.size ≠ w.heap.size + 1) := by have := hk6.box.lt; show w6.heap.size ≠ w.heap.size + 1; omega
    have hnek : Hid (nb (k + 1) ≠ w.heap.size + 1) := by
      have h1 := hN6.ge (show k + 1 < rs.length + 1 by omega)
      have h2 := hbx4.out
      show nb (k + 1) ≠ w.heap.size + 1
      omega
    simp only [padr] at l3
    rcases hah with ⟨s1, s2⟩ | ⟨j, hj, s1, s2⟩
    · rw [show ahO rs (k + 1) = none by unfold ahO; rw [if_neg (by omega)]; exact s1] at l4
      simp only [padr] at l4
      have HS2 := Lib.hid s2
      clear s1 s2 hN6 hN7 hk6
      go_wp2_with fail
      go_region_held3 (fun x : World => x.cell? ⟨w6.heap.size, 0, none⟩ = some (.int .i64 o.id) ∧ x.cell? ⟨nb (k + 1), 3, none⟩ = some (.pointer (some ⟨nb (u + 1), 0, none⟩)) ∧ x.cell? ⟨nb (k + 1), 4, none⟩ = some (.pointer (none))) (first | (with_reducible exact ⟨m7, l3, l4⟩) | (with_reducible exact ⟨m8, l38, l48⟩) | (with_reducible exact ⟨m9, l39, l49⟩) | (with_reducible exact ⟨g1, g2, g3⟩)) (first
        | (go_at_call 75; refine (behind_none _ _ _ hlu r0).mono ?_; rintro e w8 ⟨rfl, hb8⟩; have hk8 := hk7.step hb8; have m8 := (hb8.cell (p := ⟨w6.heap.size, 0, none⟩) hlt7).trans m7; have l38 := (hb8.cell (p := ⟨nb (k + 1), 3, none⟩) hlk).trans l3; have l48 := (hb8.cell (p := ⟨nb (k + 1), 4, none⟩) hlk).trans l4)
        | (go_at_call 73; refine (movingOp_any ⟨0, o.id, (rat rs u).id, 0, ⟨#[]⟩⟩ _).mono ?_; rintro e w9 ⟨rfl, hb9⟩; have hk9 := hk8.step hb9; have m9 := (hb9.cell (p := ⟨w6.heap.size, 0, none⟩) (Nat.lt_of_lt_of_le hlt7 hb8.size)).trans m8; have l39 := (hb9.cell (p := ⟨nb (k + 1), 3, none⟩) (Nat.lt_of_lt_of_le hlk hb8.size)).trans l38; have l49 := (hb9.cell (p := ⟨nb (k + 1), 4, none⟩) (Nat.lt_of_lt_of_le hlk hb8.size)).trans l48; have g1 := (kgiven_cell (o := moveO o.id (rat rs u).id 0) (k := 0) hne6.out).trans m9; have g2 := (kgiven_cell (o := moveO o.id (rat rs u).id 0) (k := 3) hnek.out).trans l39; have g3 := (kgiven_cell (o := moveO o.id (rat rs u).id 0) (k := 4) hnek.out).trans l49; simp only [kgiven, moveO] at g1 g2 g3; obtain ⟨d0, d1, d2, d3, d4⟩ := hk9.box.cells; have y0 := hk9.box.frozen 0; have y1 := hk9.box.frozen 1; have y2 := hk9.box.frozen 2; have y3 := hk9.box.frozen 3; have y4 := hk9.box.frozen 4))
      all_goals
        have HP := Lib.hid (hk9.post (moveO o.id (rat rs u).id 0))
        clear hk9 hk8 hk7 hb8 hb9 g1 g2 g3 m9 l39 l49 m8 l38 l48
        go_wp2
        exact bodyPost_ret (by simp [results, Tryd.results27, go_sem, d0, d1, d2, d3, d4, keyV, moveO, HS2.out]) rfl ⟨rfl, HP.out⟩
    · rw [show ahO rs (k + 1) = some (j + 1) by unfold ahO; rw [if_neg (by omega)]; exact s1] at l4
      simp only [padr] at l4
      have r1 : (w6.alloc (.cells #[.int .i64 o.id, .int .i64 o.up, .int .i64 o.at_] 92)).drew.cell? ⟨nb (j + 1), 0, none⟩ = some (.int .i64 (rat rs j).id) := (hN7.row (show j + 1 < rs.length + 1 by omega)).1
      have hlj := hN7.lt (show j + 1 < rs.length + 1 by omega)
      have HS2 := Lib.hid s2
      clear s1 s2 hN6 hN7 hk6
      go_wp2_with fail
      go_region_held3 (fun x : World => x.cell? ⟨w6.heap.size, 0, none⟩ = some (.int .i64 o.id) ∧ x.cell? ⟨nb (k + 1), 3, none⟩ = some (.pointer (some ⟨nb (u + 1), 0, none⟩)) ∧ x.cell? ⟨nb (k + 1), 4, none⟩ = some (.pointer (some ⟨nb (j + 1), 0, none⟩))) (first | (with_reducible exact ⟨m7, l3, l4⟩) | (with_reducible exact ⟨m8, l38, l48⟩) | (with_reducible exact ⟨m9, l39, l49⟩) | (with_reducible exact ⟨g1, g2, g3⟩)) (first
        | (go_at_call 75; refine (behind_some _ _ _ _ _ hlu r0 hlj r1).mono ?_; rintro e w8 ⟨rfl, hb8⟩; have hk8 := hk7.step hb8; have m8 := (hb8.cell (p := ⟨w6.heap.size, 0, none⟩) hlt7).trans m7; have l38 := (hb8.cell (p := ⟨nb (k + 1), 3, none⟩) hlk).trans l3; have l48 := (hb8.cell (p := ⟨nb (k + 1), 4, none⟩) hlk).trans l4)
        | (go_at_call 73; refine (movingOp_any ⟨0, o.id, (rat rs u).id, (rat rs j).id, ⟨#[]⟩⟩ _).mono ?_; rintro e w9 ⟨rfl, hb9⟩; have hk9 := hk8.step hb9; have m9 := (hb9.cell (p := ⟨w6.heap.size, 0, none⟩) (Nat.lt_of_lt_of_le hlt7 hb8.size)).trans m8; have l39 := (hb9.cell (p := ⟨nb (k + 1), 3, none⟩) (Nat.lt_of_lt_of_le hlk hb8.size)).trans l38; have l49 := (hb9.cell (p := ⟨nb (k + 1), 4, none⟩) (Nat.lt_of_lt_of_le hlk hb8.size)).trans l48; have g1 := (kgiven_cell (o := moveO o.id (rat rs u).id (rat rs j).id) (k := 0) hne6.out).trans m9; have g2 := (kgiven_cell (o := moveO o.id (rat rs u).id (rat rs j).id) (k := 3) hnek.out).trans l39; have g3 := (kgiven_cell (o := moveO o.id (rat rs u).id (rat rs j).id) (k := 4) hnek.out).trans l49; simp only [kgiven, moveO] at g1 g2 g3; obtain ⟨d0, d1, d2, d3, d4⟩ := hk9.box.cells; have y0 := hk9.box.frozen 0; have y1 := hk9.box.frozen 1; have y2 := hk9.box.frozen 2; have y3 := hk9.box.frozen 3; have y4 := hk9.box.frozen 4))
      all_goals
        have HP := Lib.hid (hk9.post (moveO o.id (rat rs u).id (rat rs j).id))
        clear hk9 hk8 hk7 hb8 hb9 g1 g2 g3 m9 l39 l49 m8 l38 l48
        go_wp2
        exact bodyPost_ret (by simp [results, Tryd.results27, go_sem, d0, d1, d2, d3, d4, keyV, moveO, HS2.out]) rfl ⟨rfl, HP.out⟩
end Go.Proofs.YtklefdhjfadhpaaDoor
