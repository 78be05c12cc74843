/-
  Contract of the model's KeyBack at every change. Conditions: the rows lie in memory as a slice of rows; the change's text is not too long.
-/
import Derived.Test.YtklefdhjfadhpaaDoorJKBackM
import Derived.Test.YtklefdhjfadhpaaDoorJSText
import Derived.Deep.RegionHeld3
import Derived.BigQuiet
namespace Go.Proofs.YtklefdhjfadhpaaDoor
open Go.ChangeShapes Go.WideShapes Go.ChangeAt Go.RowKit Go.Joins Go.Deep

theorem kback_off1 {rs : List RowD} {o : OpD} (h : treeB rs = false) : kbackB rs o = false := by simp [kbackB, h]
theorem kback_off2 {rs : List RowD} {o : OpD} (h : opokB o = false) : kbackB rs o = false := by simp [kbackB, h]
theorem kback_off3 {rs : List RowD} {o : OpD} (h : doR rs o = rs) : kbackB rs o = false := by simp [kbackB, chg_no.2 h]
theorem tree_lines {rs : List RowD} (h : treeB rs = true) : ∀ i, i < rs.length → LineOk (rat rs i) := fun i hi => lineOk_of ((treeP_of h).rok i hi)
set_option maxRecDepth 100000 in
set_option maxHeartbeats 2000000 in
theorem specKeyBack_off (B : Nat) (a : Option Addr) (cap : Nat) (rs : List RowD) (o : OpD) (w : World) (hB : B ≤ w.heap.size) (h : RowsAt B w a rs) (hf : Fit rs) (ho : OpFit o) (hoff : treeB rs = false ∨ (treeB rs = true ∧ opokB o = false)) :
    Calls Tryd.prog 26 #[.slice a rs.length cap, .agg #[.int .i64 o.kind, .int .i64 o.id, .int .i64 o.up, .int .i64 o.at_, .string o.txt]] w (RetBelow (keyV kz false) w) := by
  have hk0 := BSt.start o hB h
  go_enter Tryd.func26, Tryd.ntmps26
  go_wp2_with fail
  refine (specTreeOk_any _ _ _ _ _ (Nat.le_refl _) hk0.rows hf).mono ?_
  rintro _ w1 ⟨rfl, hb1⟩
  have hk1 := hk0.step hb1
  clear hk0 hb1
  rcases hoff with ht | ⟨ht, hok⟩
  · rw [ht]
    obtain ⟨d0, d1, d2, d3, d4⟩ := hk1.box.cells
    have y0 := hk1.box.frozen 0
    have y1 := hk1.box.frozen 1
    have y2 := hk1.box.frozen 2
    have y3 := hk1.box.frozen 3
    have y4 := hk1.box.frozen 4
    have HP := Lib.hid (hk1.post kz)
    clear hk1
    go_wp2
    exact bodyPost_ret (by simp [results, Tryd.results26, go_sem, d0, d1, d2, d3, d4, keyV, kz]) rfl ⟨rfl, HP.out⟩
  · rw [ht]
    obtain ⟨x0, x1, x2, x3, x4⟩ := hk1.arg.cells
    go_wp2_with fail
    refine (specOpOk_any o _ ho).mono ?_
    rintro _ w2 ⟨rfl, hb2⟩
    have hk2 := hk1.step hb2
    clear hk1 hb2 x0 x1 x2 x3 x4
    rw [hok]
    obtain ⟨d0, d1, d2, d3, d4⟩ := hk2.box.cells
    have y0 := hk2.box.frozen 0
    have y1 := hk2.box.frozen 1
    have y2 := hk2.box.frozen 2
    have y3 := hk2.box.frozen 3
    have y4 := hk2.box.frozen 4
    have HP := Lib.hid (hk2.post kz)
    clear hk2
    go_wp2
    exact bodyPost_ret (by simp [results, Tryd.results26, go_sem, d0, d1, d2, d3, d4, keyV, kz]) rfl ⟨rfl, HP.out⟩
set_option maxRecDepth 100000 in
set_option maxHeartbeats 4000000 in
theorem specKeyBack_word0 (B : Nat) (a : Option Addr) (cap : Nat) (rs : List RowD) (o : OpD) (w : World) (hB : B ≤ w.heap.size) (h : RowsAt B w a rs) (hf : Fit rs) (ho : OpFit o) (htb : treeB rs = true) (hok : opokB o = true) (hk : o.kind = 2) (hat : atN rs o.id = rs.length) :
    Calls Tryd.prog 26 #[.slice a rs.length cap, .agg #[.int .i64 o.kind, .int .i64 o.id, .int .i64 o.up, .int .i64 o.at_, .string o.txt]] w (RetBelow (keyV kz false) w) := by
  have hl := hf.1
  have HK := Lib.hid hk
  clear hk
  have hk0 := BSt.start o hB h
  go_enter Tryd.func26, Tryd.ntmps26
  go_wp2_with fail
  refine (specTreeOk_any _ _ _ _ _ (Nat.le_refl _) hk0.rows hf).mono ?_
  rintro _ w1 ⟨rfl, hb1⟩
  have hk1 := hk0.step hb1
  clear hk0 hb1
  rw [htb]
  obtain ⟨x0, x1, x2, x3, x4⟩ := hk1.arg.cells
  go_wp2_with fail
  refine (specOpOk_any o _ ho).mono ?_
  rintro _ w2 ⟨rfl, hb2⟩
  have hk2 := hk1.step hb2
  clear hk1 hb2 x0 x1 x2 x3 x4
  rw [hok]
  obtain ⟨x0, x1, x2, x3, x4⟩ := hk2.arg.cells
  go_wp2_with fail
  refine (l2At_any _ _ _ _ _ _ hk2.rows hf).mono ?_
  rintro _ _ ⟨rfl, rfl⟩
  rw [HK.out] at x0
  obtain ⟨d0, d1, d2, d3, d4⟩ := hk2.box.cells
  have y0 := hk2.box.frozen 0
  have y1 := hk2.box.frozen 1
  have y2 := hk2.box.frozen 2
  have y3 := hk2.box.frozen 3
  have y4 := hk2.box.frozen 4
  rw [atI_neg hat]
  have HP : Hid (∀ n, Below w.heap.size w (kgiven (w2.drewN n) (w.heap.size + 1) kz)) := fun n => (hk2.step (below_drewN n (Below.refl _ _))).post kz
  clear hk2 hat htb hok
  go_wp2_with fail
  go_quiet (fail)
  go_wp2
  exact bodyPost_ret (by simp [results, Tryd.results26, go_sem, d0, d1, d2, d3, d4, keyV, kz]) rfl ⟨rfl, HP.out _⟩
set_option maxRecDepth 100000 in
set_option maxHeartbeats 4000000 in
theorem specKeyBack_word1 (B : Nat) (a : Option Addr) (cap : Nat) (rs : List RowD) (o : OpD) (w : World) (hB : B ≤ w.heap.size) (h : RowsAt B w a rs) (hf : Fit rs) (ho : OpFit o) (htb : treeB rs = true) (hok : opokB o = true) (hk : o.kind = 2) (hat : atN rs o.id < rs.length) (hx : (rat rs (atN rs o.id)).txt = o.txt) :
    Calls Tryd.prog 26 #[.slice a rs.length cap, .agg #[.int .i64 o.kind, .int .i64 o.id, .int .i64 o.up, .int .i64 o.at_, .string o.txt]] w (RetBelow (keyV kz false) w) := by
  have hl := hf.1
  have HK := Lib.hid hk
  clear hk
  have hk0 := BSt.start o hB h
  go_enter Tryd.func26, Tryd.ntmps26
  go_wp2_with fail
  refine (specTreeOk_any _ _ _ _ _ (Nat.le_refl _) hk0.rows hf).mono ?_
  rintro _ w1 ⟨rfl, hb1⟩
  have hk1 := hk0.step hb1
  clear hk0 hb1
  rw [htb]
  obtain ⟨x0, x1, x2, x3, x4⟩ := hk1.arg.cells
  go_wp2_with fail
  refine (specOpOk_any o _ ho).mono ?_
  rintro _ w2 ⟨rfl, hb2⟩
  have hk2 := hk1.step hb2
  clear hk1 hb2 x0 x1 x2 x3 x4
  rw [hok]
  obtain ⟨x0, x1, x2, x3, x4⟩ := hk2.arg.cells
  go_wp2_with fail
  refine (l2At_any _ _ _ _ _ _ hk2.rows hf).mono ?_
  rintro _ _ ⟨rfl, rfl⟩
  rw [HK.out] at x0
  obtain ⟨d0, d1, d2, d3, d4⟩ := hk2.box.cells
  have y0 := hk2.box.frozen 0
  have y1 := hk2.box.frozen 1
  have y2 := hk2.box.frozen 2
  have y3 := hk2.box.frozen 3
  have y4 := hk2.box.frozen 4
  rw [atI_pos hat]
  obtain ⟨b, off, ha, hbB, c0, c1, c2⟩ := hk2.rows.at_ hat
  subst ha
  have hi1 : ¬ ((atN rs o.id : Nat) : Int) < 0 := by omega
  have hi2 : ((atN rs o.id : Nat) : Int) < (rs.length : Int) := by omega
  rw [hx] at c2
  have HP : Hid (∀ n, Below w.heap.size w (kgiven (w2.drewN n) (w.heap.size + 1) kz)) := fun n => (hk2.step (below_drewN n (Below.refl _ _))).post kz
  have hd : decide (((atN rs o.id : Nat) : Int) < 0) = false := decide_eq_false hi1
  clear hk2 htb hok hx c0 c1 hi1
  generalize atN rs o.id = k at *
  go_wp2_with fail
  go_quiet (fail)
  go_wp2
  exact bodyPost_ret (by simp [results, Tryd.results26, go_sem, d0, d1, d2, d3, d4, keyV, kz]) rfl ⟨rfl, HP.out _⟩
set_option maxRecDepth 100000 in
set_option maxHeartbeats 4000000 in
theorem specKeyBack_word2 (B : Nat) (a : Option Addr) (cap : Nat) (rs : List RowD) (o : OpD) (w : World) (hB : B ≤ w.heap.size) (h : RowsAt B w a rs) (hf : Fit rs) (ho : OpFit o) (htb : treeB rs = true) (hok : opokB o = true) (hk : o.kind = 2) (hat : atN rs o.id < rs.length) (hx : (rat rs (atN rs o.id)).txt ≠ o.txt) :
    Calls Tryd.prog 26 #[.slice a rs.length cap, .agg #[.int .i64 o.kind, .int .i64 o.id, .int .i64 o.up, .int .i64 o.at_, .string o.txt]] w (RetBelow (keyV ⟨2, o.id, 0, 0, (rat rs (atN rs o.id)).txt⟩ true) w) := by
  have hl := hf.1
  have HK := Lib.hid hk
  clear hk
  have hk0 := BSt.start o hB h
  go_enter Tryd.func26, Tryd.ntmps26
  go_wp2_with fail
  refine (specTreeOk_any _ _ _ _ _ (Nat.le_refl _) hk0.rows hf).mono ?_
  rintro _ w1 ⟨rfl, hb1⟩
  have hk1 := hk0.step hb1
  clear hk0 hb1
  rw [htb]
  obtain ⟨x0, x1, x2, x3, x4⟩ := hk1.arg.cells
  go_wp2_with fail
  refine (specOpOk_any o _ ho).mono ?_
  rintro _ w2 ⟨rfl, hb2⟩
  have hk2 := hk1.step hb2
  clear hk1 hb2 x0 x1 x2 x3 x4
  rw [hok]
  obtain ⟨x0, x1, x2, x3, x4⟩ := hk2.arg.cells
  go_wp2_with fail
  refine (l2At_any _ _ _ _ _ _ hk2.rows hf).mono ?_
  rintro _ _ ⟨rfl, rfl⟩
  rw [HK.out] at x0
  obtain ⟨d0, d1, d2, d3, d4⟩ := hk2.box.cells
  have y0 := hk2.box.frozen 0
  have y1 := hk2.box.frozen 1
  have y2 := hk2.box.frozen 2
  have y3 := hk2.box.frozen 3
  have y4 := hk2.box.frozen 4
  rw [atI_pos hat]
  obtain ⟨b, off, ha, hbB, c0, c1, c2⟩ := hk2.rows.at_ hat
  subst ha
  have hi1 : ¬ ((atN rs o.id : Nat) : Int) < 0 := by omega
  have hi2 : ((atN rs o.id : Nat) : Int) < (rs.length : Int) := by omega
  have hx2 : ¬ (rat rs (atN rs o.id)).txt.toList = o.txt.toList := fun e => hx (txt_inj e)
  have hx3 : ((rat rs (atN rs o.id)).txt.toList == o.txt.toList) = false := beq_eq_false_iff_ne.2 hx2
  have HP : Hid (∀ n, Below w.heap.size w (kgiven ((w2.drewN n).drew) (w.heap.size + 1) ⟨2, o.id, 0, 0, (rat rs (atN rs o.id)).txt⟩)) := fun n => (hk2.step ((below_drewN n (Below.refl _ _)).drew)).post _
  have hd : decide (((atN rs o.id : Nat) : Int) < 0) = false := decide_eq_false hi1
  clear hk2 htb hok hx c0 c1 hi1
  generalize rat rs (atN rs o.id) = r at *
  generalize atN rs o.id = k at *
  go_wp2_with fail
  go_quiet (fail)
  go_wp2_with fail
  go_region
  all_goals
    go_wp2
    exact bodyPost_ret (by simp [results, Tryd.results26, go_sem, d0, d1, d2, d3, d4, keyV]) rfl ⟨rfl, HP.out _⟩
theorem specKeyBack_word (B : Nat) (a : Option Addr) (cap : Nat) (rs : List RowD) (o : OpD) (w : World) (hB : B ≤ w.heap.size) (h : RowsAt B w a rs) (hf : Fit rs) (ho : OpFit o) (htb : treeB rs = true) (hok : opokB o = true) (hk : o.kind = 2) :
    Calls Tryd.prog 26 #[.slice a rs.length cap, .agg #[.int .i64 o.kind, .int .i64 o.id, .int .i64 o.up, .int .i64 o.at_, .string o.txt]] w (RetBelow (keyV (kbackO rs o) (kbackB rs o)) w) := by
  cases hth : thereB rs o.id
  · have hat : atN rs o.id = rs.length := by
      have := atN_le rs o.id
      have h2 : ¬ atN rs o.id < rs.length := by simpa [thereB] using hth
      omega
    have hb : kbackB rs o = false := kback_off3 (by simp [doR, hk, hth])
    rw [kback_no hb, hb]
    exact specKeyBack_word0 B a cap rs o w hB h hf ho htb hok hk hat
  · have hat : atN rs o.id < rs.length := by simpa [thereB] using hth
    by_cases hx : (rat rs (atN rs o.id)).txt = o.txt
    · have hb : kbackB rs o = false := kback_off3 ((word_chg hk hth).2 hx)
      rw [kback_no hb, hb]
      exact specKeyBack_word1 B a cap rs o w hB h hf ho htb hok hk hat hx
    · have hb : kbackB rs o = true := kback_iff.2 ⟨htb, hok, fun e => hx ((word_chg hk hth).1 e)⟩
      rw [kback_is hb, hb, show kbackP rs o = ⟨2, o.id, 0, 0, (rat rs (atN rs o.id)).txt⟩ by simp [kbackP, hk]]
      exact specKeyBack_word2 B a cap rs o w hB h hf ho htb hok hk hat hx
end Go.Proofs.YtklefdhjfadhpaaDoor
