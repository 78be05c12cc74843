/-
  Joined texts, each with its own head: what it holds, and its conditions.
-/
import Derived.Test.YtoofdhooinaneaaDoorGU
import Derived.Test.YtoofdhooinaneaaDoorGT

/-
  Contracts of the program's ServerSync and ServerFall. Conditions: as each theorem says.
-/
namespace Go.Proofs.YtoofdhooinaneaaDoor
open Go.ChangeShapes Go.WideShapes Go.ChangeAt Go.RowKit Go.Joins

set_option maxRecDepth 100000 in
set_option maxHeartbeats 2000000 in
theorem implServerSync_any (b off cap : Nat) (es : List EntD) (sf : Int) (up : Bool) (w : World) (hbb : b < w.heap.size) (h : EntsAt w.heap.size w (some ⟨b, off, none⟩) es) (hf : EntsFit es) (ht : Tab w) :
    Calls Tryd.prog 31 #[.agg #[.slice (some ⟨b, off, none⟩) es.length cap, .int .i64 sf, .bool up]] w (RetSvB (syncS ⟨es, sf, up⟩) (srvB ⟨es, sf, up⟩) (syncB ⟨es, sf, up⟩) w) := by
  have hb0 : Below w.heap.size w ((w.alloc (.cells #[.slice (some ⟨b, off, none⟩) es.length cap, .int .i64 sf, .bool up] 43)).alloc (.cells #[.slice none 0 0, .int .i64 0, .bool false] 43)) := ((Below.refl _ _).alloc (Nat.le_refl _) _).alloc (by simp) _
  have X0 := (Bx.new w 43 #[.slice (some ⟨b, off, none⟩) es.length cap, .int .i64 sf, .bool up]).alloc (.cells #[.slice none 0 0, .int .i64 0, .bool false] 43)
  have Y0 := Bx.new (w.alloc (.cells #[.slice (some ⟨b, off, none⟩) es.length cap, .int .i64 sf, .bool up] 43)) 43 #[.slice none 0 0, .int .i64 0, .bool false]
  have hs0 : (w.alloc (.cells #[.slice (some ⟨b, off, none⟩) es.length cap, .int .i64 sf, .bool up] 43)).heap.size = w.heap.size + 1 := by simp
  rw [hs0] at Y0
  have h0 := h.below hb0
  go_enter Tryd.func31, Tryd.ntmps31
  go_upto_region 1 with fail
  generalize ((w.alloc (.cells #[.slice (some ⟨b, off, none⟩) es.length cap, .int .i64 sf, .bool up] 43)).alloc (.cells #[.slice none 0 0, .int .i64 0, .bool false] 43)) = w1 at *
  clear hs0
  have hx0 := X0.lt
  have hy0 := Y0.lt
  have HH := Lib.hid (hostOf_any b off cap es sf up w1 (Nat.lt_of_lt_of_le hbb hb0.size) (h0.mono hb0.size) hf (ht.below hb0 ht.pos))
  obtain ⟨x0, x1, x2⟩ := X0.srv
  go_wp2_with fail
  refine HH.out.mono ?_
  rintro _ w2 ⟨b2, ⟨hsb, g, c, rfl, O2⟩ | ⟨hsb, rfl⟩⟩
  · have HSB := Lib.hid hsb
    have L2 := hb0.trans (b2.mono hb0.size)
    have Y3 := (Y0.below b2 Y0.lt).alloc (.cells #[.slice (some ⟨g, 0, none⟩) es.length c, .int .i64 sf, .slice none 0 0, .bool up] 92)
    have H3 := Bx.new w2 92 #[.slice (some ⟨g, 0, none⟩) es.length c, .int .i64 sf, .slice none 0 0, .bool up]
    have O3 := O2.alloc (.cells #[.slice (some ⟨g, 0, none⟩) es.length c, .int .i64 sf, .slice none 0 0, .bool up] 92)
    have L3 := L2.alloc L2.size (.cells #[.slice (some ⟨g, 0, none⟩) es.length c, .int .i64 sf, .slice none 0 0, .bool up] 92)
    have hgB : g ≠ w2.heap.size := by have := O2.hi; omega
    have hgr : w.heap.size + 1 < g := Nat.lt_of_lt_of_le Y0.lt O2.lo
    have hBr : w.heap.size + 1 < w2.heap.size := Nat.lt_of_lt_of_le Y0.lt b2.size
    have hbase : w.heap.size ≤ w1.heap.size := hb0.size
    clear hsb x0 x1 x2 X0 Y0 O2 L2 b2 HH
    go_upto_region 2 with fail
    generalize w2.alloc (.cells #[.slice (some ⟨g, 0, none⟩) es.length c, .int .i64 sf, .slice none 0 0, .bool up] 92) = w3 at *
    generalize w2.heap.size = B at *
    cases up
    · have HQ := Lib.hid (sync_down (s := ⟨es, sf, false⟩) HSB.out rfl)
      have HSV := Lib.hid (server_any B _ _ _ _ _ _ w3.drew H3.drew)
      obtain ⟨z0, z1, z2, z3⟩ := H3.host
      have O3d := O3.drew
      have L3d := L3.drew
      have Y3d := Y3.drew
      have H3d := H3.drew
      clear O3 L3 Y3 H3
      go_wp2_with fail
      go_region_with (go_at_call 61; refine HSV.out.mono ?_; rintro _ w4 ⟨rfl, b4⟩; have O4 := O3d.below b4 (Nat.le_refl _); have L4 := L3d.trans (b4.mono L3d.size); have Y4 := Y3d.below b4 Y3d.lt; have H4 := H3d.below b4 H3d.lt; obtain ⟨q0, q1, q2, q3⟩ := H4.host; have d0 := Y4.cell 0 rfl; have d1 := Y4.cell 1 rfl; have d2 := Y4.cell 2 rfl; have y0 := Y4.frozen 0; have y1 := Y4.frozen 1; have y2 := Y4.frozen 2)
      all_goals
        clear O3d L3d Y3d H3d Y4 H4 HSV
        go_wp2
        exact bodyPost_ret (v := .tuple #[.agg #[.slice (some ⟨g, 0, none⟩) es.length c, .int .i64 sf, .bool false], .bool false]) (by simp [results, Tryd.results31, go_sem, d0, d1, d2]) rfl (by rw [HQ.out.1, HQ.out.2]; first | exact retSrvB_put (s := ⟨es, sf, false⟩) O4 hbase (by omega) (by omega) L4 _ _ _ | exact retSrvB_put (s := ⟨es, sf, false⟩) O4.drew hbase (by omega) (by omega) L4.drew _ _ _)
    · have HQ := Lib.hid (sync_up (s := ⟨es, sf, true⟩) HSB.out rfl)
      have H5 : Bx (w3.setCell ⟨B, 1, none⟩ (.int .i64 (es.length : Int))) B 92 #[.slice (some ⟨g, 0, none⟩) es.length c, .int .i64 (es.length : Int), .slice none 0 0, .bool true] := H3.put 1 _
      have Y5 := Y3.other (j := 1) (show w.heap.size + 1 ≠ B by omega) (.int .i64 (es.length : Int))
      have O5 := O3.put (B := B) (j := 1) hgB (.int .i64 (es.length : Int))
      have L5 := L3.setCell (p := ⟨B, 1, none⟩) (show w.heap.size ≤ B by omega) (.int .i64 (es.length : Int))
      have HKA := Lib.hid (keepAll_any B _ _ _ _ _ _ w3 H3)
      obtain ⟨z0, z1, z2, z3⟩ := H3.host
      clear O3 L3 Y3 H3
      go_wp2_with fail
      refine HKA.out.mono ?_
      rintro _ w5 ⟨rfl, hw5⟩
      rw [← hw5] at H5 Y5 O5 L5
      clear hw5 HKA z0 z1 z2 z3
      have HSV := Lib.hid (server_any B _ _ _ _ _ _ w5.drew H5.drew)
      obtain ⟨z0, z1, z2, z3⟩ := H5.host
      have O3d := O5.drew
      have L3d := L5.drew
      have Y3d := Y5.drew
      have H3d := H5.drew
      clear O5 L5 Y5 H5
      go_wp2_with fail
      go_region_with (go_at_call 61; refine HSV.out.mono ?_; rintro _ w4 ⟨rfl, b4⟩; have O4 := O3d.below b4 (Nat.le_refl _); have L4 := L3d.trans (b4.mono L3d.size); have Y4 := Y3d.below b4 Y3d.lt; have H4 := H3d.below b4 H3d.lt; obtain ⟨q0, q1, q2, q3⟩ := H4.host; have d0 := Y4.cell 0 rfl; have d1 := Y4.cell 1 rfl; have d2 := Y4.cell 2 rfl; have y0 := Y4.frozen 0; have y1 := Y4.frozen 1; have y2 := Y4.frozen 2)
      all_goals
        clear O3d L3d Y3d H3d Y4 H4 HSV
        go_wp2
        exact bodyPost_ret (v := .tuple #[.agg #[.slice (some ⟨g, 0, none⟩) es.length c, .int .i64 (es.length : Int), .bool true], .bool true]) (by simp [results, Tryd.results31, go_sem, d0, d1, d2]) rfl (by rw [HQ.out.1, HQ.out.2]; first | exact retSrvB_put (s := ⟨es, es.length, true⟩) O4 hbase (by omega) (by omega) L4 _ _ _ | exact retSrvB_put (s := ⟨es, es.length, true⟩) O4.drew hbase (by omega) (by omega) L4.drew _ _ _)
  · skip
    have HSB := Lib.hid hsb
    have L2 := hb0.trans (b2.mono hb0.size)
    have Y3 := (Y0.below b2 Y0.lt).alloc (.cells #[.slice none 0 0, .int .i64 0, .slice none 0 0, .bool false] 92)
    have L3 := L2.alloc L2.size (.cells #[.slice none 0 0, .int .i64 0, .slice none 0 0, .bool false] 92)
    clear hsb x0 x1 x2 X0 Y0 L2 b2 HH
    go_upto_region 2 with fail
    generalize w2.alloc (.cells #[.slice none 0 0, .int .i64 0, .slice none 0 0, .bool false] 92) = w3 at *
    have d0 := Y3.cell 0 rfl
    have d1 := Y3.cell 1 rfl
    have d2 := Y3.cell 2 rfl
    have y0 := Y3.frozen 0
    have y1 := Y3.frozen 1
    have y2 := Y3.frozen 2
    clear Y3
    go_wp2
    exact bodyPost_ret (v := .tuple #[.agg #[.slice none 0 0, .int .i64 0, .bool false], .bool false]) (by simp [results, Tryd.results31, go_sem, d0, d1, d2]) rfl (retSrvB_zero (sync_no HSB.out) HSB.out (by omega) L3 _ _ _)
set_option maxRecDepth 100000 in
set_option maxHeartbeats 2000000 in
theorem implServerFall_any (b off cap : Nat) (es : List EntD) (sf : Int) (up : Bool) (left : Int) (w : World) (hbb : b < w.heap.size) (h : EntsAt w.heap.size w (some ⟨b, off, none⟩) es) (hf : EntsFit es) (ht : Tab w) :
    Calls Tryd.prog 32 #[.agg #[.slice (some ⟨b, off, none⟩) es.length cap, .int .i64 sf, .bool up], .int .i64 left] w (RetSv (fallS ⟨es, sf, up⟩ left) (fallOk ⟨es, sf, up⟩ left) w) := by
  have HOK : Hid (fallOk ⟨es, sf, up⟩ left = (srvB ⟨es, sf, up⟩ && inB left 0 40)) := rfl
  have hb0 : Below w.heap.size w ((w.alloc (.cells #[.slice (some ⟨b, off, none⟩) es.length cap, .int .i64 sf, .bool up] 43)).alloc (.cells #[.slice none 0 0, .int .i64 0, .bool false] 43)) := ((Below.refl _ _).alloc (Nat.le_refl _) _).alloc (by simp) _
  have X0 := (Bx.new w 43 #[.slice (some ⟨b, off, none⟩) es.length cap, .int .i64 sf, .bool up]).alloc (.cells #[.slice none 0 0, .int .i64 0, .bool false] 43)
  have Y0 := Bx.new (w.alloc (.cells #[.slice (some ⟨b, off, none⟩) es.length cap, .int .i64 sf, .bool up] 43)) 43 #[.slice none 0 0, .int .i64 0, .bool false]
  have hs0 : (w.alloc (.cells #[.slice (some ⟨b, off, none⟩) es.length cap, .int .i64 sf, .bool up] 43)).heap.size = w.heap.size + 1 := by simp
  rw [hs0] at Y0
  have h0 := h.below hb0
  go_enter Tryd.func32, Tryd.ntmps32
  go_upto_region 1 with fail
  generalize ((w.alloc (.cells #[.slice (some ⟨b, off, none⟩) es.length cap, .int .i64 sf, .bool up] 43)).alloc (.cells #[.slice none 0 0, .int .i64 0, .bool false] 43)) = w1 at *
  clear hs0
  have hx0 := X0.lt
  have hy0 := Y0.lt
  have HH := Lib.hid (hostOf_any b off cap es sf up w1 (Nat.lt_of_lt_of_le hbb hb0.size) (h0.mono hb0.size) hf (ht.below hb0 ht.pos))
  obtain ⟨x0, x1, x2⟩ := X0.srv
  go_wp2_with fail
  refine HH.out.mono ?_
  rintro _ w2 ⟨b2, ⟨hsb, g, c, rfl, O2⟩ | ⟨hsb, rfl⟩⟩
  · have HSB := Lib.hid hsb
    have L2 := hb0.trans (b2.mono hb0.size)
    have Y3 := (Y0.below b2 Y0.lt).alloc (.cells #[.slice (some ⟨g, 0, none⟩) es.length c, .int .i64 sf, .slice none 0 0, .bool up] 92)
    have H3 := Bx.new w2 92 #[.slice (some ⟨g, 0, none⟩) es.length c, .int .i64 sf, .slice none 0 0, .bool up]
    have O3 := O2.alloc (.cells #[.slice (some ⟨g, 0, none⟩) es.length c, .int .i64 sf, .slice none 0 0, .bool up] 92)
    have L3 := L2.alloc L2.size (.cells #[.slice (some ⟨g, 0, none⟩) es.length c, .int .i64 sf, .slice none 0 0, .bool up] 92)
    have hgB : g ≠ w2.heap.size := by have := O2.hi; omega
    have hgr : w.heap.size + 1 < g := Nat.lt_of_lt_of_le Y0.lt O2.lo
    have hBr : w.heap.size + 1 < w2.heap.size := Nat.lt_of_lt_of_le Y0.lt b2.size
    have hbase : w.heap.size ≤ w1.heap.size := hb0.size
    clear hsb x0 x1 x2 X0 Y0 O2 L2 b2 HH
    go_upto_region 2 with fail
    generalize w2.alloc (.cells #[.slice (some ⟨g, 0, none⟩) es.length c, .int .i64 sf, .slice none 0 0, .bool up] 92) = w3 at *
    generalize w2.heap.size = B at *
    by_cases hlb : 0 ≤ left ∧ left ≤ 40
    · obtain ⟨hr1, hr2⟩ := hlb
      have HFO : Hid (fallOk ⟨es, sf, up⟩ left = true) := by unfold Hid; rw [HOK.out, HSB.out, (inB_iff _ _ _).2 ⟨hr1, hr2⟩]; rfl
      obtain ⟨_, hr3, hr4⟩ := srv_iff.1 HSB.out
      simp only [] at hr3 hr4
      obtain ⟨s, rfl⟩ := Int.eq_ofNat_of_zero_le hr3
      obtain ⟨l, rfl⟩ := Int.eq_ofNat_of_zero_le hr1
      have HF := Lib.hid (fall_nat HFO.out)
      have HLO := Lib.hid (lose_any w1.heap.size (w.heap.size + 1 + 1) B g c es (.slice none 0 0) s l up w3 H3 O3 hf.1 (by omega) (by omega) hgB (by omega) (by omega))
      go_wp2_with fail
      refine HLO.out.mono ?_
      rintro _ w4 ⟨rfl, H4, O4, b4⟩
      have L4 := L3.trans (b4.mono (by omega))
      have Y4 := Y3.below b4 (by omega)
      clear Y3 H3 O3 L3 b4 HLO
      go_wp2_with fail
      refine (server_any B _ _ _ _ _ _ w4 H4).mono ?_
      rintro _ w5 ⟨rfl, b5⟩
      have O5 := O4.below b5 (Nat.le_refl _)
      have L5 := L4.trans (b5.mono L4.size)
      have Y5 := Y4.below b5 Y4.lt
      have d0 := Y5.cell 0 rfl
      have d1 := Y5.cell 1 rfl
      have d2 := Y5.cell 2 rfl
      have y0 := Y5.frozen 0
      have y1 := Y5.frozen 1
      have y2 := Y5.frozen 2
      clear O4 L4 Y4 Y5 H4 b5
      have HK : Hid ((es.take (min es.length (s + l))).length = min es.length (s + l)) := by unfold Hid; rw [List.length_take]; omega
      generalize min es.length (s + l) = k at *
      have HFF := Lib.hid (retSrv_put (s := ⟨es.take k, s, up⟩) (ok := fallOk ⟨es, (s : Int), up⟩ (l : Int)) O5 hbase (show w.heap.size ≤ w.heap.size + 1 by omega) (by omega) L5 (.slice (some ⟨g, 0, none⟩) k c) (.int .i64 (s : Int)) (.bool up))
      simp only [] at HFF
      rw [HK.out] at HFF
      go_wp2
      exact bodyPost_ret (v := .agg #[.slice (some ⟨g, 0, none⟩) k c, .int .i64 (s : Int), .bool up]) (by simp [results, Tryd.results32, go_sem, d0, d1, d2]) rfl (by rw [HF.out]; exact HFF.out)
    · have HFO : Hid (fallOk ⟨es, sf, up⟩ left = false) := by
        unfold Hid; rw [HOK.out, HSB.out, Bool.true_and, Bool.eq_false_iff]; intro q; exact hlb ((inB_iff _ _ _).1 q)
      have HF := Lib.hid (fall_no HFO.out)
      have d0 := Y3.cell 0 rfl
      have d1 := Y3.cell 1 rfl
      have d2 := Y3.cell 2 rfl
      have y0 := Y3.frozen 0
      have y1 := Y3.frozen 1
      have y2 := Y3.frozen 2
      clear Y3 H3 O3
      by_cases hl0 : left < 0
      · clear hlb
        go_wp2
        exact bodyPost_ret (v := .agg #[.slice none 0 0, .int .i64 0, .bool false]) (by simp [results, Tryd.results32, go_sem, d0, d1, d2]) rfl (retSrv_zero HF.out HFO.out (by omega) L3 _ _ _)
      · have hl4 : 40 < left := by omega
        have hl5 : ¬ left ≤ 40 := by omega
        clear hlb
        go_wp2
        exact bodyPost_ret (v := .agg #[.slice none 0 0, .int .i64 0, .bool false]) (by simp [results, Tryd.results32, go_sem, d0, d1, d2]) rfl (retSrv_zero HF.out HFO.out (by omega) L3 _ _ _)
  · have HFO : Hid (fallOk ⟨es, sf, up⟩ left = false) := by unfold Hid; rw [HOK.out, hsb]; rfl
    have HSB := Lib.hid hsb
    have L2 := hb0.trans (b2.mono hb0.size)
    have Y3 := (Y0.below b2 Y0.lt).alloc (.cells #[.slice none 0 0, .int .i64 0, .slice none 0 0, .bool false] 92)
    have L3 := L2.alloc L2.size (.cells #[.slice none 0 0, .int .i64 0, .slice none 0 0, .bool false] 92)
    clear hsb x0 x1 x2 X0 Y0 L2 b2 HH
    go_upto_region 2 with fail
    generalize w2.alloc (.cells #[.slice none 0 0, .int .i64 0, .slice none 0 0, .bool false] 92) = w3 at *
    have d0 := Y3.cell 0 rfl
    have d1 := Y3.cell 1 rfl
    have d2 := Y3.cell 2 rfl
    have y0 := Y3.frozen 0
    have y1 := Y3.frozen 1
    have y2 := Y3.frozen 2
    clear Y3
    go_wp2
    exact bodyPost_ret (v := .agg #[.slice none 0 0, .int .i64 0, .bool false]) (by simp [results, Tryd.results32, go_sem, d0, d1, d2]) rfl (retSrv_zero (fall_no HFO.out) HFO.out (by omega) L3 _ _ _)
end Go.Proofs.YtoofdhooinaneaaDoor
/-
  Contracts of the program's ServerNews and ServerHear. Conditions: as each theorem says.
-/
namespace Go.Proofs.YtoofdhooinaneaaDoor
open Go.ChangeShapes Go.WideShapes Go.ChangeAt Go.RowKit Go.Joins

theorem logB_len {es : List EntD} (h : logB es = true) : es.length ≤ 40 := (logB_to h).2
theorem news_off {es : List EntD} {sf fr : Int} {up : Bool} (h : ¬ (up = true ∧ 0 ≤ fr ∧ fr ≤ sf)) : newsOk ⟨es, sf, up⟩ fr = false := by
  rw [Bool.eq_false_iff]; intro q
  have := newsOk_is.1 q
  exact h ⟨this.2.1, this.2.2.1, this.2.2.2⟩
set_option maxRecDepth 100000 in
set_option maxHeartbeats 2000000 in
theorem implServerNews_any (b off cap : Nat) (es : List EntD) (sf : Int) (up : Bool) (fr : Int) (w : World) (hbb : b < w.heap.size) (h : EntsAt w.heap.size w (some ⟨b, off, none⟩) es) (hf : EntsFit es) (ht : Tab w) :
    Calls Tryd.prog 23 #[.agg #[.slice (some ⟨b, off, none⟩) es.length cap, .int .i64 sf, .bool up], .int .i64 fr] w (RetNw (newsL ⟨es, sf, up⟩ fr) w) := by
  have hb0 : Below w.heap.size w (w.alloc (.cells #[.slice (some ⟨b, off, none⟩) es.length cap, .int .i64 sf, .bool up] 43)) := (Below.refl _ _).alloc (Nat.le_refl _) _
  have X0 := Bx.new w 43 #[.slice (some ⟨b, off, none⟩) es.length cap, .int .i64 sf, .bool up]
  have h0 := h.below hb0
  go_enter Tryd.func23, Tryd.ntmps23
  go_upto_region 1 with fail
  generalize (w.alloc (.cells #[.slice (some ⟨b, off, none⟩) es.length cap, .int .i64 sf, .bool up] 43)) = w1 at *
  have HH := Lib.hid (hostOf_any b off cap es sf up w1 (Nat.lt_of_lt_of_le hbb hb0.size) (h0.mono hb0.size) hf (ht.below hb0 ht.pos))
  obtain ⟨x0, x1, x2⟩ := X0.srv
  go_wp2_with fail
  refine HH.out.mono ?_
  rintro _ w2 ⟨b2, ⟨hsb, g, c, rfl, O2⟩ | ⟨hsb, rfl⟩⟩
  · have HSB := Lib.hid hsb
    have L2 := hb0.trans (b2.mono hb0.size)
    have H3 := Bx.new w2 92 #[.slice (some ⟨g, 0, none⟩) es.length c, .int .i64 sf, .slice none 0 0, .bool up]
    have O3 := O2.alloc (.cells #[.slice (some ⟨g, 0, none⟩) es.length c, .int .i64 sf, .slice none 0 0, .bool up] 92)
    have L3 := L2.alloc L2.size (.cells #[.slice (some ⟨g, 0, none⟩) es.length c, .int .i64 sf, .slice none 0 0, .bool up] 92)
    clear hsb x0 x1 x2 X0 O2 L2 b2 HH
    go_upto_region 2 with fail
    generalize w2.alloc (.cells #[.slice (some ⟨g, 0, none⟩) es.length c, .int .i64 sf, .slice none 0 0, .bool up] 92) = w3 at *
    generalize w2.heap.size = B at *
    obtain ⟨z0, z1, z2, z3⟩ := H3.host
    by_cases hok : up = true ∧ 0 ≤ fr ∧ fr ≤ sf
    · obtain ⟨rfl, hr1, hr2⟩ := hok
      have HFO : Hid (newsOk ⟨es, sf, true⟩ fr = true) := newsOk_is.2 ⟨HSB.out, rfl, hr1, hr2⟩
      obtain ⟨_, hr3, hr4⟩ := srv_iff.1 HSB.out
      simp only [] at hr3 hr4
      obtain ⟨s, rfl⟩ := Int.eq_ofNat_of_zero_le hr3
      obtain ⟨f, rfl⟩ := Int.eq_ofNat_of_zero_le hr1
      have HF := Lib.hid (news_nat HFO.out)
      have HNS := Lib.hid (news_any w1.heap.size B g c es _ s f true w3 H3 O3 hf.1 (by omega) (by omega))
      have i5 : (f : Int) ≤ (s : Int) := by omega
      clear O3 H3
      go_wp2_with fail
      refine HNS.out.mono ?_
      rintro _ w4 ⟨g4, c4, rfl, O4, b4⟩
      have L4 := L3.trans (b4.mono L3.size)
      have HFF : Hid (RetNw (newsL ⟨es, s, true⟩ f) w (.returned (.slice (some ⟨g4, 0, none⟩) ((es.drop f).take (s - f)).length c4)) w4) := by unfold Hid; rw [HF.out]; exact ⟨_, c4, rfl, (O4.mono L3.size).got, L4⟩
      clear HF HNS O4
      generalize (es.drop f).take (s - f) = L at *
      go_wp2
      go_ret
      exact HFF.out
    · have HFO := Lib.hid (news_off (es := es) hok)
      cases up
      · clear hok
        go_wp2
        go_ret
        exact retNw_none HFO.out L3
      · by_cases hf0 : fr < 0
        · clear hok
          go_wp2
          go_ret
          exact retNw_none HFO.out L3
        · have hf1 : sf < fr := by
            rcases Int.lt_or_le sf fr with q | q
            · exact q
            · exact absurd ⟨rfl, by omega, q⟩ hok
          have hf2 : ¬ fr ≤ sf := by omega
          clear hok
          go_wp2
          go_ret
          exact retNw_none HFO.out L3
  · have HFO : Hid (newsOk ⟨es, sf, up⟩ fr = false) := by unfold Hid newsOk; rw [hsb]; rfl
    have L2 := hb0.trans (b2.mono hb0.size)
    have L3 := L2.alloc L2.size (.cells #[.slice none 0 0, .int .i64 0, .slice none 0 0, .bool false] 92)
    clear hsb x0 x1 x2 X0 L2 b2 HH
    go_upto_region 2 with fail
    generalize w2.alloc (.cells #[.slice none 0 0, .int .i64 0, .slice none 0 0, .bool false] 92) = w3 at *
    go_wp2
    go_ret
    exact retNw_none HFO.out L3
theorem GotE.above {base B : Nat} {w : World} {a : Option Addr} {es : List EntD} (h : GotE base w a es) (hB : B < base) : es.length = 0 ∨ ∀ g, a = some ⟨g, 0, none⟩ → g ≠ B := by
  rcases h with h | ⟨g, C, e, hg, ho⟩
  · exact .inl h
  · refine .inr fun g' e' => ?_
    rw [e] at e'; cases e'
    omega
theorem hres_L {up : Bool} {es : List EntD} {e : EntD} (h : okAdd es e = true) : hres up es e = hL up es e := by
  unfold hres hL newB
  cases up
  · rfl
  · cases h1 : hasE es e
    · cases h2 : nextB es e
      · simp [(add_gap h h1 h2).1]
      · simp [(add_new h h1 h2).1]
    · simp [(add_has h h1).1]
theorem hcount_is {up : Bool} {es : List EntD} {e : EntD} (h : okAdd es e = true) : (hcount up es e == 1) = newB up es e := by
  unfold hcount; rw [← newB_add h]
  cases newB up es e <;> rfl
set_option maxRecDepth 100000 in
set_option maxHeartbeats 4000000 in
theorem implServerHear_any (b off cap : Nat) (es : List EntD) (sf : Int) (up : Bool) (e : EntD) (w : World) (hbb : b < w.heap.size) (h : EntsAt w.heap.size w (some ⟨b, off, none⟩) es) (hf : EntsFit es) (ht : Tab w) (hef : EFit e) :
    Calls Tryd.prog 29 #[.agg #[.slice (some ⟨b, off, none⟩) es.length cap, .int .i64 sf, .bool up], .agg #[.int .i64 e.who, .int .i64 e.seq, .int .i64 e.op.kind, .int .i64 e.op.id, .int .i64 e.op.up, .int .i64 e.op.at_, .string e.op.txt]] w (RetHr (hearS ⟨es, sf, up⟩ e) (hearB ⟨es, sf, up⟩ e) w) := by
  have HOK : Hid (hearOk ⟨es, sf, up⟩ e = (srvB ⟨es, sf, up⟩ && entB e)) := rfl
  have hz := ht.pos
  have hb0 : Below w.heap.size w (((w.alloc (.cells #[.slice (some ⟨b, off, none⟩) es.length cap, .int .i64 sf, .bool up] 43)).alloc (.cells #[.int .i64 e.who, .int .i64 e.seq, .int .i64 e.op.kind, .int .i64 e.op.id, .int .i64 e.op.up, .int .i64 e.op.at_, .string e.op.txt] 52)).alloc (.cells #[.slice none 0 0, .int .i64 0, .bool false] 43)) := (((Below.refl _ _).alloc (Nat.le_refl _) _).alloc (by simp) _).alloc (by simp; omega) _
  have X0 := ((Bx.new w 43 #[.slice (some ⟨b, off, none⟩) es.length cap, .int .i64 sf, .bool up]).alloc (.cells #[.int .i64 e.who, .int .i64 e.seq, .int .i64 e.op.kind, .int .i64 e.op.id, .int .i64 e.op.up, .int .i64 e.op.at_, .string e.op.txt] 52)).alloc (.cells #[.slice none 0 0, .int .i64 0, .bool false] 43)
  have E0 := (Bx.new (w.alloc (.cells #[.slice (some ⟨b, off, none⟩) es.length cap, .int .i64 sf, .bool up] 43)) 52 #[.int .i64 e.who, .int .i64 e.seq, .int .i64 e.op.kind, .int .i64 e.op.id, .int .i64 e.op.up, .int .i64 e.op.at_, .string e.op.txt]).alloc (.cells #[.slice none 0 0, .int .i64 0, .bool false] 43)
  have Y0 := Bx.new ((w.alloc (.cells #[.slice (some ⟨b, off, none⟩) es.length cap, .int .i64 sf, .bool up] 43)).alloc (.cells #[.int .i64 e.who, .int .i64 e.seq, .int .i64 e.op.kind, .int .i64 e.op.id, .int .i64 e.op.up, .int .i64 e.op.at_, .string e.op.txt] 52)) 43 #[.slice none 0 0, .int .i64 0, .bool false]
  have hs1 : (w.alloc (.cells #[.slice (some ⟨b, off, none⟩) es.length cap, .int .i64 sf, .bool up] 43)).heap.size = w.heap.size + 1 := by simp
  have hs2 : ((w.alloc (.cells #[.slice (some ⟨b, off, none⟩) es.length cap, .int .i64 sf, .bool up] 43)).alloc (.cells #[.int .i64 e.who, .int .i64 e.seq, .int .i64 e.op.kind, .int .i64 e.op.id, .int .i64 e.op.up, .int .i64 e.op.at_, .string e.op.txt] 52)).heap.size = w.heap.size + 1 + 1 := by simp
  rw [hs1] at E0
  rw [hs2] at Y0
  have h0 := h.below hb0
  clear hs1 hs2
  go_enter Tryd.func29, Tryd.ntmps29
  go_upto_region 1 with fail
  generalize (((w.alloc (.cells #[.slice (some ⟨b, off, none⟩) es.length cap, .int .i64 sf, .bool up] 43)).alloc (.cells #[.int .i64 e.who, .int .i64 e.seq, .int .i64 e.op.kind, .int .i64 e.op.id, .int .i64 e.op.up, .int .i64 e.op.at_, .string e.op.txt] 52)).alloc (.cells #[.slice none 0 0, .int .i64 0, .bool false] 43)) = w1 at *
  have HH := Lib.hid (hostOf_any b off cap es sf up w1 (Nat.lt_of_lt_of_le hbb hb0.size) (h0.mono hb0.size) hf (ht.below hb0 ht.pos))
  obtain ⟨x0, x1, x2⟩ := X0.srv
  go_wp2_with fail
  refine HH.out.mono ?_
  rintro _ w2 ⟨b2, ⟨hsb, g, c, rfl, O2⟩ | ⟨hsb, rfl⟩⟩
  · have HSB := Lib.hid hsb
    have L2 := hb0.trans (b2.mono hb0.size)
    have Y3 := (Y0.below b2 Y0.lt).alloc (.cells #[.slice (some ⟨g, 0, none⟩) es.length c, .int .i64 sf, .slice none 0 0, .bool up] 92)
    have E3 := (E0.below b2 E0.lt).alloc (.cells #[.slice (some ⟨g, 0, none⟩) es.length c, .int .i64 sf, .slice none 0 0, .bool up] 92)
    have H3 := Bx.new w2 92 #[.slice (some ⟨g, 0, none⟩) es.length c, .int .i64 sf, .slice none 0 0, .bool up]
    have O3 := O2.alloc (.cells #[.slice (some ⟨g, 0, none⟩) es.length c, .int .i64 sf, .slice none 0 0, .bool up] 92)
    have L3 := L2.alloc L2.size (.cells #[.slice (some ⟨g, 0, none⟩) es.length c, .int .i64 sf, .slice none 0 0, .bool up] 92)
    have hgB : g ≠ w2.heap.size := by have := O2.hi; omega
    have hBr : w.heap.size + 1 + 1 < w2.heap.size := Nat.lt_of_lt_of_le Y0.lt b2.size
    have hyw : w.heap.size + 1 + 1 < w1.heap.size := Y0.lt
    have hbB : w1.heap.size ≤ w2.heap.size := b2.size
    have hbase : w.heap.size ≤ w1.heap.size := hb0.size
    clear hsb x0 x1 x2 X0 Y0 E0 O2 L2 b2 HH
    go_upto_region 2 with fail
    generalize w2.alloc (.cells #[.slice (some ⟨g, 0, none⟩) es.length c, .int .i64 sf, .slice none 0 0, .bool up] 92) = w3 at *
    generalize w2.heap.size = B at *
    have e0 := E3.cell 0 rfl
    have e1 := E3.cell 1 rfl
    have e2 := E3.cell 2 rfl
    have e3 := E3.cell 3 rfl
    have e4 := E3.cell 4 rfl
    have e5 := E3.cell 5 rfl
    have e6 := E3.cell 6 rfl
    go_wp2_with fail
    refine (implEntryOk_any e w3 (ht.below L3 hz) hef).mono ?_
    rintro _ w4 ⟨rfl, b4⟩
    have Y4 := Y3.below b4 Y3.lt
    have E4 := E3.below b4 E3.lt
    have H4 := H3.below b4 H3.lt
    have O4 := O3.below b4 (Nat.le_refl _)
    have L4 := L3.trans (b4.mono L3.size)
    clear Y3 E3 H3 O3 L3 b4 e0 e1 e2 e3 e4 e5 e6
    generalize heb : entB e = eb at *
    have HEB := Lib.hid heb
    clear heb
    cases eb
    · have HFO : Hid (hearOk ⟨es, sf, up⟩ e = false) := by unfold Hid; rw [HOK.out, HSB.out]; rfl
      have d0 := Y4.cell 0 rfl
      have d1 := Y4.cell 1 rfl
      have d2 := Y4.cell 2 rfl
      have y0 := Y4.frozen 0
      have y1 := Y4.frozen 1
      have y2 := Y4.frozen 2
      clear Y4 E4 H4 O4
      go_wp2
      exact bodyPost_ret (v := .tuple #[.agg #[.slice none 0 0, .int .i64 0, .bool false], .bool false]) (by simp [results, Tryd.results29, go_sem, d0, d1, d2]) rfl (retHr_zero HFO.out (by omega) L4 _ _ _)
    · have HFO : Hid (hearOk ⟨es, sf, up⟩ e = true) := by unfold Hid; rw [HOK.out, HSB.out]; rfl
      have HQ := Lib.hid (hear_new HFO.out)
      have hadd := hearOk_add HFO.out
      simp only [] at hadd
      have HR1 := Lib.hid (hres_L (up := up) hadd)
      have HR2 := Lib.hid (hcount_is (up := up) hadd)
      clear hadd
      have e0 := E4.cell 0 rfl
      have e1 := E4.cell 1 rfl
      have e2 := E4.cell 2 rfl
      have e3 := E4.cell 3 rfl
      have e4 := E4.cell 4 rfl
      have e5 := E4.cell 5 rfl
      have e6 := E4.cell 6 rfl
      go_wp2_with fail
      refine (put_any B _ sf up e w4 H4).mono ?_
      rintro _ w5 ⟨rfl, q, qc, H5, hq1, hq2, Q5, b5, hc1, hc2⟩
      have b5' : Below B w4 w5 := b5.below (Nat.le_refl _) (Nat.le_of_lt H4.lt)
      have Y5 := Y4.below b5' (by omega)
      have L5 := L4.trans (b5'.mono (by omega))
      have O5 : OwnG w1.heap.size w5 g c es := ⟨O4.got.but' b5 (Nat.le_refl _) hgB, O4.lo, Nat.lt_of_lt_of_le O4.hi b5.size, O4.len, O4.cap⟩
      have T5 : Tab w5 := ht.below L5 hz
      clear Y4 E4 H4 O4 L4 b5 b5' e0 e1 e2 e3 e4 e5 e6
      go_wp2_with fail
      refine (hear_any w1.heap.size w1.heap.size B g c q qc sf up es e w5 H5 O5 Q5 hc1 hc2 hf hef T5 hgB hbB (by omega) (by have := H5.lt; omega)).mono ?_
      rintro _ w6 ⟨rfl, a6, c6, a7, c7, H6, G6, b6⟩
      have Y6 := Y5.below b6 hyw
      have L6 := L5.trans (b6.mono hbase)
      rw [HR1.out] at G6 H6
      clear Y5 H5 O5 L5 T5 Q5 b6
      go_wp2_with fail
      refine (server_any B _ _ _ _ _ _ w6 H6).mono ?_
      rintro _ w7 ⟨rfl, b7⟩
      have G7 := G6.below b7 (Nat.le_refl _)
      have hne7 : (hL up es e).length = 0 ∨ ∀ g, a6 = some ⟨g, 0, none⟩ → g ≠ w.heap.size + 1 + 1 := G6.above hyw
      have Y7 := Y6.below b7 Y6.lt
      have L7 := L6.trans (b7.mono L6.size)
      have d0 := Y7.cell 0 rfl
      have d1 := Y7.cell 1 rfl
      have d2 := Y7.cell 2 rfl
      have y0 := Y7.frozen 0
      have y1 := Y7.frozen 1
      have y2 := Y7.frozen 2
      clear Y6 Y7 H6 G6 L6 b7
      generalize hL up es e = L at *
      have HFF : Hid (RetHr (hearS ⟨es, sf, up⟩ e) (hearB ⟨es, sf, up⟩ e) w (.returned (.tuple #[.agg #[.slice a6 L.length c6, .int .i64 sf, .bool up], .bool (hcount up es e == 1)])) (((w7.setCell ⟨w.heap.size + 1 + 1, 0, none⟩ (.slice a6 L.length c6)).setCell ⟨w.heap.size + 1 + 1, 1, none⟩ (.int .i64 sf)).setCell ⟨w.heap.size + 1 + 1, 2, none⟩ (.bool up))) := by
        unfold Hid; rw [HQ.out.1, HQ.out.2, HR2.out]
        exact ⟨_, _, rfl, (((G7.put' hne7 _).put' hne7 _).put' hne7 _).base hbase, below_given3 L7 (by omega) _ _ _⟩
      clear HQ HR1 HR2 G7
      generalize hcount up es e = hn at *
      go_wp2
      exact bodyPost_ret (v := .tuple #[.agg #[.slice a6 L.length c6, .int .i64 sf, .bool up], .bool (hn == 1)]) (by simp [results, Tryd.results29, go_sem, d0, d1, d2]) rfl HFF.out
  · have HFO : Hid (hearOk ⟨es, sf, up⟩ e = false) := by unfold Hid; rw [HOK.out, hsb]; rfl
    skip
    have L2 := hb0.trans (b2.mono hb0.size)
    have Y3 := (Y0.below b2 Y0.lt).alloc (.cells #[.slice none 0 0, .int .i64 0, .slice none 0 0, .bool false] 92)
    have L3 := L2.alloc L2.size (.cells #[.slice none 0 0, .int .i64 0, .slice none 0 0, .bool false] 92)
    clear hsb x0 x1 x2 X0 Y0 L2 b2 HH
    go_upto_region 2 with fail
    generalize w2.alloc (.cells #[.slice none 0 0, .int .i64 0, .slice none 0 0, .bool false] 92) = w3 at *
    have d0 := Y3.cell 0 rfl
    have d1 := Y3.cell 1 rfl
    have d2 := Y3.cell 2 rfl
    have y0 := Y3.frozen 0
    have y1 := Y3.frozen 1
    have y2 := Y3.frozen 2
    clear Y3
    go_wp2
    exact bodyPost_ret (v := .tuple #[.agg #[.slice none 0 0, .int .i64 0, .bool false], .bool false]) (by simp [results, Tryd.results29, go_sem, d0, d1, d2]) rfl (retHr_zero HFO.out (by omega) L3 _ _ _)
end Go.Proofs.YtoofdhooinaneaaDoor
