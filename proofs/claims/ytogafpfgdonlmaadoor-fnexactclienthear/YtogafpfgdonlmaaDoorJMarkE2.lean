/-
  The laws' own helpers markEntryS and heldEntryS from any number on: what is marked is held. Conditions: as each theorem says.
-/
import Derived.Test.YtogafpfgdonlmaaDoorGN
namespace Go.Proofs.YtogafpfgdonlmaaDoor
open Go.ChangeShapes Go.WideShapes Go.ChangeAt Go.RowKit Go.Joins

def mentS (s i : Nat) : EntD := ⟨(i : Int) * 7 + s, (i : Int) * 7 + s + 1, ⟨(i : Int) * 7 + s + 2, (i : Int) * 7 + s + 3, (i : Int) * 7 + s + 4, (i : Int) * 7 + s + 5, mtB (i * 7 + s + 6)⟩⟩
def mentsS (s n : Nat) : List EntD := (List.range n).map (mentS s)
theorem mentsS_len (s n : Nat) : (mentsS s n).length = n := by simp [mentsS]
theorem mentsS_at {s n i : Nat} (h : i < n) : eat (mentsS s n) i = mentS s i := by simp [eat, mentsS, List.getD_eq_getElem?_getD, h]
theorem mentS_eq {s k : Nat} {z : Int} (hz : z = (k : Int) * 7 + s) : mentS s k = ⟨z, z + 1, ⟨z + 1 + 1, z + 1 + 1 + 1, z + 1 + 1 + 1 + 1, z + 1 + 1 + 1 + 1 + 1, mtB (k * 7 + s + 6)⟩⟩ := by
  subst hz; unfold mentS; congr 1 <;> (try congr 1) <;> omega
set_option maxRecDepth 100000 in
set_option maxHeartbeats 2000000 in
theorem markEntryS_exCS (s : Nat) (hs1 : 1 ≤ s) (g C cap : Nat) (es : List EntD) (hs2 : s + es.length * 7 ≤ 9990000) (w : World) (h : OwnEC w g C es) (_hl : es.length ≤ 1048576) :
    Calls Tryd.prog 19 #[.slice (some ⟨g, 0, none⟩) es.length cap, .int .i64 (s : Int)] w (fun e w' => e = .returned (.int .i64 ((es.length : Int) * 7 + (s : Int))) ∧ OwnEC w' g C (mentsS s es.length) ∧ But g w.heap.size w w') := by
  obtain ⟨f0, hf0, hC, _⟩ := h
  go_enter Tryd.func19, Tryd.ntmps19
  go_wp2_with fail
  go_loopw [1, 5] (fun m t wr => ∃ (k : Nat) (z : Int) (f : Nat → Value), k ≤ es.length ∧ t = .int .i64 k ∧ m = .int .i64 z ∧ Hid (z = (k : Int) * 7 + (s : Int)) ∧ 1 ≤ z ∧ z ≤ 9999000 ∧ wr.rowIs g 55 C f ∧ Hid (EntsF f (mentsS s es.length) k) ∧ But g w.heap.size w wr) (fun _ t _ => es.length - (intOf t).toNat)
  case atStart => exact ⟨0, (s : Int), f0, Nat.zero_le _, rfl, rfl, (by unfold Hid; omega), by omega, by omega, hf0, fun i hi => by omega, But.refl _ _ _⟩
  case round =>
    obtain ⟨k, z, f, hk, rfl, rfl, hz, z0, z1, hrow, hF, hb⟩ := hrel
    have hgw := hrow.lt
    by_cases hlt : k < es.length
    · have i1 : (k : Int) < (es.length : Int) := by omega
      have HF := Lib.hid (entsF_set ⟨z, z + 1, ⟨z + 1 + 1, z + 1 + 1 + 1, z + 1 + 1 + 1 + 1, z + 1 + 1 + 1 + 1 + 1, mtB (k * 7 + s + 6)⟩⟩ ((mentsS_at hlt).trans (mentS_eq hz.out)) hF.out)
      clear hF
      have d0 := hrow.cell (show k * 7 < _ by omega)
      have y0 := hrow.frozen (k * 7)
      have d1 := hrow.cell (show k * 7 + 1 < _ by omega)
      have y1 := hrow.frozen (k * 7 + 1)
      have d2 := hrow.cell (show k * 7 + 2 < _ by omega)
      have y2 := hrow.frozen (k * 7 + 2)
      have d3 := hrow.cell (show k * 7 + 3 < _ by omega)
      have y3 := hrow.frozen (k * 7 + 3)
      have d4 := hrow.cell (show k * 7 + 4 < _ by omega)
      have y4 := hrow.frozen (k * 7 + 4)
      have d5 := hrow.cell (show k * 7 + 5 < _ by omega)
      have y5 := hrow.frozen (k * 7 + 5)
      have HB : But g w.heap.size w ((((((wr.setCell ⟨g, k * 7, none⟩ (.int .i64 z)).setCell ⟨g, k * 7 + 1, none⟩ (.int .i64 (z + 1))).setCell ⟨g, k * 7 + 2, none⟩ (.int .i64 (z + 1 + 1))).setCell ⟨g, k * 7 + 3, none⟩ (.int .i64 (z + 1 + 1 + 1))).setCell ⟨g, k * 7 + 4, none⟩ (.int .i64 (z + 1 + 1 + 1 + 1))).setCell ⟨g, k * 7 + 5, none⟩ (.int .i64 (z + 1 + 1 + 1 + 1 + 1))) := ((((((hb.setCell (k * 7) _).setCell (k * 7 + 1) _).setCell (k * 7 + 2) _).setCell (k * 7 + 3) _).setCell (k * 7 + 4) _).setCell (k * 7 + 5) _)
      have HR := ((((((hrow.set (k * 7) (.int .i64 z)).set (k * 7 + 1) (.int .i64 (z + 1))).set (k * 7 + 2) (.int .i64 (z + 1 + 1))).set (k * 7 + 3) (.int .i64 (z + 1 + 1 + 1))).set (k * 7 + 4) (.int .i64 (z + 1 + 1 + 1 + 1))).set (k * 7 + 5) (.int .i64 (z + 1 + 1 + 1 + 1 + 1)))
      have hsz : ((((((wr.setCell ⟨g, k * 7, none⟩ (.int .i64 z)).setCell ⟨g, k * 7 + 1, none⟩ (.int .i64 (z + 1))).setCell ⟨g, k * 7 + 2, none⟩ (.int .i64 (z + 1 + 1))).setCell ⟨g, k * 7 + 3, none⟩ (.int .i64 (z + 1 + 1 + 1))).setCell ⟨g, k * 7 + 4, none⟩ (.int .i64 (z + 1 + 1 + 1 + 1))).setCell ⟨g, k * 7 + 5, none⟩ (.int .i64 (z + 1 + 1 + 1 + 1 + 1))).heap.size = wr.heap.size := by simp [World.setCell]
      have HM := Lib.hid (markText_ex (k * 7 + s + 6) ((((((wr.setCell ⟨g, k * 7, none⟩ (.int .i64 z)).setCell ⟨g, k * 7 + 1, none⟩ (.int .i64 (z + 1))).setCell ⟨g, k * 7 + 2, none⟩ (.int .i64 (z + 1 + 1))).setCell ⟨g, k * 7 + 3, none⟩ (.int .i64 (z + 1 + 1 + 1))).setCell ⟨g, k * 7 + 4, none⟩ (.int .i64 (z + 1 + 1 + 1 + 1))).setCell ⟨g, k * 7 + 5, none⟩ (.int .i64 (z + 1 + 1 + 1 + 1 + 1))) (by omega))
      rw [show (((k * 7 + s + 6 : Nat) : Int)) = z + 1 + 1 + 1 + 1 + 1 + 1 by have := hz.out; omega] at HM
      have HZ2 : Hid (z + 1 + 1 + 1 + 1 + 1 + 1 + 1 = ((k + 1 : Nat) : Int) * 7 + (s : Int)) := by have := hz.out; unfold Hid; omega
      have z2 : z + 1 + 1 + 1 + 1 + 1 + 1 + 1 ≤ 9999000 := by have := hz.out; omega
      generalize f (k * 7) = v0 at d0
      generalize f (k * 7 + 1) = v1 at d1
      generalize f (k * 7 + 2) = v2 at d2
      generalize f (k * 7 + 3) = v3 at d3
      generalize f (k * 7 + 4) = v4 at d4
      generalize f (k * 7 + 5) = v5 at d5
      clear hz
      go_upto_region 16 with fail
      generalize ((((((wr.setCell ⟨g, k * 7, none⟩ (.int .i64 z)).setCell ⟨g, k * 7 + 1, none⟩ (.int .i64 (z + 1))).setCell ⟨g, k * 7 + 2, none⟩ (.int .i64 (z + 1 + 1))).setCell ⟨g, k * 7 + 3, none⟩ (.int .i64 (z + 1 + 1 + 1))).setCell ⟨g, k * 7 + 4, none⟩ (.int .i64 (z + 1 + 1 + 1 + 1))).setCell ⟨g, k * 7 + 5, none⟩ (.int .i64 (z + 1 + 1 + 1 + 1 + 1))) = W6 at *
      clear d0 y0 d1 y1 d2 y2 d3 y3 d4 y4 d5 y5
      go_wp2_with fail
      refine HM.out.mono ?_
      rintro e w1 ⟨rfl, hb1⟩
      rw [hsz] at hb1
      have hrow1 := HR.of_block (hb1.block g hgw)
      have hbw1 : But g w.heap.size w w1 := HB.trans ((But.of_below hb1).mono hb.size)
      have d6 := hrow1.cell (show k * 7 + 6 < _ by omega)
      have y6 := hrow1.frozen (k * 7 + 6)
      generalize hmt : mtB (k * 7 + s + 6) = mt at *
      have HR1 := Lib.hid (hrow1.set (k * 7 + 6) (.string mt))
      have HB1 := Lib.hid (hbw1.setCell (k * 7 + 6) (.string mt))
      clear HR HB hb1 hsz hmt HM hrow1
      go_wp2
      go_roundw
      case rel => exact ⟨k + 1, _, _, by omega, by go_num, rfl, HZ2, by omega, z2, HR1.out, HF, HB1.out⟩
      case measure => simp [intOf]; omega
    · obtain rfl : k = es.length := by omega
      go_wp2
      go_ret
      exact ⟨by rw [hz.out]; rfl, ⟨f, hrow, by rw [mentsS_len]; exact hC, by rw [mentsS_len]; exact hF.out⟩, hb⟩
theorem markEntryS_nilS (s : Nat) (a : Option Addr) (cap : Nat) (w : World) :
    Calls Tryd.prog 19 #[.slice a 0 cap, .int .i64 (s : Int)] w (fun e w' => e = .returned (.int .i64 (s : Int)) ∧ w = w') := by
  go_enter Tryd.func19, Tryd.ntmps19
  go_wp2_with fail
  go_loopw [1, 5] (fun m t wr => m = .int .i64 (s : Int) ∧ t = .int .i64 0 ∧ wr = w) (fun _ _ _ => 0)
  case atStart => exact ⟨rfl, rfl, rfl⟩
  case round =>
    obtain ⟨rfl, rfl, rfl⟩ := hrel
    go_wp2
    go_ret
    exact ⟨rfl, rfl⟩
theorem markEntryS_gotS (s : Nat) (hs1 : 1 ≤ s) (base : Nat) (a : Option Addr) (cap : Nat) (es : List EntD) (hs2 : s + es.length * 7 ≤ 9990000) (w : World) (hb : base ≤ w.heap.size) (h : GotE base w a es) (_hl : es.length ≤ 1048576) :
    Calls Tryd.prog 19 #[.slice a es.length cap, .int .i64 (s : Int)] w (fun e w' => e = .returned (.int .i64 ((es.length : Int) * 7 + (s : Int))) ∧ GotE base w' a (mentsS s es.length) ∧ Below base w w') := by
  rcases h with h | ⟨g, C, rfl, hg, ho⟩
  · rw [h]
    refine (markEntryS_nilS s a cap w).mono ?_
    rintro e w' ⟨rfl, rfl⟩
    exact ⟨(by simp), .inl rfl, Below.refl _ _⟩
  · refine (markEntryS_exCS s hs1 g C cap es hs2 w ho _hl).mono ?_
    rintro e w' ⟨rfl, h1, h2⟩
    exact ⟨rfl, .inr ⟨g, C, rfl, hg, h1⟩, h2.below hg hb⟩
def RetHeldS (s n : Nat) (w : World) (e : Ending) (w' : World) : Prop := e = .returned (.int .i64 ((n : Int) * 7 + (s : Int))) ∧ Below w.heap.size w w'
set_option maxRecDepth 100000 in
set_option maxHeartbeats 2000000 in
theorem heldEntryS_exS (s : Nat) (hs1 : 1 ≤ s) (B : Nat) (a : Option Addr) (cap n : Nat) (hs2 : s + n * 7 ≤ 9990000) (w : World) (hB : B ≤ w.heap.size) (h : EntsAt B w a (mentsS s n)) (_hl : n ≤ 1048576) :
    Calls Tryd.prog 31 #[.slice a n cap, .int .i64 (s : Int)] w (RetHeldS s n w) := by
  go_enter Tryd.func31, Tryd.ntmps31
  go_wp2_with fail
  go_loopw [1, 5] (fun m t wr => ∃ (k : Nat) (z : Int), k ≤ n ∧ t = .int .i64 k ∧ m = .int .i64 z ∧ Hid (z = (k : Int) * 7 + (s : Int)) ∧ 1 ≤ z ∧ z ≤ 9999000 ∧ Below w.heap.size w wr) (fun _ t _ => n - (intOf t).toNat)
  case atStart => exact ⟨0, (s : Int), Nat.zero_le _, rfl, rfl, (by unfold Hid; omega), by omega, by omega, Below.refl _ _⟩
  case round =>
    obtain ⟨k, z, hk, rfl, rfl, hz, z0, z1, hb⟩ := hrel
    have hr := h.below (hb.mono hB)
    by_cases hlt : k < n
    · obtain ⟨b, off, rfl, hbB, c0, c1, c2, c3, c4, c5, c6⟩ := hr.at_ (show k < (mentsS s n).length by rw [mentsS_len]; exact hlt)
      rw [mentsS_at hlt, mentS_eq hz.out] at c0 c1 c2 c3 c4 c5 c6
      simp only at c0 c1 c2 c3 c4 c5 c6
      have i1 : (k : Int) < (n : Int) := by omega
      have hbw : b < wr.heap.size := by have := hb.size; omega
      have HM : Hid (∀ u : World, Calls Tryd.prog 40 #[.int .i64 (z + 1 + 1 + 1 + 1 + 1 + 1)] u (RetBelow (.string (mtB (k * 7 + s + 6))) u)) := fun u => by
        have hm := markText_ex (k * 7 + s + 6) u (by omega)
        rw [show (((k * 7 + s + 6 : Nat) : Int)) = z + 1 + 1 + 1 + 1 + 1 + 1 by have := hz.out; omega] at hm
        exact hm
      have HZ2 : Hid (z + 1 + 1 + 1 + 1 + 1 + 1 + 1 = ((k + 1 : Nat) : Int) * 7 + (s : Int)) := by have := hz.out; unfold Hid; omega
      have z2 : z + 1 + 1 + 1 + 1 + 1 + 1 + 1 ≤ 9999000 := by have := hz.out; omega
      have L6 := later_cell c6 hbw
      generalize hmt : mtB (k * 7 + s + 6) = mt at *
      clear hmt hz hr
      go_wp2_with fail
      refine wp_region_later (by kernel_rfl) (by kernel_rfl) ?_
      repeat (go_big_quiet_step ((go_at_call 40; exact later_of (HM.out _))))
      refine wpQuiet_nil ?_
      rintro wn ⟨⟨_, hbn⟩, rfl⟩
      clear L6
      go_wp2
      go_roundw
      case rel => exact ⟨k + 1, _, by omega, by go_num, rfl, HZ2, by omega, z2, hb.trans (hbn.mono hb.size)⟩
      case measure => simp [intOf]; omega
    · obtain rfl : k = n := by omega
      go_wp2
      go_ret
      exact ⟨by rw [hz.out]; rfl, hb⟩
end Go.Proofs.YtogafpfgdonlmaaDoor
