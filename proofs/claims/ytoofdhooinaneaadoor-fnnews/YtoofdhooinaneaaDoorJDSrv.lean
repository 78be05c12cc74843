/-
  The model's drawings of servers: l72Server, DrawServerSync, DrawServerOk, DrawServerFall, and the laws' lpServer, lpBegins. What is drawn is said loosely: how long, and in what bounds. Conditions: as each theorem says.
-/
import Derived.Test.YtoofdhooinaneaaDoorGR
import Derived.Test.YtoofdhooinaneaaDoorGT
import Derived.Test.YtoofdhooinaneaaDoorJLpLog
namespace Go.Proofs.YtoofdhooinaneaaDoor
open Go.ChangeShapes Go.WideShapes Go.ChangeAt Go.RowKit Go.Joins

/-- A drawn server. -/
def DrewSrv (N b p : Nat) (w : World) (r : Ending) (w' : World) : Prop :=
  ∃ (g oc : Nat) (es : List EntD) (sf : Int) (up : Bool), r = .returned (.agg #[.slice (some ⟨g, 0, none⟩) es.length oc, .int .i64 sf, .bool up]) ∧ es.length ≤ 14 ∧ (∀ i, i < es.length → EntS (eat es i)) ∧ 0 ≤ sf ∧ sf ≤ 15 ∧ w'.ownsRow w.heap.size 52 7 (.slice (some ⟨g, 0, none⟩) es.length oc) es.length (cellsE es) ∧ w.heap.size ≤ g ∧ g < w'.heap.size ∧ But b w.heap.size w w' ∧ Rd N w' b p
/-- Rows of one's own stay when another block is written. -/
theorem own_putB {w : World} {base B j g n c k : Nat} {t : TypeId} {s : Nat} {xs : List Value} (h : w.ownsRow base t s (.slice (some ⟨g, 0, none⟩) n c) k xs) (hne : g ≠ B) (v : Value) : (w.setCell ⟨B, j, none⟩ v).ownsRow base t s (.slice (some ⟨g, 0, none⟩) n c) k xs := by
  obtain ⟨q1, q2⟩ := h
  refine ⟨q1, ?_⟩
  rcases q2 with q2 | ⟨g', cap, cur, hv, hg, hh, r⟩
  · exact .inl q2
  · cases hv
    exact .inr ⟨g, c, cur, rfl, hg, (Below.heap_setCell _ _ _ _ hne).trans hh, r⟩
theorem own_butB {w w' : World} {base b n g m c k : Nat} {t : TypeId} {s : Nat} {xs : List Value} (h : w.ownsRow base t s (.slice (some ⟨g, 0, none⟩) m c) k xs) (hb : But b n w w') (hn : g < n) (hne : g ≠ b) : w'.ownsRow base t s (.slice (some ⟨g, 0, none⟩) m c) k xs := by
  obtain ⟨q1, q2⟩ := h
  refine ⟨q1, ?_⟩
  rcases q2 with q2 | ⟨g', cap, cur, hv, hg, hh, r⟩
  · exact .inl q2
  · cases hv
    exact .inr ⟨g, c, cur, rfl, hg, (hb.block g hn hne).trans hh, r⟩
theorem rd_putB {N b q B k : Nat} {w : World} {v : Value} (h : Rd N w b q) (hne : b ≠ B) (hN : N ≤ B) : Rd N (w.setCell ⟨B, k, none⟩ v) b q := rd_put h hne hN
theorem but_new {b n B k : Nat} {w w' : World} (h : But b n w w') (hB : n ≤ B) (v : Value) : But b n w (w'.setCell ⟨B, k, none⟩ v) := h.setNew (p := ⟨B, k, none⟩) hB v
set_option maxRecDepth 100000 in
set_option maxHeartbeats 2000000 in
theorem l72Server_any (N b p : Nat) (w : World) (hr : Rd N w b p) (hp : p < 900) (hN : N ≤ w.heap.size) :
    Calls Tryd.prog 52 #[.pointer (some ⟨b, 0, none⟩)] w (DrewSrv N b (p + 1003) w) := by
  have hbw := hr.2.1
  have hNb := hr.1
  have al := (Below.refl w.heap.size w).alloc (Nat.le_refl _) (.cells #[.slice none 0 0, .int .i64 0, .bool false] 43)
  have Y0 := Bx.new w 43 #[.slice none 0 0, .int .i64 0, .bool false]
  have r0 := hr.below al hbw
  have hs0 : (w.alloc (.cells #[.slice none 0 0, .int .i64 0, .bool false] 43)).heap.size = w.heap.size + 1 := by simp
  have al0 := But.of_below (b := b) al
  go_enter Tryd.func52, Tryd.ntmps52
  go_upto_region 1 with fail
  generalize w.alloc (.cells #[.slice none 0 0, .int .i64 0, .bool false] 43) = w0 at *
  clear al
  go_wp2_with fail
  refine (l72Log_any N b p w0 r0 (by omega) (by omega)).mono ?_
  rintro _ w1 ⟨g, oc, es, rfl, hl, hes, ho, hg1, hg2, hbut, r1⟩
  have Y1 := Y0.but hbut Y0.lt (by omega)
  have B1 := al0.trans (hbut.mono (by omega))
  have O1 := own_mono ho (show w.heap.size ≤ w0.heap.size by omega)
  have hgw : w.heap.size + 1 ≤ g := by omega
  have HES := Lib.hid hes
  clear Y0 al0 ho hbut hes r0 hg1
  go_wp2_with fail
  refine (pick_any _ _ _ _ _ r1 (by omega) (by omega) (by omega)).mono ?_
  rintro _ w2 ⟨k2, k20, k21, rfl, b2, s2, r2⟩
  have Y2 := Y1.but b2 Y1.lt (by omega)
  have B2 := B1.trans (b2.mono B1.size)
  have O2 := own_butB O1 b2 hg2 (by omega)
  have hg22 : g < w2.heap.size := Nat.lt_of_lt_of_le hg2 b2.size
  clear Y1 B1 O1 b2 s2 r1 hg2
  obtain ⟨ub, hub⟩ : ∃ ub : Bool, ub = decide (0 < k2) := ⟨_, rfl⟩
  have al2 := (Below.refl w2.heap.size w2).alloc (Nat.le_refl _) (.cells #[.slice (some ⟨g, 0, none⟩) es.length oc, .int .i64 0, .bool ub] 43)
  have Y3 := Y2.below al2 Y2.lt
  have B3 := B2.trans (But.of_below (al2.mono B2.size))
  have O3 := own_below O2 al2
  have r3 := r2.below al2 r2.2.1
  have Z3 := Bx.new w2 43 #[.slice (some ⟨g, 0, none⟩) es.length oc, .int .i64 0, .bool ub]
  have hg23 : g < (w2.alloc (.cells #[.slice (some ⟨g, 0, none⟩) es.length oc, .int .i64 0, .bool ub] 43)).heap.size := Nat.lt_of_lt_of_le hg22 al2.size
  have hzb : b ≠ w2.heap.size := by have := r2.2.1; omega
  have hzg : g ≠ w2.heap.size := by omega
  have hzw : w.heap.size ≤ w2.heap.size := B2.size
  have hzr : w.heap.size ≠ w2.heap.size := by have := Y2.lt; omega
  have hzN : N ≤ w2.heap.size := by omega
  clear Y2 B2 O2 al2 r2 hg22
  subst hub
  go_upto_region 2 with fail
  generalize w2.alloc (.cells #[.slice (some ⟨g, 0, none⟩) es.length oc, .int .i64 0, .bool (decide (0 < k2))] 43) = w3 at *
  generalize w2.heap.size = B at *
  generalize decide (0 < k2) = ub at *
  obtain ⟨z0, z1, z2⟩ := Z3.srv
  go_wp2_with fail
  refine (pick_any _ _ _ ((es.length : Int) + 1) _ r3 (by omega) (by omega) (by omega)).mono ?_
  rintro _ w4 ⟨k4, k40, k41, rfl, b4, s4, r4⟩
  have Y4 := Y3.but b4 Y3.lt (by omega)
  have Z4 := Z3.but b4 Z3.lt (fun q => hzb q.symm)
  have B4 := B3.trans (b4.mono B3.size)
  have O4 := own_butB O3 b4 hg23 (by omega)
  have hg4 : g < w4.heap.size := Nat.lt_of_lt_of_le hg23 b4.size
  clear Y3 Z3 B3 O3 b4 s4 r3 hg23 z0 z1 z2
  go_wp2_with fail
  refine (pick_any _ _ _ _ _ r4 (by omega) (by omega) (by omega)).mono ?_
  rintro _ w5 ⟨k5, k50, k51, rfl, b5, s5, r5⟩
  have Y5 := Y4.but b5 Y4.lt (by omega)
  have Z5 := Z4.but b5 Z4.lt (fun q => hzb q.symm)
  have B5 := B4.trans (b5.mono B4.size)
  have O5 := own_butB O4 b5 hg4 (by omega)
  have hg5 : g < w5.heap.size := Nat.lt_of_lt_of_le hg4 b5.size
  clear Y4 Z4 B4 O4 b5 s5 r4 hg4
  obtain ⟨z0, z1, z2⟩ := Z5.srv
  have f1 := Z5.frozen 1
  have HP : Hid (∀ sf : Int, Bx (w5.setCell ⟨B, 1, none⟩ (.int .i64 sf)) B 43 #[.slice (some ⟨g, 0, none⟩) es.length oc, .int .i64 sf, .bool ub] ∧ Bx (w5.setCell ⟨B, 1, none⟩ (.int .i64 sf)) w.heap.size 43 #[.slice none 0 0, .int .i64 0, .bool false] ∧ But b w.heap.size w (w5.setCell ⟨B, 1, none⟩ (.int .i64 sf)) ∧ (w5.setCell ⟨B, 1, none⟩ (.int .i64 sf)).ownsRow w.heap.size 52 7 (.slice (some ⟨g, 0, none⟩) es.length oc) es.length (cellsE es) ∧ Rd N (w5.setCell ⟨B, 1, none⟩ (.int .i64 sf)) b (p + 1003) ∧ g < (w5.setCell ⟨B, 1, none⟩ (.int .i64 sf)).heap.size) := fun sf => ⟨Z5.put 1 _, Y5.other hzr _, but_new B5 hzw _, own_putB O5 hzg _, rd_putB (r5.mono (by omega)) hzb hzN, by simpa [World.setCell] using hg5⟩
  have HSF : Hid (0 ≤ k4 + k5 / 23 ∧ k4 + k5 / 23 ≤ 15) := by unfold Hid; omega
  clear Y5 Z5 B5 O5 hg5 r5
  go_upto_region 3 with fail
  obtain ⟨P1, P2, P3, P4, P5, P6⟩ := HP.out (k4 + k5 / 23)
  generalize k4 + k5 / 23 = sf at *
  generalize w5.setCell ⟨B, 1, none⟩ (.int .i64 sf) = w6 at *
  clear HP z0 z1 z2 f1
  obtain ⟨z0, z1, z2⟩ := P1.srv
  obtain ⟨d0, d1, d2⟩ := P2.srv
  have y0 := P2.frozen 0
  have y1 := P2.frozen 1
  have y2 := P2.frozen 2
  have hgr : g ≠ w.heap.size := by omega
  have hbr : b ≠ w.heap.size := by omega
  have HF : Hid (DrewSrv N b (p + 1003) w (.returned (.agg #[.slice (some ⟨g, 0, none⟩) es.length oc, .int .i64 sf, .bool ub])) (((w6.setCell ⟨w.heap.size, 0, none⟩ (.slice (some ⟨g, 0, none⟩) es.length oc)).setCell ⟨w.heap.size, 1, none⟩ (.int .i64 sf)).setCell ⟨w.heap.size, 2, none⟩ (.bool ub))) :=
    ⟨g, oc, es, sf, ub, rfl, hl, HES.out, HSF.out.1, HSF.out.2, own_putB (own_putB (own_putB P4 hgr _) hgr _) hgr _, by omega, by simpa [World.setCell] using P6, but_new (but_new (but_new P3 (Nat.le_refl _) _) (Nat.le_refl _) _) (Nat.le_refl _) _, rd_putB (rd_putB (rd_putB P5 hbr hN) hbr hN) hbr hN⟩
  clear P1 P2 P3 P4 P5 P6 HSF HES
  go_wp2
  exact bodyPost_ret (v := .agg #[.slice (some ⟨g, 0, none⟩) es.length oc, .int .i64 sf, .bool ub]) (by simp [results, Tryd.results52, go_sem, d0, d1, d2]) rfl HF.out
theorem lpServer_same (B : Nat) (a a' : Option Addr) (cap cap' : Nat) (es : List EntD) (sf : Int) (up : Bool) (w : World) (hB : B ≤ w.heap.size) (h : EntsAt B w a es) (h' : EntsAt B w a' es) (hl : es.length ≤ 1048576) :
    Calls Tryd.prog 30 #[.agg #[.slice a es.length cap, .int .i64 sf, .bool up], .agg #[.slice a' es.length cap', .int .i64 sf, .bool up]] w (RetBelow (.bool true) w) := by
  have hb0 : Below w.heap.size w (w.alloc (.cells #[.slice a es.length cap, .int .i64 sf, .bool up] 43)) := (Below.refl _ _).alloc (Nat.le_refl _) _
  have X0 := Bx.new w 43 #[.slice a es.length cap, .int .i64 sf, .bool up]
  have al := (Below.refl (w.alloc (.cells #[.slice a es.length cap, .int .i64 sf, .bool up] 43)).heap.size (w.alloc (.cells #[.slice a es.length cap, .int .i64 sf, .bool up] 43))).alloc (Nat.le_refl _) (.cells #[.slice a' es.length cap', .int .i64 sf, .bool up] 43)
  have X1 := X0.below al X0.lt
  have Y1 := Bx.new (w.alloc (.cells #[.slice a es.length cap, .int .i64 sf, .bool up] 43)) 43 #[.slice a' es.length cap', .int .i64 sf, .bool up]
  have hb1 := hb0.trans (al.mono hb0.size)
  have hs : (w.alloc (.cells #[.slice a es.length cap, .int .i64 sf, .bool up] 43)).heap.size = w.heap.size + 1 := by simp
  rw [hs] at Y1
  have HE := Lib.hid (lpLog_same B a a' cap cap' es _ (Nat.le_trans hB hb1.size) (h.below (hb1.mono hB)) (h'.below (hb1.mono hB)) hl)
  clear hb0 al X0 hs
  go_enter Tryd.func30, Tryd.ntmps30
  go_wp2_with fail
  refine HE.out.mono ?_
  rintro _ V ⟨rfl, hb2⟩
  have hV := hb1.trans (hb2.mono hb1.size)
  obtain ⟨x0, x1, x2⟩ := (X1.below hb2 X1.lt).srv
  obtain ⟨y0, y1, y2⟩ := (Y1.below hb2 Y1.lt).srv
  clear X1 Y1 HE hb1 hb2
  cases up
  · go_wp2
    go_ret
    exact ⟨rfl, hV⟩
  · go_wp2
    go_ret
    exact ⟨rfl, hV⟩
end Go.Proofs.YtoofdhooinaneaaDoor
