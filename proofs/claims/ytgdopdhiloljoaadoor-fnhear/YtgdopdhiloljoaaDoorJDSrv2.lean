/-
  The model's drawings of servers: DrawServerSync, DrawServerOk, DrawServerFall. What is drawn is said loosely. Conditions: as each theorem says.
-/
import Derived.Test.YtgdopdhiloljoaaDoorJDSrv
namespace Go.Proofs.YtgdopdhiloljoaaDoor
open Go.ChangeShapes Go.WideShapes Go.ChangeAt Go.RowKit Go.Joins

/-- What holds while a server is drawn: the reader at block b, the result's box at R. -/
structure DS (N b q R : Nat) (w wx : World) (g oc : Nat) (es : List EntD) : Prop where
  logs : Logs w wx g oc es
  res : Bx wx R 35 #[.slice none 0 0, .int .i64 0, .bool false]
  rd : Rd N wx b q
  lo : w.heap.size ≤ R
  lt : R < b
  bg : b < g
theorem DS.more {N b q q' R : Nat} {w wx wy : World} {g oc : Nat} {es : List EntD} (h : DS N b q R w wx g oc es) (hb : But b wx.heap.size wx wy) (hr : Rd N wy b q') : DS N b q' R w wy g oc es :=
  ⟨h.logs.more hb (Nat.le_trans h.lo (Nat.le_of_lt h.lt)) h.bg, h.res.but hb h.res.lt (by have := h.lt; omega), hr, h.lo, h.lt, h.bg⟩
theorem DS.below {N b q R : Nat} {w wx wy : World} {g oc : Nat} {es : List EntD} (h : DS N b q R w wx g oc es) (hb : Below wx.heap.size wx wy) : DS N b q R w wy g oc es :=
  ⟨h.logs.below hb, h.res.below hb h.res.lt, h.rd.below hb h.rd.2.1, h.lo, h.lt, h.bg⟩
theorem DS.up {N b q q' R : Nat} {w wx : World} {g oc : Nat} {es : List EntD} (h : DS N b q R w wx g oc es) (hq : q ≤ q') : DS N b q' R w wx g oc es := ⟨h.logs, h.res, h.rd.mono hq, h.lo, h.lt, h.bg⟩
theorem Logs.putL {w wx : World} {g oc k B : Nat} {es : List EntD} (h : Logs w wx g oc es) (hB : w.heap.size ≤ B) (hne : g ≠ B) (v : Value) : Logs w (wx.setCell ⟨B, k, none⟩ v) g oc es :=
  ⟨h.len, h.ents, own_putB h.own hne v, h.lo, by have := h.hi; simpa [World.setCell] using this, h.low.setCell (p := ⟨B, k, none⟩) hB v⟩
def SfOk (sf : Int) : Prop := -99 ≤ sf ∧ sf ≤ 99
def RetDS (w : World) (r : Ending) (w' : World) : Prop := ∃ g oc es sf up, r = .returned (.agg #[.slice (some ⟨g, 0, none⟩) es.length oc, .int .i64 sf, .bool up]) ∧ SfOk sf ∧ Logs w w' g oc es
def RetDSi (w : World) (r : Ending) (w' : World) : Prop := ∃ g oc es sf up n, r = .returned (.tuple #[.agg #[.slice (some ⟨g, 0, none⟩) es.length oc, .int .i64 sf, .bool up], .int .i64 n]) ∧ SfOk sf ∧ SfOk n ∧ Logs w w' g oc es
theorem DS.done {N b q R : Nat} {w wx : World} {g oc : Nat} {es : List EntD} (h : DS N b q R w wx g oc es) (v0 v1 v2 : Value) : Logs w (((wx.setCell ⟨R, 0, none⟩ v0).setCell ⟨R, 1, none⟩ v1).setCell ⟨R, 2, none⟩ v2) g oc es := by
  have hne : g ≠ R := by have := h.lt; have := h.bg; omega
  exact ((h.logs.putL h.lo hne v0).putL h.lo hne v1).putL h.lo hne v2
/-- Opened, and a server drawn. -/
theorem ds_of {N b p R : Nat} {w w1 w2 : World} {r : Ending} (h : DrewSrv N b p w1 r w2) (hb : Below w.heap.size w w1) (hR : Bx w1 R 35 #[.slice none 0 0, .int .i64 0, .bool false]) (hlo : w.heap.size ≤ R) (hlt : R < b) (hbw : b < w1.heap.size) : ∃ g oc es sf up, r = .returned (.agg #[.slice (some ⟨g, 0, none⟩) es.length oc, .int .i64 sf, .bool up]) ∧ 0 ≤ sf ∧ sf ≤ 15 ∧ es.length ≤ 14 ∧ DS N b p R w w2 g oc es := by
  obtain ⟨g, oc, es, sf, up, rfl, hl, he, h0, h1, ho, hg1, hg2, h3, h4⟩ := h
  exact ⟨g, oc, es, sf, up, rfl, h0, h1, hl, ⟨⟨by omega, he, own_mono ho hb.size, Nat.le_trans hb.size hg1, hg2, hb.trans (h3.below (by omega) hb.size)⟩, hR.but h3 hR.lt (by omega), h4, hlo, hlt, by omega⟩⟩
set_option maxRecDepth 100000 in
set_option maxHeartbeats 2000000 in
theorem drawServerSync_any (a : Option Addr) (len cap : Nat) (w : World) (hb : Bytes w a len cap) :
    Calls Tryd.prog 28 #[.slice a len cap] w (RetDS w) := by
  obtain ⟨h1, h2, h3⟩ := hb
  have al := (Below.refl w.heap.size w).alloc (Nat.le_refl _) (.cells #[.slice none 0 0, .int .i64 0, .bool false] 35)
  have Y0 := Bx.new w 35 #[.slice none 0 0, .int .i64 0, .bool false]
  have hsz : (w.alloc (.cells #[.slice none 0 0, .int .i64 0, .bool false] 35)).heap.size = w.heap.size + 1 := by simp
  have HO := Lib.hid (l6Open_any w.heap.size a len cap (w.alloc (.cells #[.slice none 0 0, .int .i64 0, .bool false] 35)) al.size h1 h2 (h3.below al))
  go_enter Tryd.func28, Tryd.ntmps28
  go_wp2_with fail
  refine HO.out.mono ?_
  rintro _ w1 ⟨rfl, b1, s1, r1⟩
  have L1 := al.trans (b1.mono al.size)
  have Y1 := Y0.below b1 Y0.lt
  rw [hsz] at s1 r1
  clear hsz HO al Y0 b1
  go_wp2_with fail
  refine (l72Server_any _ _ _ _ r1 (by omega) L1.size).mono ?_
  rintro _ w2 hd
  obtain ⟨g, oc, es, sf, up, rfl, sf0, sf1, hl14, D2⟩ := ds_of hd L1 Y1 (Nat.le_refl _) (by omega) (by have := r1.2.1; omega)
  clear hd L1 Y1 r1
  have d0 := D2.res.cell 0 rfl
  have d1 := D2.res.cell 1 rfl
  have d2 := D2.res.cell 2 rfl
  have y0 := D2.res.frozen 0
  have y1 := D2.res.frozen 1
  have y2 := D2.res.frozen 2
  have HF := Lib.hid (D2.done (.slice (some ⟨g, 0, none⟩) es.length oc) (.int .i64 sf) (.bool up))
  clear D2
  go_wp2
  exact bodyPost_ret (v := .agg #[.slice (some ⟨g, 0, none⟩) es.length oc, .int .i64 sf, .bool up]) (by simp [results, Tryd.results28, go_sem, d0, d1, d2]) rfl ⟨g, oc, es, sf, up, rfl, ⟨by omega, by omega⟩, HF.out⟩
set_option maxRecDepth 100000 in
set_option maxHeartbeats 2000000 in
theorem drawServerFall_any (a : Option Addr) (len cap : Nat) (w : World) (hb : Bytes w a len cap) :
    Calls Tryd.prog 32 #[.slice a len cap] w (RetDSi w) := by
  obtain ⟨h1, h2, h3⟩ := hb
  have al := (Below.refl w.heap.size w).alloc (Nat.le_refl _) (.cells #[.slice none 0 0, .int .i64 0, .bool false] 35)
  have Y0 := Bx.new w 35 #[.slice none 0 0, .int .i64 0, .bool false]
  have hsz : (w.alloc (.cells #[.slice none 0 0, .int .i64 0, .bool false] 35)).heap.size = w.heap.size + 1 := by simp
  have HO := Lib.hid (l6Open_any w.heap.size a len cap (w.alloc (.cells #[.slice none 0 0, .int .i64 0, .bool false] 35)) al.size h1 h2 (h3.below al))
  go_enter Tryd.func32, Tryd.ntmps32
  go_wp2_with fail
  refine HO.out.mono ?_
  rintro _ w1 ⟨rfl, b1, s1, r1⟩
  have L1 := al.trans (b1.mono al.size)
  have Y1 := Y0.below b1 Y0.lt
  rw [hsz] at s1 r1
  clear hsz HO al Y0 b1
  go_wp2_with fail
  refine (l72Server_any _ _ _ _ r1 (by omega) L1.size).mono ?_
  rintro _ w2 hd
  obtain ⟨g, oc, es, sf, up, rfl, sf0, sf1, hl14, D2⟩ := ds_of hd L1 Y1 (Nat.le_refl _) (by omega) (by have := r1.2.1; omega)
  clear hd L1 Y1 r1
  go_wp2_with fail
  refine (pick_any _ _ _ 6 _ D2.rd (by omega) (by omega) (by omega)).mono ?_
  rintro _ w3 ⟨k3, k30, k31, rfl, b3, s3, r3⟩
  have D3 := D2.more b3 r3
  clear D2 b3 s3 r3
  go_wp2_with fail
  refine (pick_any _ _ _ 24 _ D3.rd (by omega) (by omega) (by omega)).mono ?_
  rintro _ w4 ⟨k4, k40, k41, rfl, b4, s4, r4⟩
  have D4 := D3.more b4 r4
  clear D3 b4 s4 r4
  have d0 := D4.res.cell 0 rfl
  have d1 := D4.res.cell 1 rfl
  have d2 := D4.res.cell 2 rfl
  have y0 := D4.res.frozen 0
  have y1 := D4.res.frozen 1
  have y2 := D4.res.frozen 2
  have HF := Lib.hid (D4.done (.slice (some ⟨g, 0, none⟩) es.length oc) (.int .i64 sf) (.bool up))
  clear D4
  have hk5 : 0 ≤ k4 / 23 := by omega
  have hk6 : k4 / 23 ≤ 1 := by omega
  go_wp2
  exact bodyPost_ret (v := .tuple #[.agg #[.slice (some ⟨g, 0, none⟩) es.length oc, .int .i64 sf, .bool up], .int .i64 (k3 - k4 / 23 * 7)]) (by simp [results, Tryd.results32, go_sem, d0, d1, d2]) rfl ⟨g, oc, es, sf, up, _, rfl, ⟨by omega, by omega⟩, ⟨by omega, by omega⟩, HF.out⟩
set_option maxRecDepth 100000 in
set_option maxHeartbeats 2000000 in
theorem drawServerOk_any (a : Option Addr) (len cap : Nat) (w : World) (hb : Bytes w a len cap) :
    Calls Tryd.prog 39 #[.slice a len cap] w (RetDS w) := by
  obtain ⟨h1, h2, h3⟩ := hb
  have al := (Below.refl w.heap.size w).alloc (Nat.le_refl _) (.cells #[.slice none 0 0, .int .i64 0, .bool false] 35)
  have Y0 := Bx.new w 35 #[.slice none 0 0, .int .i64 0, .bool false]
  have hsz : (w.alloc (.cells #[.slice none 0 0, .int .i64 0, .bool false] 35)).heap.size = w.heap.size + 1 := by simp
  have HO := Lib.hid (l6Open_any w.heap.size a len cap (w.alloc (.cells #[.slice none 0 0, .int .i64 0, .bool false] 35)) al.size h1 h2 (h3.below al))
  go_enter Tryd.func39, Tryd.ntmps39
  go_wp2_with fail
  refine HO.out.mono ?_
  rintro _ w1 ⟨rfl, b1, s1, r1⟩
  have L1 := al.trans (b1.mono al.size)
  have Y1 := Y0.below b1 Y0.lt
  rw [hsz] at s1 r1
  clear hsz HO al Y0 b1
  go_wp2_with fail
  refine (l72Server_any _ _ _ _ r1 (by omega) L1.size).mono ?_
  rintro _ w2 hd
  obtain ⟨g, oc, es, sf, up, rfl, sf0, sf1, hl14, D2⟩ := ds_of hd L1 Y1 (Nat.le_refl _) (by omega) (by have := r1.2.1; omega)
  clear hd L1 Y1 r1
  have al2 := (Below.refl w2.heap.size w2).alloc (Nat.le_refl _) (.cells #[.slice (some ⟨g, 0, none⟩) es.length oc, .int .i64 sf, .bool up] 35)
  have D3 := D2.below al2
  have Z3 := Bx.new w2 35 #[.slice (some ⟨g, 0, none⟩) es.length oc, .int .i64 sf, .bool up]
  have hzb : w.heap.size + 1 < w2.heap.size := D2.rd.2.1
  have hzg : g < w2.heap.size := D2.logs.hi
  clear D2 al2
  go_upto_region 3 with fail
  generalize (w2.alloc (.cells #[.slice (some ⟨g, 0, none⟩) es.length oc, .int .i64 sf, .bool up] 35)) = w3 at *
  generalize w2.heap.size = B at *
  go_wp2_with fail
  refine (pick_any _ _ _ 5 _ D3.rd (by omega) (by omega) (by omega)).mono ?_
  rintro _ w4 ⟨k4, k40, k41, rfl, b4, s4, r4⟩
  have D4 := D3.more b4 r4
  have Z4 := Z3.but b4 Z3.lt (by omega)
  clear D3 Z3 b4 s4 r4
  by_cases hq : k4 = 0
  · subst hq
    go_wp2_with fail
    refine (pick_any _ _ _ 12 _ D4.rd (by omega) (by omega) (by omega)).mono ?_
    rintro _ w5 ⟨k5, k50, k51, rfl, b5, s5, r5⟩
    have D5 := D4.more b5 r5
    have Z5 := Z4.but b5 Z4.lt (by omega)
    clear D4 Z4 b5 s5 r5
    obtain ⟨z0, z1, z2⟩ := Z5.srv
    have f1 := Z5.frozen 1
    have Z6 : Bx (w5.setCell ⟨B, 1, none⟩ (.int .i64 (k5 - 1))) B 35 #[.slice (some ⟨g, 0, none⟩) es.length oc, .int .i64 (k5 - 1), .bool up] := Z5.put 1 _
    have D6 : DS w.heap.size (w.heap.size + 1) 2000 w.heap.size w (w5.setCell ⟨B, 1, none⟩ (.int .i64 (k5 - 1))) g oc es := ⟨D5.logs.putL (by omega) (by omega) _, D5.res.other (by omega) _, rd_putB (D5.rd.mono (by omega)) (by omega) (by omega), D5.lo, D5.lt, D5.bg⟩
    clear D5 Z5
    go_upto_region 5 with fail
    generalize w5.setCell ⟨B, 1, none⟩ (.int .i64 (k5 - 1)) = w6 at *
    clear z0 z1 z2 f1
    obtain ⟨z0, z1, z2⟩ := Z6.srv
    have d0 := D6.res.cell 0 rfl
    have d1 := D6.res.cell 1 rfl
    have d2 := D6.res.cell 2 rfl
    have y0 := D6.res.frozen 0
    have y1 := D6.res.frozen 1
    have y2 := D6.res.frozen 2
    have HF := Lib.hid (D6.done (.slice (some ⟨g, 0, none⟩) es.length oc) (.int .i64 (k5 - 1)) (.bool up))
    clear D6 Z6
    go_wp2
    exact bodyPost_ret (v := .agg #[.slice (some ⟨g, 0, none⟩) es.length oc, .int .i64 (k5 - 1), .bool up]) (by simp [results, Tryd.results39, go_sem, d0, d1, d2]) rfl ⟨g, oc, es, _, up, rfl, ⟨by omega, by omega⟩, HF.out⟩
  · have hqb : (k4 == 0) = false := by simpa using hq
    obtain ⟨z0, z1, z2⟩ := Z4.srv
    have d0 := D4.res.cell 0 rfl
    have d1 := D4.res.cell 1 rfl
    have d2 := D4.res.cell 2 rfl
    have y0 := D4.res.frozen 0
    have y1 := D4.res.frozen 1
    have y2 := D4.res.frozen 2
    have HF := Lib.hid (D4.done (.slice (some ⟨g, 0, none⟩) es.length oc) (.int .i64 sf) (.bool up))
    clear D4 Z4
    go_wp2
    exact bodyPost_ret (v := .agg #[.slice (some ⟨g, 0, none⟩) es.length oc, .int .i64 sf, .bool up]) (by simp [results, Tryd.results39, go_sem, d0, d1, d2]) rfl ⟨g, oc, es, sf, up, rfl, ⟨by omega, by omega⟩, HF.out⟩
end Go.Proofs.YtgdopdhiloljoaaDoor
