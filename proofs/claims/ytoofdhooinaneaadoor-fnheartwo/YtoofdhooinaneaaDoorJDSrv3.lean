/-
  The model's drawing of a server and an entry: DrawServerHear. What is drawn is said loosely. Conditions: as each theorem says.
-/
import Derived.Test.YtoofdhooinaneaaDoorJDSrv2
import Derived.Test.YtoofdhooinaneaaDoorJDLog4
namespace Go.Proofs.YtoofdhooinaneaaDoor
open Go.ChangeShapes Go.WideShapes Go.ChangeAt Go.RowKit Go.Joins

theorem code_mono {N N' : Nat} {w : World} {a : Option Addr} {len : Nat} (h : CodeAt N w a len) (hN : N ≤ N') : CodeAt N' w a len := by
  obtain ⟨h0, h | ⟨ab, ao, z, e, hl, hc⟩⟩ := h
  · exact ⟨h0, .inl h⟩
  · exact ⟨h0, .inr ⟨ab, ao, z, e, Nat.lt_of_lt_of_le hl hN, hc⟩⟩
theorem Logs.gs {w wx : World} {g oc : Nat} {es : List EntD} (h : Logs w wx g oc es) (h1 : g ≠ w.heap.size) (h2 : g ≠ w.heap.size + 1) (u0 u1 u2 v0 v1 v2 v3 v4 v5 v6 : Value) : Logs w ((((((((((wx.setCell ⟨w.heap.size, 0, none⟩ u0).setCell ⟨w.heap.size, 1, none⟩ u1).setCell ⟨w.heap.size, 2, none⟩ u2).setCell ⟨w.heap.size + 1, 0, none⟩ v0).setCell ⟨w.heap.size + 1, 1, none⟩ v1).setCell ⟨w.heap.size + 1, 2, none⟩ v2).setCell ⟨w.heap.size + 1, 3, none⟩ v3).setCell ⟨w.heap.size + 1, 4, none⟩ v4).setCell ⟨w.heap.size + 1, 5, none⟩ v5).setCell ⟨w.heap.size + 1, 6, none⟩ v6) g oc es := ((((((((((h.putL (Nat.le_refl _) h1 u0).putL (Nat.le_refl _) h1 u1).putL (Nat.le_refl _) h1 u2).putL (Nat.le_succ _) h2 v0).putL (Nat.le_succ _) h2 v1).putL (Nat.le_succ _) h2 v2).putL (Nat.le_succ _) h2 v3).putL (Nat.le_succ _) h2 v4).putL (Nat.le_succ _) h2 v5).putL (Nat.le_succ _) h2 v6)
theorem Logs.sg {w wx : World} {g oc : Nat} {es : List EntD} (h : Logs w wx g oc es) (h1 : g ≠ w.heap.size) (h2 : g ≠ w.heap.size + 1) (u0 u1 u2 v0 v1 v2 v3 v4 v5 v6 : Value) : Logs w ((((((((((wx.setCell ⟨w.heap.size + 1, 0, none⟩ v0).setCell ⟨w.heap.size + 1, 1, none⟩ v1).setCell ⟨w.heap.size + 1, 2, none⟩ v2).setCell ⟨w.heap.size + 1, 3, none⟩ v3).setCell ⟨w.heap.size + 1, 4, none⟩ v4).setCell ⟨w.heap.size + 1, 5, none⟩ v5).setCell ⟨w.heap.size + 1, 6, none⟩ v6).setCell ⟨w.heap.size, 0, none⟩ u0).setCell ⟨w.heap.size, 1, none⟩ u1).setCell ⟨w.heap.size, 2, none⟩ u2) g oc es := ((((((((((h.putL (Nat.le_succ _) h2 v0).putL (Nat.le_succ _) h2 v1).putL (Nat.le_succ _) h2 v2).putL (Nat.le_succ _) h2 v3).putL (Nat.le_succ _) h2 v4).putL (Nat.le_succ _) h2 v5).putL (Nat.le_succ _) h2 v6).putL (Nat.le_refl _) h1 u0).putL (Nat.le_refl _) h1 u1).putL (Nat.le_refl _) h1 u2)
def RetDSe (w : World) (r : Ending) (w' : World) : Prop := ∃ g oc es sf up e, r = .returned (.tuple #[.agg #[.slice (some ⟨g, 0, none⟩) es.length oc, .int .i64 sf, .bool up], .agg #[.int .i64 e.who, .int .i64 e.seq, .int .i64 e.op.kind, .int .i64 e.op.id, .int .i64 e.op.up, .int .i64 e.op.at_, .string e.op.txt]]) ∧ SfOk sf ∧ EntS e ∧ Logs w w' g oc es
/-- What holds at the end of the draw: the boxes of the server and the entry, and of both results. -/
structure DE (w wx : World) (B C g oc : Nat) (es : List EntD) (sf : Int) (up : Bool) (e : EntD) : Prop where
  logs : Logs w wx g oc es
  sok : SfOk sf
  srv : Bx wx B 43 #[.slice (some ⟨g, 0, none⟩) es.length oc, .int .i64 sf, .bool up]
  ent : Bx wx C 52 #[.int .i64 e.who, .int .i64 e.seq, .int .i64 e.op.kind, .int .i64 e.op.id, .int .i64 e.op.up, .int .i64 e.op.at_, .string e.op.txt]
  ress : Bx wx w.heap.size 43 #[.slice none 0 0, .int .i64 0, .bool false]
  rese : Bx wx (w.heap.size + 1) 52 #[.int .i64 0, .int .i64 0, .int .i64 0, .int .i64 0, .int .i64 0, .int .i64 0, .string ⟨#[]⟩]
  ge : w.heap.size + 1 < g
  bw : w.heap.size + 1 < B
  cw : w.heap.size + 1 < C
theorem DE.drew {w wx : World} {B C g oc : Nat} {es : List EntD} {sf : Int} {up : Bool} {e : EntD} (h : DE w wx B C g oc es sf up e) : DE w wx.drew B C g oc es sf up e :=
  ⟨h.logs.below ((Below.refl _ _).drew), h.sok, h.srv, h.ent, h.ress, h.rese, h.ge, h.bw, h.cw⟩
set_option maxRecDepth 100000 in
set_option maxHeartbeats 8000000 in
theorem drawServerHear_any (a : Option Addr) (len cap : Nat) (w : World) (hb : Bytes w a len cap) :
    Calls Tryd.prog 27 #[.slice a len cap] w (RetDSe w) := by
  obtain ⟨h1, h2, h3⟩ := hb
  have al : Below w.heap.size w ((w.alloc (.cells #[.slice none 0 0, .int .i64 0, .bool false] 43)).alloc (.cells #[.int .i64 0, .int .i64 0, .int .i64 0, .int .i64 0, .int .i64 0, .int .i64 0, .string ⟨#[]⟩] 52)) := ((Below.refl _ _).alloc (Nat.le_refl _) _).alloc (by simp) _
  have Y0 := (Bx.new w 43 #[.slice none 0 0, .int .i64 0, .bool false]).alloc (.cells #[.int .i64 0, .int .i64 0, .int .i64 0, .int .i64 0, .int .i64 0, .int .i64 0, .string ⟨#[]⟩] 52)
  have F0 := Bx.new (w.alloc (.cells #[.slice none 0 0, .int .i64 0, .bool false] 43)) 52 #[.int .i64 0, .int .i64 0, .int .i64 0, .int .i64 0, .int .i64 0, .int .i64 0, .string ⟨#[]⟩]
  have hs1 : (w.alloc (.cells #[.slice none 0 0, .int .i64 0, .bool false] 43)).heap.size = w.heap.size + 1 := by simp
  have hsz : ((w.alloc (.cells #[.slice none 0 0, .int .i64 0, .bool false] 43)).alloc (.cells #[.int .i64 0, .int .i64 0, .int .i64 0, .int .i64 0, .int .i64 0, .int .i64 0, .string ⟨#[]⟩] 52)).heap.size = w.heap.size + 1 + 1 := by simp
  rw [hs1] at F0
  have HO := Lib.hid (l6Open_any w.heap.size a len cap ((w.alloc (.cells #[.slice none 0 0, .int .i64 0, .bool false] 43)).alloc (.cells #[.int .i64 0, .int .i64 0, .int .i64 0, .int .i64 0, .int .i64 0, .int .i64 0, .string ⟨#[]⟩] 52)) al.size h1 h2 (h3.below al))
  go_enter Tryd.func27, Tryd.ntmps27
  go_wp2_with fail
  refine HO.out.mono ?_
  rintro _ w1 ⟨rfl, b1, s1, r1⟩
  have L1 := al.trans (b1.mono al.size)
  have Y1 := Y0.below b1 Y0.lt
  have F1 := F0.below b1 F0.lt
  rw [hsz] at s1 r1
  clear hsz hs1 HO al Y0 F0 b1
  go_wp2_with fail
  refine (l72Server_any _ _ _ _ r1 (by omega) L1.size).mono ?_
  rintro _ w2 ⟨g1, oc1, es1, sf1, up, rfl, hl1, he1, p0, p1, o2, hg1, hg2, hbut, r2⟩
  have L2 := L1.trans (hbut.below (by omega) L1.size)
  have Y2 := Y1.but hbut Y1.lt (by omega)
  have F2 := F1.but hbut F1.lt (by omega)
  have M2 : Logs w w2 g1 oc1 es1 := ⟨by omega, he1, own_mono o2 L1.size, Nat.le_trans L1.size hg1, hg2, L2⟩
  have hgr : w.heap.size + 1 + 1 < g1 := Nat.lt_of_lt_of_le r1.2.1 hg1
  have al2 := (Below.refl w2.heap.size w2).alloc (Nat.le_refl _) (.cells #[.slice (some ⟨g1, 0, none⟩) es1.length oc1, .int .i64 sf1, .bool up] 43)
  have B3 := Bx.new w2 43 #[.slice (some ⟨g1, 0, none⟩) es1.length oc1, .int .i64 sf1, .bool up]
  have Y3 := Y2.below al2 Y2.lt
  have F3 := F2.below al2 F2.lt
  have M3 := M2.below al2
  have r3 := r2.below al2 r2.2.1
  have L3 := L2.trans (al2.mono L2.size)
  have hBb : w.heap.size + 1 + 1 < w2.heap.size := r2.2.1
  have hBg : g1 < w2.heap.size := hg2
  clear L1 L2 Y1 Y2 F1 F2 M2 r1 r2 o2 hbut al2 s1 hg1 hg2 he1
  go_upto_region 3 with fail
  generalize w2.alloc (.cells #[.slice (some ⟨g1, 0, none⟩) es1.length oc1, .int .i64 sf1, .bool up] 43) = w3 at *
  generalize w2.heap.size = B at *
  have HDL := Lib.hid (drawLogAdd_any a len cap w3 ⟨h1, h2, code_mono (h3.below L3) L3.size⟩)
  go_wp2_with fail
  refine HDL.out.mono ?_
  rintro _ w4 ⟨g2, oc2, es2, e, rfl, hes, N4⟩
  have h34 : Below w3.heap.size w3 w4 := N4.low
  have B4 := B3.below h34 B3.lt
  have Y4 := Y3.below h34 Y3.lt
  have F4 := F3.below h34 F3.lt
  have M4 := M3.below h34
  have r4 := r3.below h34 r3.2.1
  have L4 := L3.trans (h34.mono L3.size)
  have N4' : Logs w w4 g2 oc2 es2 := ⟨N4.len, N4.ents, own_mono N4.own L3.size, Nat.le_trans L3.size N4.lo, N4.hi, L4⟩
  have hB2 : B < g2 := Nat.lt_of_lt_of_le B3.lt N4.lo
  have HES := Lib.hid hes
  have al4 := (Below.refl w4.heap.size w4).alloc (Nat.le_refl _) (.cells #[.int .i64 e.who, .int .i64 e.seq, .int .i64 e.op.kind, .int .i64 e.op.id, .int .i64 e.op.up, .int .i64 e.op.at_, .string e.op.txt] 52)
  have C5 := Bx.new w4 52 #[.int .i64 e.who, .int .i64 e.seq, .int .i64 e.op.kind, .int .i64 e.op.id, .int .i64 e.op.up, .int .i64 e.op.at_, .string e.op.txt]
  have B5 := B4.below al4 B4.lt
  have Y5 := Y4.below al4 Y4.lt
  have F5 := F4.below al4 F4.lt
  have M5 := M4.below al4
  have N5 := N4'.below al4
  have r5 := r4.below al4 r4.2.1
  have hC1 : B < w4.heap.size := B4.lt
  have hC2 : g2 < w4.heap.size := N4.hi
  clear B3 B4 Y3 Y4 F3 F4 M3 M4 N4 N4' r3 r4 L3 L4 al4 h34 HDL hes
  go_upto_region 4 with fail
  generalize w4.alloc (.cells #[.int .i64 e.who, .int .i64 e.seq, .int .i64 e.op.kind, .int .i64 e.op.id, .int .i64 e.op.up, .int .i64 e.op.at_, .string e.op.txt] 52) = w5 at *
  generalize w4.heap.size = C at *
  go_wp2_with fail
  refine (pick_any _ _ _ 3 _ r5 (by omega) (by omega) (by omega)).mono ?_
  rintro _ w6 ⟨k6, k60, k61, rfl, b6, s6, r6⟩
  have B6 := B5.but b6 B5.lt (by omega)
  have C6 := C5.but b6 C5.lt (by omega)
  have Y6 := Y5.but b6 Y5.lt (by omega)
  have F6 := F5.but b6 F5.lt (by omega)
  have M6 := M5.more b6 (by omega) (by omega)
  have N6 := N5.more b6 (by omega) (by omega)
  clear B5 C5 Y5 F5 M5 N5 r5 b6 s6
  by_cases hq : 0 < k6
  · obtain ⟨z0, z1, z2⟩ := B6.srv
    have fz := B6.frozen 0
    have B7 : Bx (w6.setCell ⟨B, 0, none⟩ (.slice (some ⟨g2, 0, none⟩) es2.length oc2)) B 43 #[.slice (some ⟨g2, 0, none⟩) es2.length oc2, .int .i64 sf1, .bool up] := B6.put 0 _
    have C7 := C6.other (j := 0) (show C ≠ B by omega) (.slice (some ⟨g2, 0, none⟩) es2.length oc2)
    have Y7 := Y6.other (j := 0) (show w.heap.size ≠ B by omega) (.slice (some ⟨g2, 0, none⟩) es2.length oc2)
    have F7 := F6.other (j := 0) (show w.heap.size + 1 ≠ B by omega) (.slice (some ⟨g2, 0, none⟩) es2.length oc2)
    have N7 := N6.putL (k := 0) (show w.heap.size ≤ B by omega) (show g2 ≠ B by omega) (.slice (some ⟨g2, 0, none⟩) es2.length oc2)
    have r7 := rd_putB (k := 0) (v := .slice (some ⟨g2, 0, none⟩) es2.length oc2) r6 (show w.heap.size + 1 + 1 ≠ B by omega) (show w.heap.size ≤ B by omega)
    have hel := N6.len
    clear B6 C6 Y6 F6 N6 M6 r6
    go_upto_region 6 with fail
    generalize w6.setCell ⟨B, 0, none⟩ (.slice (some ⟨g2, 0, none⟩) es2.length oc2) = w7 at *
    clear z0 z1 z2 fz
    go_wp2_with fail
    refine (pick_any _ _ _ ((es2.length : Int) + 1) _ r7 (by omega) (by omega) (by omega)).mono ?_
    rintro _ w8 ⟨k8, k80, k81, rfl, b8, s8, r8⟩
    have B8 := B7.but b8 B7.lt (by omega)
    have C8 := C7.but b8 C7.lt (by omega)
    have Y8 := Y7.but b8 Y7.lt (by omega)
    have F8 := F7.but b8 F7.lt (by omega)
    have N8 := N7.more b8 (by omega) (by omega)
    clear B7 C7 Y7 F7 N7 r7 b8 s8 r8
    obtain ⟨z0, z1, z2⟩ := B8.srv
    have fz := B8.frozen 1
    have D : DE w (w8.setCell ⟨B, 1, none⟩ (.int .i64 k8)) B C g2 oc2 es2 k8 up e := ⟨N8.putL (by omega) (by omega) _, ⟨by omega, by omega⟩, B8.put 1 _, C8.other (by omega) _, Y8.other (by omega) _, F8.other (by omega) _, by omega, by omega, by omega⟩
    clear B8 C8 Y8 F8 N8
    go_upto_region 7 with fail
    generalize w8.setCell ⟨B, 1, none⟩ (.int .i64 k8) = w9 at *
    clear z0 z1 z2 fz
    have LD := D.logs
    have LDd := D.drew.logs
    have hbw := D.bw
    have hcw := D.cw
    have hge := D.ge
    have nB1 : B ≠ w.heap.size := by omega
    have nB2 : B ≠ w.heap.size + 1 := by omega
    have nC1 : C ≠ w.heap.size := by omega
    have nC2 : C ≠ w.heap.size + 1 := by omega
    have nR : w.heap.size + 1 ≠ w.heap.size := by omega
    have nR' : w.heap.size ≠ w.heap.size + 1 := by omega
    have HSK := Lib.hid D.sok
    have hg1' : g2 ≠ w.heap.size := by omega
    have hg2' : g2 ≠ w.heap.size + 1 := by omega
    obtain ⟨z0, z1, z2⟩ := D.srv.srv
    have c0 := D.ent.cell 0 rfl
    have c1 := D.ent.cell 1 rfl
    have c2 := D.ent.cell 2 rfl
    have c3 := D.ent.cell 3 rfl
    have c4 := D.ent.cell 4 rfl
    have c5 := D.ent.cell 5 rfl
    have c6 := D.ent.cell 6 rfl
    obtain ⟨d0, d1, d2⟩ := D.ress.srv
    have y0 := D.ress.frozen 0
    have y1 := D.ress.frozen 1
    have y2 := D.ress.frozen 2
    have f0 := D.rese.cell 0 rfl
    have f1 := D.rese.cell 1 rfl
    have f2 := D.rese.cell 2 rfl
    have f3 := D.rese.cell 3 rfl
    have f4 := D.rese.cell 4 rfl
    have f5 := D.rese.cell 5 rfl
    have f6 := D.rese.cell 6 rfl
    have v0 := D.rese.frozen 0
    have v1 := D.rese.frozen 1
    have v2 := D.rese.frozen 2
    have v3 := D.rese.frozen 3
    have v4 := D.rese.frozen 4
    have v5 := D.rese.frozen 5
    have v6 := D.rese.frozen 6
    clear D
    go_wp2_with fail
    go_region
    all_goals
      go_wp2
      exact bodyPost_ret (v := .tuple #[.agg #[.slice (some ⟨g2, 0, none⟩) es2.length oc2, .int .i64 k8, .bool up], .agg #[.int .i64 e.who, .int .i64 e.seq, .int .i64 e.op.kind, .int .i64 e.op.id, .int .i64 e.op.up, .int .i64 e.op.at_, .string e.op.txt]]) (by simp [results, Tryd.results27, go_sem, d0, d1, d2, f0, f1, f2, f3, f4, f5, f6]) rfl ⟨g2, oc2, es2, k8, up, e, rfl, HSK.out, HES.out, by
        first
        | (with_reducible exact LD.gs hg1' hg2' _ _ _ _ _ _ _ _ _ _)
        | (with_reducible exact LD.sg hg1' hg2' _ _ _ _ _ _ _ _ _ _)
        | (with_reducible exact (LD.gs hg1' hg2' _ _ _ _ _ _ _ _ _ _).drew)
        | (with_reducible exact (LD.sg hg1' hg2' _ _ _ _ _ _ _ _ _ _).drew)
        | (with_reducible exact LDd.gs hg1' hg2' _ _ _ _ _ _ _ _ _ _)
        | (with_reducible exact LDd.sg hg1' hg2' _ _ _ _ _ _ _ _ _ _)⟩
  · have D : DE w w6 B C g1 oc1 es1 sf1 up e := ⟨M6, ⟨by omega, by omega⟩, B6, C6, Y6, F6, by omega, by omega, by omega⟩
    clear B6 C6 Y6 F6 M6 N6 r6
    have LD := D.logs
    have LDd := D.drew.logs
    have hbw := D.bw
    have hcw := D.cw
    have hge := D.ge
    have nB1 : B ≠ w.heap.size := by omega
    have nB2 : B ≠ w.heap.size + 1 := by omega
    have nC1 : C ≠ w.heap.size := by omega
    have nC2 : C ≠ w.heap.size + 1 := by omega
    have nR : w.heap.size + 1 ≠ w.heap.size := by omega
    have nR' : w.heap.size ≠ w.heap.size + 1 := by omega
    have HSK := Lib.hid D.sok
    have hg1' : g1 ≠ w.heap.size := by omega
    have hg2' : g1 ≠ w.heap.size + 1 := by omega
    obtain ⟨z0, z1, z2⟩ := D.srv.srv
    have c0 := D.ent.cell 0 rfl
    have c1 := D.ent.cell 1 rfl
    have c2 := D.ent.cell 2 rfl
    have c3 := D.ent.cell 3 rfl
    have c4 := D.ent.cell 4 rfl
    have c5 := D.ent.cell 5 rfl
    have c6 := D.ent.cell 6 rfl
    obtain ⟨d0, d1, d2⟩ := D.ress.srv
    have y0 := D.ress.frozen 0
    have y1 := D.ress.frozen 1
    have y2 := D.ress.frozen 2
    have f0 := D.rese.cell 0 rfl
    have f1 := D.rese.cell 1 rfl
    have f2 := D.rese.cell 2 rfl
    have f3 := D.rese.cell 3 rfl
    have f4 := D.rese.cell 4 rfl
    have f5 := D.rese.cell 5 rfl
    have f6 := D.rese.cell 6 rfl
    have v0 := D.rese.frozen 0
    have v1 := D.rese.frozen 1
    have v2 := D.rese.frozen 2
    have v3 := D.rese.frozen 3
    have v4 := D.rese.frozen 4
    have v5 := D.rese.frozen 5
    have v6 := D.rese.frozen 6
    clear D
    go_wp2_with fail
    go_region
    all_goals
      go_wp2
      exact bodyPost_ret (v := .tuple #[.agg #[.slice (some ⟨g1, 0, none⟩) es1.length oc1, .int .i64 sf1, .bool up], .agg #[.int .i64 e.who, .int .i64 e.seq, .int .i64 e.op.kind, .int .i64 e.op.id, .int .i64 e.op.up, .int .i64 e.op.at_, .string e.op.txt]]) (by simp [results, Tryd.results27, go_sem, d0, d1, d2, f0, f1, f2, f3, f4, f5, f6]) rfl ⟨g1, oc1, es1, sf1, up, e, rfl, HSK.out, HES.out, by
        first
        | (with_reducible exact LD.gs hg1' hg2' _ _ _ _ _ _ _ _ _ _)
        | (with_reducible exact LD.sg hg1' hg2' _ _ _ _ _ _ _ _ _ _)
        | (with_reducible exact (LD.gs hg1' hg2' _ _ _ _ _ _ _ _ _ _).drew)
        | (with_reducible exact (LD.sg hg1' hg2' _ _ _ _ _ _ _ _ _ _).drew)
        | (with_reducible exact LDd.gs hg1' hg2' _ _ _ _ _ _ _ _ _ _)
        | (with_reducible exact LDd.sg hg1' hg2' _ _ _ _ _ _ _ _ _ _)⟩
end Go.Proofs.YtoofdhooinaneaaDoor
