/-
  The model's drawing of a server and a number: DrawServerNews. What is drawn is said loosely. Conditions: as the theorem says.
-/
import Derived.Test.YtoofdhooinaneaaDoorJDSrv2
namespace Go.Proofs.YtoofdhooinaneaaDoor
open Go.ChangeShapes Go.WideShapes Go.ChangeAt Go.RowKit Go.Joins

theorem DS.drew {N b q R : Nat} {w wx : World} {g oc : Nat} {es : List EntD} (h : DS N b q R w wx g oc es) : DS N b q R w wx.drew g oc es := h.below ((Below.refl _ _).drew)
set_option maxRecDepth 100000 in
set_option maxHeartbeats 8000000 in
theorem drawServerNews_any (a : Option Addr) (len cap : Nat) (w : World) (hb : Bytes w a len cap) :
    Calls Tryd.prog 22 #[.slice a len cap] w (RetDSi w) := by
  obtain ⟨h1, h2, h3⟩ := hb
  have al := (Below.refl w.heap.size w).alloc (Nat.le_refl _) (.cells #[.slice none 0 0, .int .i64 0, .bool false] 43)
  have Y0 := Bx.new w 43 #[.slice none 0 0, .int .i64 0, .bool false]
  have hsz : (w.alloc (.cells #[.slice none 0 0, .int .i64 0, .bool false] 43)).heap.size = w.heap.size + 1 := by simp
  have HO := Lib.hid (l6Open_any w.heap.size a len cap (w.alloc (.cells #[.slice none 0 0, .int .i64 0, .bool false] 43)) al.size h1 h2 (h3.below al))
  go_enter Tryd.func22, Tryd.ntmps22
  go_wp2_with fail
  refine HO.out.mono ?_
  rintro _ w1 ⟨rfl, b1, s1, r1⟩
  have L1 := al.trans (b1.mono al.size)
  have Y1 := Y0.below b1 Y0.lt
  rw [hsz] at s1 r1
  clear hsz HO al Y0 b1
  go_wp2_with fail
  refine (l72Server_any _ _ _ _ r1 (by omega) L1.size).mono ?_
  rintro _ w2 hd
  obtain ⟨g, oc, es, sf, up, rfl, sf0, sf1, hl14, D2⟩ := ds_of hd L1 Y1 (Nat.le_refl _) (by omega) (by have := r1.2.1; omega)
  clear hd L1 Y1 r1
  have al2 := (Below.refl w2.heap.size w2).alloc (Nat.le_refl _) (.cells #[.slice (some ⟨g, 0, none⟩) es.length oc, .int .i64 sf, .bool up] 43)
  have D3 := D2.below al2
  have Z3 := Bx.new w2 43 #[.slice (some ⟨g, 0, none⟩) es.length oc, .int .i64 sf, .bool up]
  have hzb : w.heap.size + 1 < w2.heap.size := D2.rd.2.1
  have hzg : g < w2.heap.size := D2.logs.hi
  clear D2 al2
  go_upto_region 3 with fail
  generalize (w2.alloc (.cells #[.slice (some ⟨g, 0, none⟩) es.length oc, .int .i64 sf, .bool up] 43)) = w3 at *
  generalize w2.heap.size = B at *
  have nBR : B ≠ w.heap.size := by omega
  have nBb : B ≠ w.heap.size + 1 := by omega
  have hmax : ¬ (sf < 0) := by omega
  have hmax2 : (if sf < 0 then (0 : Int) else sf) = sf := if_neg hmax
  have hwr : IntKind.i64.wrap (sf + 2) = sf + 2 := IntWalk.i64_in _ (by omega)
  have Dd := D3.drew
  have Zd := Z3.drew
  obtain ⟨z0, z1, z2⟩ := Z3.srv
  clear D3 Z3
  go_region_with (first
    | (go_at_call 34; (with_reducible refine (pick_any _ _ _ (sf + 2) _ Dd.rd (by omega) (by omega) (by omega)).mono ?_); rintro _ w4 ⟨k4, k40, k41, rfl, b4, s4, r4⟩; have D4 := Dd.more b4 r4; have Z4 := Zd.but b4 Zd.lt nBb; obtain ⟨p0, p1, p2⟩ := Z4.srv)
    | (go_at_call 34; (with_reducible refine (pick_any _ _ _ 24 _ D4.rd (by omega) (by omega) (by omega)).mono ?_); rintro _ w5 ⟨k5, k50, k51, rfl, b5, s5, r5⟩; have D5 := D4.more b5 r5; have Z5 := Z4.but b5 Z4.lt nBb; obtain ⟨q0, q1, q2⟩ := Z5.srv; have d0 := D5.res.cell 0 rfl; have d1 := D5.res.cell 1 rfl; have d2 := D5.res.cell 2 rfl; have y0 := D5.res.frozen 0; have y1 := D5.res.frozen 1; have y2 := D5.res.frozen 2; have HF := Lib.hid (D5.done (.slice (some ⟨g, 0, none⟩) es.length oc) (.int .i64 sf) (.bool up))))
  all_goals
    have hk5 : 0 ≤ k5 / 23 := by omega
    have hk6 : k5 / 23 ≤ 1 := by omega
    have t1 : k5.tdiv 23 = k5 / 23 := Int.tdiv_eq_ediv_of_nonneg k50
    have t2 : IntKind.i64.wrap (k5 / 23) = k5 / 23 := IntWalk.i64_in _ (by omega)
    have t3 : IntKind.i64.wrap (k5 / 23 * 3) = k5 / 23 * 3 := IntWalk.i64_in _ (by omega)
    have t4 : IntKind.i64.wrap (k4 - k5 / 23 * 3) = k4 - k5 / 23 * 3 := IntWalk.i64_in _ (by omega)
    clear D4 D5 Dd Zd Z4 Z5
    go_wp2
    exact bodyPost_ret (v := .tuple #[.agg #[.slice (some ⟨g, 0, none⟩) es.length oc, .int .i64 sf, .bool up], .int .i64 (k4 - k5 / 23 * 3)]) (by simp [results, Tryd.results22, go_sem, d0, d1, d2, t1, t2, t3, t4]) rfl ⟨g, oc, es, sf, up, _, rfl, ⟨by omega, by omega⟩, ⟨by omega, by omega⟩, HF.out⟩
end Go.Proofs.YtoofdhooinaneaaDoor
