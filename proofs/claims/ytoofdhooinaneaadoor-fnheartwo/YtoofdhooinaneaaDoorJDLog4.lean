/-
  The model's drawing of a log and an entry: DrawLogAdd. What is drawn is said loosely. Conditions: as the theorem says.
-/
import Derived.Test.YtoofdhooinaneaaDoorGR
namespace Go.Proofs.YtoofdhooinaneaaDoor
open Go.ChangeShapes Go.WideShapes Go.ChangeAt Go.RowKit Go.Joins

def RetLogAdd (w : World) (r : Ending) (w' : World) : Prop := ∃ g oc es e, r = .returned (.tuple #[.slice (some ⟨g, 0, none⟩) es.length oc, .agg #[.int .i64 e.who, .int .i64 e.seq, .int .i64 e.op.kind, .int .i64 e.op.id, .int .i64 e.op.up, .int .i64 e.op.at_, .string e.op.txt]]) ∧ EntS e ∧ Logs w w' g oc es
/-- What holds while a log and an entry are drawn. -/
structure DA (N b q : Nat) (w wx : World) (g oc : Nat) (es : List EntD) : Prop where
  logs : Logs w wx g oc es
  res : EBx wx w.heap.size ezz
  rd : Rd N wx b q
  lt : w.heap.size < b
  bg : b < g
theorem DA.more {N b q q' : Nat} {w wx wy : World} {g oc : Nat} {es : List EntD} (h : DA N b q w wx g oc es) (hb : But b wx.heap.size wx wy) (hr : Rd N wy b q') : DA N b q' w wy g oc es :=
  ⟨h.logs.more hb (Nat.le_of_lt h.lt) h.bg, h.res.but hb h.res.lt (by have := h.lt; omega), hr, h.lt, h.bg⟩
theorem DA.below {N b q : Nat} {w wx wy : World} {g oc : Nat} {es : List EntD} (h : DA N b q w wx g oc es) (hb : Below wx.heap.size wx wy) : DA N b q w wy g oc es :=
  ⟨h.logs.below hb, h.res.below hb h.res.lt, h.rd.below hb h.rd.2.1, h.lt, h.bg⟩
theorem DA.up {N b q q' : Nat} {w wx : World} {g oc : Nat} {es : List EntD} (h : DA N b q w wx g oc es) (hq : q ≤ q') : DA N b q' w wx g oc es := ⟨h.logs, h.res, h.rd.mono hq, h.lt, h.bg⟩
theorem Logs.put {w wx : World} {g oc k B : Nat} {es : List EntD} (h : Logs w wx g oc es) (hB : w.heap.size ≤ B) (hne : g ≠ B) (v : Value) : Logs w (wx.setCell ⟨B, k, none⟩ v) g oc es := by
  have hb : Below w.heap.size wx (wx.setCell ⟨B, k, none⟩ v) := (Below.refl _ _).setCell (p := ⟨B, k, none⟩) hB _
  refine ⟨h.len, h.ents, ?_, h.lo, by have := h.hi; simpa [World.setCell] using this, h.low.trans hb⟩
  obtain ⟨q1, q2⟩ := h.own
  refine ⟨q1, ?_⟩
  rcases q2 with q2 | ⟨g', cap, cur, hv, hg, hh, r⟩
  · exact .inl q2
  · cases hv
    exact .inr ⟨g, oc, cur, rfl, hg, (Below.heap_setCell _ _ _ _ hne).trans hh, r⟩
theorem Logs.given {w wx : World} {g oc : Nat} {es : List EntD} (h : Logs w wx g oc es) (hne : g ≠ w.heap.size) (e : EntD) : Logs w (givenE wx w.heap.size e) g oc es := by
  unfold givenE
  exact ((((((h.put (Nat.le_refl _) hne _).put (Nat.le_refl _) hne _).put (Nat.le_refl _) hne _).put (Nat.le_refl _) hne _).put (Nat.le_refl _) hne _).put (Nat.le_refl _) hne _).put (Nat.le_refl _) hne _
theorem DA.done {N b q : Nat} {w wx : World} {g oc : Nat} {es : List EntD} (h : DA N b q w wx g oc es) {e : EntD} (he : EntS e) : RetLogAdd w (.returned (.tuple #[.slice (some ⟨g, 0, none⟩) es.length oc, .agg #[.int .i64 e.who, .int .i64 e.seq, .int .i64 e.op.kind, .int .i64 e.op.id, .int .i64 e.op.up, .int .i64 e.op.at_, .string e.op.txt]])) (givenE wx w.heap.size e) :=
  ⟨g, oc, es, e, rfl, he, h.logs.given (by have := h.lt; have := h.bg; omega) e⟩
theorem Logs.drew {w wx : World} {g oc : Nat} {es : List EntD} (h : Logs w wx g oc es) : Logs w wx.drew g oc es := h.below ((Below.refl _ _).drew)
theorem DA.drew {N b q : Nat} {w wx : World} {g oc : Nat} {es : List EntD} (h : DA N b q w wx g oc es) : DA N b q w wx.drew g oc es := h.below ((Below.refl _ _).drew)
theorem DA.doneD {N b q : Nat} {w wx : World} {g oc : Nat} {es : List EntD} (h : DA N b q w wx g oc es) {e : EntD} (he : EntS e) : RetLogAdd w (.returned (.tuple #[.slice (some ⟨g, 0, none⟩) es.length oc, .agg #[.int .i64 e.who, .int .i64 e.seq, .int .i64 e.op.kind, .int .i64 e.op.id, .int .i64 e.op.up, .int .i64 e.op.at_, .string e.op.txt]])) (givenE wx w.heap.size e).drew :=
  ⟨g, oc, es, e, rfl, he, (h.logs.given (by have := h.lt; have := h.bg; omega) e).drew⟩
set_option maxRecDepth 100000 in
set_option maxHeartbeats 8000000 in
theorem drawLogAdd_any (a : Option Addr) (len cap : Nat) (w : World) (hb : Bytes w a len cap) :
    Calls Tryd.prog 55 #[.slice a len cap] w (RetLogAdd w) := by
  obtain ⟨h1, h2, h3⟩ := hb
  have al : Below w.heap.size w (w.alloc (.cells #[.int .i64 0, .int .i64 0, .int .i64 0, .int .i64 0, .int .i64 0, .int .i64 0, .string ⟨#[]⟩] 52)) := (Below.refl _ _).alloc (Nat.le_refl _) _
  have hres0 := EBx.new w ezz
  have hsz : (w.alloc (.cells #[.int .i64 0, .int .i64 0, .int .i64 0, .int .i64 0, .int .i64 0, .int .i64 0, .string ⟨#[]⟩] 52)).heap.size = w.heap.size + 1 := by simp
  have HO := Lib.hid (l6Open_any w.heap.size a len cap (w.alloc (.cells #[.int .i64 0, .int .i64 0, .int .i64 0, .int .i64 0, .int .i64 0, .int .i64 0, .string ⟨#[]⟩] 52)) al.size h1 h2 (h3.below al))
  go_enter Tryd.func55, Tryd.ntmps55
  go_wp2_with fail
  refine HO.out.mono ?_
  rintro _ w1 ⟨rfl, b1, s1, r1⟩
  have L1 : Below w.heap.size w w1 := al.trans (b1.mono al.size)
  have R1 := hres0.below b1 hres0.lt
  rw [hsz] at s1 r1
  clear hsz HO al hres0 b1
  go_wp2_with fail
  refine (l72Log_any _ _ _ _ r1 (by omega) L1.size).mono ?_
  rintro _ w2 ⟨g, oc, es, rfl, hl, hes, ho, hg1, hg2, hbut, hrd⟩
  have D2 : DA w.heap.size (w.heap.size + 1) 1000 w w2 g oc es := ⟨⟨by omega, hes, own_mono ho L1.size, Nat.le_trans L1.size hg1, hg2, L1.trans (hbut.below (by omega) L1.size)⟩, R1.but hbut R1.lt (by omega), hrd.mono (by omega), by omega, by omega⟩
  have HCD := Lib.hid h3
  clear R1 L1 s1 r1 ho hg1 hg2 hbut hrd hes h3
  go_upto_region 3 with fail
  go_cut [18] (fun s wx => ∃ c : Bool, s = .bool c ∧ (c = true → 0 < es.length) ∧ DA w.heap.size (w.heap.size + 1) 1001 w wx g oc es)
  case first =>
    by_cases he0 : 0 < es.length
    · have he0' : (0 : Int) < (es.length : Int) := by omega
      go_wp2_with fail
      refine (pick_any _ _ _ _ _ D2.rd (by omega) (by omega) (by omega)).mono ?_
      rintro _ w3 ⟨q, _, _, rfl, b3, s3, r3'⟩
      have D3 := D2.more b3 r3'
      go_wp2_with fail
      go_meet
      exact ⟨_, rfl, fun _ => he0, D3⟩
    · go_wp2_with fail
      go_meet
      exact ⟨false, by first | rfl | simp | (simp; omega), fun h => by simp at h, D2.up (by omega)⟩
  case rest =>
    obtain ⟨c, rfl, hc, D3⟩ := hcut
    clear D2
    cases c
    · have HDE := Lib.hid (drawEntryOk_any a len cap wc w.heap.size D3.logs.low.size h1 h2 (HCD.out.below D3.logs.low))
      go_wp2_with fail
      refine HDE.out.mono ?_
      rintro _ w4 ⟨e, hes, rfl, hb4⟩
      have D4a := D3.below hb4
      have al4 : Below w4.heap.size w4 (w4.alloc (.cells #[.int .i64 e.who, .int .i64 e.seq, .int .i64 e.op.kind, .int .i64 e.op.id, .int .i64 e.op.up, .int .i64 e.op.at_, .string e.op.txt] 52)) := (Below.refl _ _).alloc (Nat.le_refl _) _
      have D4 := D4a.below al4
      have X4 := EBx.new w4 e
      have hB1 : w.heap.size < w4.heap.size := Nat.lt_trans D4a.lt (D4a.rd.2.1)
      have hB2 : w.heap.size + 1 < w4.heap.size := D4a.rd.2.1
      have hB3 : g < w4.heap.size := D4a.logs.hi
      have HES := Lib.hid hes
      clear D3 D4a HDE hc hb4 al4 hes
      go_upto_region 6 with fail
      generalize w4.alloc (.cells #[.int .i64 e.who, .int .i64 e.seq, .int .i64 e.op.kind, .int .i64 e.op.id, .int .i64 e.op.up, .int .i64 e.op.at_, .string e.op.txt] 52) = w5 at *
      generalize w4.heap.size = B at *
      go_wp2_with fail
      refine (pick_any _ _ _ _ _ D4.rd (by omega) (by omega) (by omega)).mono ?_
      rintro _ w6 ⟨q6, _, _, rfl, b6, s6, r6⟩
      have D6 := D4.more b6 r6
      have X6 := X4.but b6 X4.lt (by omega)
      clear D4 X4 b6 s6 r6
      go_upto_if 31 with fail
      go_cut [5] (fun s wx => s = .slice (some ⟨g, 0, none⟩) es.length oc ∧ ∃ e2 : EntD, Hid (EntS e2) ∧ EBx wx B e2 ∧ DA w.heap.size (w.heap.size + 1) 1002 w wx g oc es)
      case first =>
        by_cases hq : 0 < q6
        · obtain ⟨x0, x1, x2, x3, x4, x5, x6⟩ := X6.cells
          have z1 := X6.frozen 1
          have hcn := cntTo_le es e.who es.length
          have hl20 : es.length ≤ 1048576 := by omega
          have HQ := Lib.hid (l12Seq_any w6.heap.size (some ⟨g, 0, none⟩) oc es e.who es.length w6 D6.logs.at_ (Nat.le_refl _) hl20)
          generalize cntTo es e.who es.length = cn at *
          have X7 := X6.set1 ((cn : Int) + 1)
          have D7 : DA w.heap.size (w.heap.size + 1) 1002 w (w6.setCell ⟨B, 1, none⟩ (.int .i64 ((cn : Int) + 1))) g oc es :=
            ⟨D6.logs.put (by omega) (by omega) _, (Below.heap_setCell _ _ _ _ (show w.heap.size ≠ B by omega)).trans D6.res, (rd_put D6.rd (by omega) (by omega)).mono (by omega), D6.lt, D6.bg⟩
          have HE2 : Hid (EntS ⟨e.who, (cn : Int) + 1, e.op⟩) := ⟨HES.out.who, ⟨by (try dsimp only); omega, by (try dsimp only); omega⟩, HES.out.op⟩
          clear X6 D6
          go_wp2_with fail
          refine HQ.out.mono ?_
          rintro _ _ ⟨rfl, rfl⟩
          go_wp2_with fail
          go_meet
          exact ⟨rfl, _, HE2, X7, D7⟩
        · go_wp2_with fail
          go_meet
          exact ⟨rfl, e, HES, X6, D6.up (by omega)⟩
      case rest =>
        obtain ⟨rfl, e2, HE2, X7, D7⟩ := hcut
        clear X6 D6 HES
        obtain ⟨x0, x1, x2, x3, x4, x5, x6⟩ := X7.cells
        obtain ⟨d0, d1, d2, d3, d4, d5, d6⟩ := D7.res.cells
        have y0 := D7.res.frozen 0
        have y1 := D7.res.frozen 1
        have y2 := D7.res.frozen 2
        have y3 := D7.res.frozen 3
        have y4 := D7.res.frozen 4
        have y5 := D7.res.frozen 5
        have y6 := D7.res.frozen 6
        have hne : B ≠ w.heap.size := by omega
        have HF := Lib.hid (D7.doneD HE2.out)
        clear X7 D7
        go_wp2_with fail
        go_region
        all_goals
          go_wp2
          exact bodyPost_ret (v := .tuple #[.slice (some ⟨g, 0, none⟩) es.length oc, .agg #[.int .i64 e2.who, .int .i64 e2.seq, .int .i64 e2.op.kind, .int .i64 e2.op.id, .int .i64 e2.op.up, .int .i64 e2.op.at_, .string e2.op.txt]]) (by simp [results, Tryd.results55, go_sem, d0, d1, d2, d3, d4, d5, d6]) rfl HF.out
    · have he0 := hc rfl
      have hd : DA w.heap.size (w.heap.size + 1) 1001 w wc.drew g oc es := D3.drew
      have hwg : g ≠ w.heap.size := by have := hd.lt; have := hd.bg; omega
      clear D3 hc HCD
      go_wp2_with fail
      go_region_with (first
        | (go_at_call 34; refine (pick_any _ _ _ _ _ hd.rd (by omega) (by omega) (by omega)).mono ?_; rintro _ w4 ⟨q, q0, q1, rfl, b4, s4, r4⟩; obtain ⟨i, rfl⟩ := Int.eq_ofNat_of_zero_le q0; have D4 := hd.more b4 r4; have hi : i < es.length := (by omega); have hiI : (i : Int) < (es.length : Int) := (by omega); obtain ⟨_, _, e4, _, c0, c1, c2, c3, c4, c5, c6⟩ := D4.logs.at_.at_ hi; cases e4; simp only [Nat.zero_add] at c0 c1 c2 c3 c4 c5 c6; have HE4 := Lib.hid (D4.logs.ents i hi); generalize eat es i = e at *; obtain ⟨d0, d1, d2, d3, d4, d5, d6⟩ := D4.res.cells; have y0 := D4.res.frozen 0; have y1 := D4.res.frozen 1; have y2 := D4.res.frozen 2; have y3 := D4.res.frozen 3; have y4 := D4.res.frozen 4; have y5 := D4.res.frozen 5; have y6 := D4.res.frozen 6; have HF := Lib.hid (D4.done HE4.out)))
      all_goals
        clear hd D4
        go_wp2
        exact bodyPost_ret (v := .tuple #[.slice (some ⟨g, 0, none⟩) es.length oc, .agg #[.int .i64 e.who, .int .i64 e.seq, .int .i64 e.op.kind, .int .i64 e.op.id, .int .i64 e.op.up, .int .i64 e.op.at_, .string e.op.txt]]) (by simp [results, Tryd.results55, go_sem, d0, d1, d2, d3, d4, d5, d6]) rfl HF.out
end Go.Proofs.YtoofdhooinaneaaDoor
