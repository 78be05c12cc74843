/-
  Joined texts, each with its own head: what it holds, and its conditions.
-/
import Derived.Test.YtcpmahchagjhkaaGM
import Derived.Test.YtcpmahchagjhkaaGA
import Derived.Test.YtcpmahchagjhkaaGE

/-
  An argument that is an entry or a slice of entries, opened; the laws' own helpers szEntry, szEntryS, toEntry, toEntryS, eqEntry, eqEntryS. Conditions: as each theorem says.
-/
namespace Go.Proofs.Ytcpmahchagjhkaa
open Go.ChangeShapes Go.WideShapes Go.ChangeAt Go.RowKit Go.Joins Go.Deep

theorem array7 {α : Type} {cs : Array α} (h : cs.size = 7) : cs.toList.length = 7 := by simpa using h
/-! ### szEntry, szEntryS -/
def SzOut (w : World) (e : Ending) (w' : World) : Prop := ∃ z : Int, z ≤ 1048576 ∧ e = .returned (.int .i64 z) ∧ Below w.heap.size w w'
def SizedE (es : List EntD) (w : World) (e : Ending) (w' : World) : Prop := ∃ z : Int, e = .returned (.int .i64 z) ∧ (z < 0 ∨ (0 ≤ z ∧ z ≤ 1048576 ∧ es.length ≤ 1048576)) ∧ Below w.heap.size w w'
end Go.Proofs.Ytcpmahchagjhkaa
/-
  The laws' own helper toEntry. Conditions: as each theorem says.
-/
namespace Go.Proofs.Ytcpmahchagjhkaa
open Go.ChangeShapes Go.WideShapes Go.ChangeAt Go.RowKit Go.Joins Go.Deep

/-! ### toEntry, toEntryS -/
/-- Block B is a variable's box that holds an entry. -/
def EBox (w : World) (B : Nat) (e : EntD) : Prop := w.heap[B]? = some (.cells #[.int .i64 e.who, .int .i64 e.seq, .int .i64 e.op.kind, .int .i64 e.op.id, .int .i64 e.op.up, .int .i64 e.op.at_, .string e.op.txt] 44 (0, 0))
theorem EBox.lt {w : World} {B : Nat} {e : EntD} (h : EBox w B e) : B < w.heap.size := (Array.getElem?_eq_some_iff.1 h).1
theorem EBox.cells {w : World} {B : Nat} {e : EntD} (h : EBox w B e) : w.cell? ⟨B, 0, none⟩ = some (.int .i64 e.who) ∧ w.cell? ⟨B, 1, none⟩ = some (.int .i64 e.seq) ∧ w.cell? ⟨B, 2, none⟩ = some (.int .i64 e.op.kind) ∧ w.cell? ⟨B, 3, none⟩ = some (.int .i64 e.op.id) ∧ w.cell? ⟨B, 4, none⟩ = some (.int .i64 e.op.up) ∧ w.cell? ⟨B, 5, none⟩ = some (.int .i64 e.op.at_) ∧ w.cell? ⟨B, 6, none⟩ = some (.string e.op.txt) := by
  refine ⟨?_, ?_, ?_, ?_, ?_, ?_, ?_⟩ <;> simp [World.cell?, show w.heap[B]? = _ from h]
theorem EBox.frozen {w : World} {B : Nat} {e : EntD} (h : EBox w B e) (k : Nat) : w.frozen? ⟨B, k, none⟩ = false := by simp [World.frozen?, show w.heap[B]? = _ from h]
theorem EBox.below {w w' : World} {B n : Nat} {e : EntD} (h : EBox w B e) (hb : Below n w w') (hn : B < n) : EBox w' B e := (hb.block B hn).trans h
theorem EBox.new (w : World) (e : EntD) : EBox (w.alloc (.cells #[.int .i64 e.who, .int .i64 e.seq, .int .i64 e.op.kind, .int .i64 e.op.id, .int .i64 e.op.up, .int .i64 e.op.at_, .string e.op.txt] 44)) w.heap.size e := heap_alloc_new _ _
def ez0 : EntD := ⟨0, 0, ⟨0, 0, 0, 0, ⟨#[]⟩⟩⟩
end Go.Proofs.Ytcpmahchagjhkaa
/-
  The laws' own helpers toEntryS, eqEntry, eqEntryS. Conditions: as each theorem says.
-/
namespace Go.Proofs.Ytcpmahchagjhkaa
open Go.ChangeShapes Go.WideShapes Go.ChangeAt Go.RowKit Go.Joins Go.Deep

def RetEnts (es : List EntD) (w : World) (e : Ending) (w' : World) : Prop := ∃ g, e = .returned (.slice (some ⟨g, 0, none⟩) es.length es.length) ∧ w.heap.size ≤ g ∧ OwnEC w' g (es.length * 7) es ∧ Below w.heap.size w w'
/-! ### eqEntry, eqEntryS of one and the same -/
set_option maxHeartbeats 1000000 in
theorem eqOp_one (o : OpD) (w : World) :
    Calls Try.prog 22 #[.agg #[.int .i64 o.kind, .int .i64 o.id, .int .i64 o.up, .int .i64 o.at_, .string o.txt], .agg #[.int .i64 o.kind, .int .i64 o.id, .int .i64 o.up, .int .i64 o.at_, .string o.txt]] w (RetBelow (.bool true) w) := by
  go_enter Try.func22, Try.ntmps22
  go_wp2
  go_ret
  exact ⟨rfl, by repeat (first | exact Below.refl _ _ | refine Below.alloc ?_ (by simp <;> omega) _)⟩
set_option maxHeartbeats 1000000 in
theorem eqEntry_same (e : EntD) (w : World) :
    Calls Try.prog 20 #[.agg #[.int .i64 e.who, .int .i64 e.seq, .int .i64 e.op.kind, .int .i64 e.op.id, .int .i64 e.op.up, .int .i64 e.op.at_, .string e.op.txt], .agg #[.int .i64 e.who, .int .i64 e.seq, .int .i64 e.op.kind, .int .i64 e.op.id, .int .i64 e.op.up, .int .i64 e.op.at_, .string e.op.txt]] w (RetBelow (.bool true) w) := by
  have hb : Below w.heap.size w ((w.alloc (.cells #[.int .i64 e.who, .int .i64 e.seq, .int .i64 e.op.kind, .int .i64 e.op.id, .int .i64 e.op.up, .int .i64 e.op.at_, .string e.op.txt] 44)).alloc (.cells #[.int .i64 e.who, .int .i64 e.seq, .int .i64 e.op.kind, .int .i64 e.op.id, .int .i64 e.op.up, .int .i64 e.op.at_, .string e.op.txt] 44)) := ((Below.refl _ _).alloc (Nat.le_refl _) _).alloc (by simp) _
  go_enter Try.func20, Try.ntmps20
  go_wp2_with fail
  refine (eqOp_one e.op _).mono ?_
  rintro _ w1 ⟨rfl, hb1⟩
  go_wp2
  go_ret
  exact ⟨rfl, hb.trans (hb1.mono hb.size)⟩
set_option maxRecDepth 100000 in
set_option maxHeartbeats 1000000 in
theorem eqEntryS_same (B : Nat) (a a' : Option Addr) (cap cap' : Nat) (es : List EntD) (w : World) (hB : B ≤ w.heap.size) (h : EntsAt B w a es) (h' : EntsAt B w a' es) (hl : es.length ≤ 1048576) :
    Calls Try.prog 14 #[.slice a es.length cap, .slice a' es.length cap'] w (RetBelow (.bool true) w) := by
  go_enter Try.func14, Try.ntmps14
  go_wp2_with fail
  go_loopw [5] (fun t wr => ∃ k : Nat, k ≤ es.length ∧ t = .int .i64 k ∧ Below w.heap.size w wr) (fun t _ => es.length - (intOf t).toNat)
  case atStart => exact ⟨0, Nat.zero_le _, rfl, Below.refl _ _⟩
  case round =>
    obtain ⟨k, hk, rfl, hb⟩ := hrel
    have hr := h.below (hb.mono hB)
    have hr' := h'.below (hb.mono hB)
    by_cases hlt : k < es.length
    · obtain ⟨b, off, rfl, hbB, c0, c1, c2, c3, c4, c5, c6⟩ := hr.at_ hlt
      obtain ⟨b', off', rfl, hbB', d0, d1, d2, d3, d4, d5, d6⟩ := hr'.at_ hlt
      have i1 : (k : Int) < (es.length : Int) := by omega
      have hbw : b < wr.heap.size := by have := hb.size; omega
      have hbw' : b' < wr.heap.size := by have := hb.size; omega
      generalize eat es k = e at *
      have L0 := later_cell c0 hbw
      have L1 := later_cell c1 hbw
      have L2 := later_cell c2 hbw
      have L3 := later_cell c3 hbw
      have L4 := later_cell c4 hbw
      have L5 := later_cell c5 hbw
      have L6 := later_cell c6 hbw
      have M0 := later_cell d0 hbw'
      have M1 := later_cell d1 hbw'
      have M2 := later_cell d2 hbw'
      have M3 := later_cell d3 hbw'
      have M4 := later_cell d4 hbw'
      have M5 := later_cell d5 hbw'
      have M6 := later_cell d6 hbw'
      clear hr hr'
      go_wp2_with fail
      refine wp_region_later (by kernel_rfl) (by kernel_rfl) ?_
      repeat (go_big_quiet_step ((go_at_call 20; exact later_of (eqEntry_same _ _))))
      refine wpQuiet_nil ?_
      rintro wn ⟨⟨_, hbn⟩, rfl⟩
      clear L0 L1 L2 L3 L4 L5 L6 M0 M1 M2 M3 M4 M5 M6
      go_wp2
      go_roundw
      case rel => exact ⟨k + 1, by omega, by go_num, hb.trans (hbn.mono hb.size)⟩
      case measure => simp [intOf]; omega
    · go_wp2
      go_ret
      exact ⟨rfl, hb⟩
end Go.Proofs.Ytcpmahchagjhkaa
/-
  The laws' own helpers markEntryS and heldEntryS, exactly: what is marked is held. Conditions: as each theorem says.
-/
namespace Go.Proofs.Ytcpmahchagjhkaa
open Go.ChangeShapes Go.WideShapes Go.ChangeAt Go.RowKit Go.Joins

def ment (i : Nat) : EntD := ⟨(i : Int) * 7 + 1, (i : Int) * 7 + 2, ⟨(i : Int) * 7 + 3, (i : Int) * 7 + 4, (i : Int) * 7 + 5, (i : Int) * 7 + 6, mtB (i * 7 + 7)⟩⟩
def ments (n : Nat) : List EntD := (List.range n).map ment
theorem ments_len (n : Nat) : (ments n).length = n := by simp [ments]
theorem ments_at {n i : Nat} (h : i < n) : eat (ments n) i = ment i := by simp [eat, ments, List.getD_eq_getElem?_getD, h]
theorem ment_eq {k : Nat} {z : Int} (hz : z = (k : Int) * 7 + 1) : ment k = ⟨z, z + 1, ⟨z + 1 + 1, z + 1 + 1 + 1, z + 1 + 1 + 1 + 1, z + 1 + 1 + 1 + 1 + 1, mtB (k * 7 + 7)⟩⟩ := by
  subst hz; unfold ment; congr 1 <;> (try congr 1) <;> omega
set_option maxRecDepth 100000 in
set_option maxHeartbeats 2000000 in
theorem markEntryS_exC (g C cap : Nat) (es : List EntD) (w : World) (h : OwnEC w g C es) (hl : es.length ≤ 1048576) :
    Calls Try.prog 16 #[.slice (some ⟨g, 0, none⟩) es.length cap, .int .i64 1] w (fun e w' => e = .returned (.int .i64 ((es.length : Int) * 7 + 1)) ∧ OwnEC w' g C (ments es.length) ∧ But g w.heap.size w w') := by
  obtain ⟨f0, hf0, hC, _⟩ := h
  go_enter Try.func16, Try.ntmps16
  go_wp2_with fail
  go_loopw [1, 5] (fun m t wr => ∃ (k : Nat) (z : Int) (f : Nat → Value), k ≤ es.length ∧ t = .int .i64 k ∧ m = .int .i64 z ∧ Hid (z = (k : Int) * 7 + 1) ∧ 1 ≤ z ∧ z ≤ 7340033 ∧ wr.rowIs g 44 C f ∧ Hid (EntsF f (ments es.length) k) ∧ But g w.heap.size w wr) (fun _ t _ => es.length - (intOf t).toNat)
  case atStart => exact ⟨0, 1, f0, Nat.zero_le _, rfl, rfl, rfl, by omega, by omega, hf0, fun i hi => by omega, But.refl _ _ _⟩
  case round =>
    obtain ⟨k, z, f, hk, rfl, rfl, hz, z0, z1, hrow, hF, hb⟩ := hrel
    have hgw := hrow.lt
    by_cases hlt : k < es.length
    · have i1 : (k : Int) < (es.length : Int) := by omega
      have HF := Lib.hid (entsF_set ⟨z, z + 1, ⟨z + 1 + 1, z + 1 + 1 + 1, z + 1 + 1 + 1 + 1, z + 1 + 1 + 1 + 1 + 1, mtB (k * 7 + 7)⟩⟩ ((ments_at hlt).trans (ment_eq hz.out)) hF.out)
      clear hF
      have d0 := hrow.cell (show k * 7 < _ by omega)
      have y0 := hrow.frozen (k * 7)
      have d1 := hrow.cell (show k * 7 + 1 < _ by omega)
      have y1 := hrow.frozen (k * 7 + 1)
      have d2 := hrow.cell (show k * 7 + 2 < _ by omega)
      have y2 := hrow.frozen (k * 7 + 2)
      have d3 := hrow.cell (show k * 7 + 3 < _ by omega)
      have y3 := hrow.frozen (k * 7 + 3)
      have d4 := hrow.cell (show k * 7 + 4 < _ by omega)
      have y4 := hrow.frozen (k * 7 + 4)
      have d5 := hrow.cell (show k * 7 + 5 < _ by omega)
      have y5 := hrow.frozen (k * 7 + 5)
      have HB : But g w.heap.size w ((((((wr.setCell ⟨g, k * 7, none⟩ (.int .i64 z)).setCell ⟨g, k * 7 + 1, none⟩ (.int .i64 (z + 1))).setCell ⟨g, k * 7 + 2, none⟩ (.int .i64 (z + 1 + 1))).setCell ⟨g, k * 7 + 3, none⟩ (.int .i64 (z + 1 + 1 + 1))).setCell ⟨g, k * 7 + 4, none⟩ (.int .i64 (z + 1 + 1 + 1 + 1))).setCell ⟨g, k * 7 + 5, none⟩ (.int .i64 (z + 1 + 1 + 1 + 1 + 1))) := ((((((hb.setCell (k * 7) _).setCell (k * 7 + 1) _).setCell (k * 7 + 2) _).setCell (k * 7 + 3) _).setCell (k * 7 + 4) _).setCell (k * 7 + 5) _)
      have HR := ((((((hrow.set (k * 7) (.int .i64 z)).set (k * 7 + 1) (.int .i64 (z + 1))).set (k * 7 + 2) (.int .i64 (z + 1 + 1))).set (k * 7 + 3) (.int .i64 (z + 1 + 1 + 1))).set (k * 7 + 4) (.int .i64 (z + 1 + 1 + 1 + 1))).set (k * 7 + 5) (.int .i64 (z + 1 + 1 + 1 + 1 + 1)))
      have hsz : ((((((wr.setCell ⟨g, k * 7, none⟩ (.int .i64 z)).setCell ⟨g, k * 7 + 1, none⟩ (.int .i64 (z + 1))).setCell ⟨g, k * 7 + 2, none⟩ (.int .i64 (z + 1 + 1))).setCell ⟨g, k * 7 + 3, none⟩ (.int .i64 (z + 1 + 1 + 1))).setCell ⟨g, k * 7 + 4, none⟩ (.int .i64 (z + 1 + 1 + 1 + 1))).setCell ⟨g, k * 7 + 5, none⟩ (.int .i64 (z + 1 + 1 + 1 + 1 + 1))).heap.size = wr.heap.size := by simp [World.setCell]
      have HM := Lib.hid (markText_ex (k * 7 + 7) ((((((wr.setCell ⟨g, k * 7, none⟩ (.int .i64 z)).setCell ⟨g, k * 7 + 1, none⟩ (.int .i64 (z + 1))).setCell ⟨g, k * 7 + 2, none⟩ (.int .i64 (z + 1 + 1))).setCell ⟨g, k * 7 + 3, none⟩ (.int .i64 (z + 1 + 1 + 1))).setCell ⟨g, k * 7 + 4, none⟩ (.int .i64 (z + 1 + 1 + 1 + 1))).setCell ⟨g, k * 7 + 5, none⟩ (.int .i64 (z + 1 + 1 + 1 + 1 + 1))) (by omega))
      rw [show (((k * 7 + 7 : Nat) : Int)) = z + 1 + 1 + 1 + 1 + 1 + 1 by have := hz.out; omega] at HM
      have HZ2 : Hid (z + 1 + 1 + 1 + 1 + 1 + 1 + 1 = ((k + 1 : Nat) : Int) * 7 + 1) := by have := hz.out; unfold Hid; omega
      have z2 : z + 1 + 1 + 1 + 1 + 1 + 1 + 1 ≤ 7340033 := by have := hz.out; omega
      generalize f (k * 7) = v0 at d0
      generalize f (k * 7 + 1) = v1 at d1
      generalize f (k * 7 + 2) = v2 at d2
      generalize f (k * 7 + 3) = v3 at d3
      generalize f (k * 7 + 4) = v4 at d4
      generalize f (k * 7 + 5) = v5 at d5
      clear hz
      go_upto_region 16 with fail
      generalize ((((((wr.setCell ⟨g, k * 7, none⟩ (.int .i64 z)).setCell ⟨g, k * 7 + 1, none⟩ (.int .i64 (z + 1))).setCell ⟨g, k * 7 + 2, none⟩ (.int .i64 (z + 1 + 1))).setCell ⟨g, k * 7 + 3, none⟩ (.int .i64 (z + 1 + 1 + 1))).setCell ⟨g, k * 7 + 4, none⟩ (.int .i64 (z + 1 + 1 + 1 + 1))).setCell ⟨g, k * 7 + 5, none⟩ (.int .i64 (z + 1 + 1 + 1 + 1 + 1))) = W6 at *
      clear d0 y0 d1 y1 d2 y2 d3 y3 d4 y4 d5 y5
      go_wp2_with fail
      refine HM.out.mono ?_
      rintro e w1 ⟨rfl, hb1⟩
      rw [hsz] at hb1
      have hrow1 := HR.of_block (hb1.block g hgw)
      have hbw1 : But g w.heap.size w w1 := HB.trans ((But.of_below hb1).mono hb.size)
      have d6 := hrow1.cell (show k * 7 + 6 < _ by omega)
      have y6 := hrow1.frozen (k * 7 + 6)
      generalize hmt : mtB (k * 7 + 7) = mt at *
      have HR1 := Lib.hid (hrow1.set (k * 7 + 6) (.string mt))
      have HB1 := Lib.hid (hbw1.setCell (k * 7 + 6) (.string mt))
      clear HR HB hb1 hsz hmt HM hrow1
      go_wp2
      go_roundw
      case rel => exact ⟨k + 1, _, _, by omega, by go_num, rfl, HZ2, by omega, z2, HR1.out, HF, HB1.out⟩
      case measure => simp [intOf]; omega
    · obtain rfl : k = es.length := by omega
      go_wp2
      go_ret
      exact ⟨by rw [hz.out]; rfl, ⟨f, hrow, by rw [ments_len]; exact hC, by rw [ments_len]; exact hF.out⟩, hb⟩
theorem markEntryS_nil (a : Option Addr) (cap : Nat) (w : World) :
    Calls Try.prog 16 #[.slice a 0 cap, .int .i64 1] w (fun e w' => e = .returned (.int .i64 1) ∧ w = w') := by
  go_enter Try.func16, Try.ntmps16
  go_wp2_with fail
  go_loopw [1, 5] (fun m t wr => m = .int .i64 1 ∧ t = .int .i64 0 ∧ wr = w) (fun _ _ _ => 0)
  case atStart => exact ⟨rfl, rfl, rfl⟩
  case round =>
    obtain ⟨rfl, rfl, rfl⟩ := hrel
    go_wp2
    go_ret
    exact ⟨rfl, rfl⟩
theorem markEntryS_got (base : Nat) (a : Option Addr) (cap : Nat) (es : List EntD) (w : World) (hb : base ≤ w.heap.size) (h : GotE base w a es) (hl : es.length ≤ 1048576) :
    Calls Try.prog 16 #[.slice a es.length cap, .int .i64 1] w (fun e w' => e = .returned (.int .i64 ((es.length : Int) * 7 + 1)) ∧ GotE base w' a (ments es.length) ∧ Below base w w') := by
  rcases h with h | ⟨g, C, rfl, hg, ho⟩
  · rw [h]
    refine (markEntryS_nil a cap w).mono ?_
    rintro e w' ⟨rfl, rfl⟩
    exact ⟨rfl, .inl rfl, Below.refl _ _⟩
  · refine (markEntryS_exC g C cap es w ho hl).mono ?_
    rintro e w' ⟨rfl, h1, h2⟩
    exact ⟨rfl, .inr ⟨g, C, rfl, hg, h1⟩, h2.below hg hb⟩
def RetHeldE (n : Nat) (w : World) (e : Ending) (w' : World) : Prop := e = .returned (.int .i64 ((n : Int) * 7 + 1)) ∧ Below w.heap.size w w'
set_option maxRecDepth 100000 in
set_option maxHeartbeats 2000000 in
theorem heldEntryS_ex (B : Nat) (a : Option Addr) (cap n : Nat) (w : World) (hB : B ≤ w.heap.size) (h : EntsAt B w a (ments n)) (hl : n ≤ 1048576) :
    Calls Try.prog 18 #[.slice a n cap, .int .i64 1] w (RetHeldE n w) := by
  go_enter Try.func18, Try.ntmps18
  go_wp2_with fail
  go_loopw [1, 5] (fun m t wr => ∃ (k : Nat) (z : Int), k ≤ n ∧ t = .int .i64 k ∧ m = .int .i64 z ∧ Hid (z = (k : Int) * 7 + 1) ∧ 1 ≤ z ∧ z ≤ 7340033 ∧ Below w.heap.size w wr) (fun _ t _ => n - (intOf t).toNat)
  case atStart => exact ⟨0, 1, Nat.zero_le _, rfl, rfl, rfl, by omega, by omega, Below.refl _ _⟩
  case round =>
    obtain ⟨k, z, hk, rfl, rfl, hz, z0, z1, hb⟩ := hrel
    have hr := h.below (hb.mono hB)
    by_cases hlt : k < n
    · obtain ⟨b, off, rfl, hbB, c0, c1, c2, c3, c4, c5, c6⟩ := hr.at_ (show k < (ments n).length by rw [ments_len]; exact hlt)
      rw [ments_at hlt, ment_eq hz.out] at c0 c1 c2 c3 c4 c5 c6
      simp only at c0 c1 c2 c3 c4 c5 c6
      have i1 : (k : Int) < (n : Int) := by omega
      have hbw : b < wr.heap.size := by have := hb.size; omega
      have HM : Hid (∀ u : World, Calls Try.prog 21 #[.int .i64 (z + 1 + 1 + 1 + 1 + 1 + 1)] u (RetBelow (.string (mtB (k * 7 + 7))) u)) := fun u => by
        have hm := markText_ex (k * 7 + 7) u (by omega)
        rw [show (((k * 7 + 7 : Nat) : Int)) = z + 1 + 1 + 1 + 1 + 1 + 1 by have := hz.out; omega] at hm
        exact hm
      have HZ2 : Hid (z + 1 + 1 + 1 + 1 + 1 + 1 + 1 = ((k + 1 : Nat) : Int) * 7 + 1) := by have := hz.out; unfold Hid; omega
      have z2 : z + 1 + 1 + 1 + 1 + 1 + 1 + 1 ≤ 7340033 := by have := hz.out; omega
      have L6 := later_cell c6 hbw
      generalize hmt : mtB (k * 7 + 7) = mt at *
      clear hmt hz hr
      go_wp2_with fail
      refine wp_region_later (by kernel_rfl) (by kernel_rfl) ?_
      repeat (go_big_quiet_step ((go_at_call 21; exact later_of (HM.out _))))
      refine wpQuiet_nil ?_
      rintro wn ⟨⟨_, hbn⟩, rfl⟩
      clear L6
      go_wp2
      go_roundw
      case rel => exact ⟨k + 1, _, by omega, by go_num, rfl, HZ2, by omega, z2, hb.trans (hbn.mono hb.size)⟩
      case measure => simp [intOf]; omega
    · obtain rfl : k = n := by omega
      go_wp2
      go_ret
      exact ⟨by rw [hz.out]; rfl, hb⟩
end Go.Proofs.Ytcpmahchagjhkaa
