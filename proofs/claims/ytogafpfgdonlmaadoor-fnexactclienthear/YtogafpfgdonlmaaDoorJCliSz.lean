/-
  Sizes of clients and entries as arguments, with what is left behind them. Conditions: as each theorem says.
-/
import Derived.Test.YtogafpfgdonlmaaDoorJCliArg
namespace Go.Proofs.YtogafpfgdonlmaaDoor
open Go.ChangeShapes Go.WideShapes Go.ChangeAt Go.RowKit Go.Joins
set_option linter.unusedVariables false

theorem szOp_le (o : OpD) (left : Int) (w : World) (hs : o.txt.size ≤ maxLen) (h1 : left ≤ 1048576) (h0 : 0 ≤ left) :
    Calls Tryd.prog 6 #[.agg #[.int .i64 o.kind, .int .i64 o.id, .int .i64 o.up, .int .i64 o.at_, .string o.txt], .int .i64 left] w fun e w' => ∃ z : Int, z ≤ left ∧ -1 ≤ z ∧ e = .returned (.int .i64 z) ∧ Below w.heap.size w w' := by
  unfold maxLen at hs
  by_cases h : left - (o.txt.size : Int) < 0
  · go_enter Tryd.func6, Tryd.ntmps6
    go_wp2
    go_ret
    exact ⟨_, by omega, by omega, rfl, (Below.refl _ _).alloc (Nat.le_refl _) _⟩
  · have h' : 0 ≤ left - (o.txt.size : Int) := by omega
    clear h
    go_enter Tryd.func6, Tryd.ntmps6
    go_wp2
    go_ret
    exact ⟨_, by omega, by omega, rfl, (Below.refl _ _).alloc (Nat.le_refl _) _⟩
def SzLe (left : Int) (w : World) (e : Ending) (w' : World) : Prop := ∃ z : Int, z ≤ left ∧ e = .returned (.int .i64 z) ∧ Below w.heap.size w w'
theorem szEntry_le (e : EntD) (left : Int) (w : World) (hs : e.op.txt.size ≤ maxLen) (h1 : left ≤ 1048576) (h0 : 0 ≤ left) :
    Calls Tryd.prog 32 #[.agg #[.int .i64 e.who, .int .i64 e.seq, .int .i64 e.op.kind, .int .i64 e.op.id, .int .i64 e.op.up, .int .i64 e.op.at_, .string e.op.txt], .int .i64 left] w (SzLe left w) := by
  have hb : Below w.heap.size w (w.alloc (.cells #[.int .i64 e.who, .int .i64 e.seq, .int .i64 e.op.kind, .int .i64 e.op.id, .int .i64 e.op.up, .int .i64 e.op.at_, .string e.op.txt] 69)) := (Below.refl _ _).alloc (Nat.le_refl _) _
  go_enter Tryd.func32, Tryd.ntmps32
  go_wp2_with fail
  refine (szOp_le e.op _ _ hs h1 h0).mono ?_
  rintro _ w1 ⟨z, z1, z0, rfl, hb1⟩
  have hb2 := hb.trans (hb1.mono hb.size)
  by_cases hz : z < 0
  · go_wp2
    go_ret
    exact ⟨-1, by omega, rfl, hb2⟩
  · go_wp2
    go_ret
    exact ⟨z, z1, rfl, hb2⟩
def SizedG (z0 : Int) (es : List EntD) (w : World) (e : Ending) (w' : World) : Prop := ∃ z : Int, e = .returned (.int .i64 z) ∧ (z < 0 ∨ (0 ≤ z ∧ z ≤ z0 - (es.length : Int))) ∧ Below w.heap.size w w'
theorem szEntryS_to (q0 : Int) (hq0 : 0 ≤ q0) (hq1 : q0 ≤ 1048576) (B : Nat) (a : Option Addr) (cap : Nat) (es : List EntD) (w : World) (hB : B ≤ w.heap.size) (h : EntsAt B w a es) (hf : ∀ i, i < es.length → EFit (eat es i)) (hl : es.length ≤ maxLen) :
    Calls Tryd.prog 14 #[.slice a es.length cap, .int .i64 q0] w (SizedG q0 es w) := by
  unfold maxLen at hl
  by_cases h0 : q0 - (es.length : Int) < 0
  · go_enter Tryd.func14, Tryd.ntmps14
    go_wp2
    go_ret
    exact ⟨-1, rfl, .inl (by decide), Below.refl _ _⟩
  · have hlen : (es.length : Int) ≤ q0 := by omega
    go_enter Tryd.func14, Tryd.ntmps14
    go_wp2_with fail
    go_loopw [1, 5] (fun l t wr => ∃ (k : Nat) (z : Int), k ≤ es.length ∧ t = .int .i64 k ∧ l = .int .i64 z ∧ 0 ≤ z ∧ z ≤ q0 - (es.length : Int) ∧ Below w.heap.size w wr) (fun _ t _ => es.length - (intOf t).toNat)
    case atStart => exact ⟨0, _, Nat.zero_le _, rfl, rfl, by omega, by omega, Below.refl _ _⟩
    case round =>
      obtain ⟨k, z, hk, rfl, rfl, z0, z1, hb⟩ := hrel
      have hr := h.below (hb.mono hB)
      by_cases hlt : k < es.length
      · obtain ⟨b, off, rfl, hbB, c0, c1, c2, c3, c4, c5, c6⟩ := hr.at_ hlt
        have f3 := (hf k hlt).op.txt
        have i1 : (k : Int) < (es.length : Int) := by omega
        go_wp2_with fail
        refine (szEntry_le (eat es k) _ _ f3 (by omega) z0).mono ?_
        rintro _ w1 ⟨z', hz1, rfl, hb1⟩
        have hb2 := hb.trans (hb1.mono hb.size)
        by_cases hz : z' < 0
        · go_wp2
          go_ret
          exact ⟨-1, rfl, .inl (by decide), hb2⟩
        · have hz0 : 0 ≤ z' := by omega
          go_wp2
          go_roundw
          case rel => exact ⟨k + 1, z', by omega, by go_num, rfl, hz0, by omega, hb2⟩
          case measure => simp [intOf]; omega
      · go_wp2
        go_ret
        exact ⟨z, rfl, .inr ⟨z0, z1⟩, hb⟩
def SizedD (c : CliD) (w : World) (e : Ending) (w' : World) : Prop := ∃ z : Int, e = .returned (.int .i64 z) ∧ (z < 0 ∨ (0 ≤ z ∧ z + (c.base.length : Int) + (c.wait.length : Int) ≤ 1048576)) ∧ Below w.heap.size w w'
theorem szClient_to (c : CliD) (ba wa : Option Addr) (bc wc : Nat) (w : World) (h : CliAt w.heap.size w c ba bc wa wc) (hf : CliFitW c) :
    Calls Tryd.prog 5 #[.agg #[.int .i64 c.who, .int .i64 c.seen, .slice ba c.base.length bc, .slice wa c.wait.length wc, .int .i64 c.done, .int .i64 c.made], .int .i64 1048576] w (SizedD c w) := by
  have hb0 : Below w.heap.size w (w.alloc (.cells #[.int .i64 c.who, .int .i64 c.seen, .slice ba c.base.length bc, .slice wa c.wait.length wc, .int .i64 c.done, .int .i64 c.made] 25)) := (Below.refl _ _).alloc (Nat.le_refl _) _
  have X0 := Bx.new w 25 #[.int .i64 c.who, .int .i64 c.seen, .slice ba c.base.length bc, .slice wa c.wait.length wc, .int .i64 c.done, .int .i64 c.made]
  go_enter Tryd.func5, Tryd.ntmps5
  go_upto_region 1 with fail
  generalize w.alloc (.cells #[.int .i64 c.who, .int .i64 c.seen, .slice ba c.base.length bc, .slice wa c.wait.length wc, .int .i64 c.done, .int .i64 c.made] 25) = w0 at *
  obtain ⟨x0, x1, x2, x3, x4, x5⟩ := X0.cli
  go_wp2_with fail
  refine (szRowS_left w.heap.size ba bc c.base _ hb0.size (h.rows.below hb0) hf.base (Nat.le_trans h.bl h.bm)).mono ?_
  rintro _ w1 ⟨z, rfl, hz, hb1⟩
  have hb2 := hb0.trans (hb1.mono hb0.size)
  have X1 := X0.below hb1 X0.lt
  clear X0 x0 x1 x2 x3 x4 x5 hb0 hb1
  rcases hz with hn | ⟨hz0, hz1⟩
  · go_wp2
    go_ret
    exact ⟨-1, rfl, .inl (by decide), hb2⟩
  · obtain ⟨x0, x1, x2, x3, x4, x5⟩ := X1.cli
    have hzn : ¬ z < 0 := by omega
    go_wp2_with fail
    refine (szEntryS_to z hz0 (by omega) w.heap.size wa wc c.wait _ hb2.size (h.ents.below hb2) hf.wait (Nat.le_trans h.wl h.wm)).mono ?_
    rintro _ w2 ⟨z2, rfl, hz2, hb3⟩
    have hb4 := hb2.trans (hb3.mono hb2.size)
    clear X1 x0 x1 x2 x3 x4 x5 hb3
    by_cases hn : z2 < 0
    · go_wp2
      go_ret
      exact ⟨-1, rfl, .inl (by decide), hb4⟩
    · have hz3 : 0 ≤ z2 ∧ z2 + (c.base.length : Int) + (c.wait.length : Int) ≤ 1048576 := by
        rcases hz2 with q | ⟨q1, q2⟩
        · exact absurd q hn
        · exact ⟨q1, by omega⟩
      have HZ3 := Lib.hid hz3
      clear hz3 hz2
      go_wp2
      go_ret
      exact ⟨z2, rfl, .inr HZ3.out, hb4⟩
end Go.Proofs.YtogafpfgdonlmaaDoor
