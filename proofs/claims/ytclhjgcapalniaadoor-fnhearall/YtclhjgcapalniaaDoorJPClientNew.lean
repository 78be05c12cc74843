/-
  The walk of the law FnClientNew out of the contracts. Conditions: the argument reads as bytes; the table 'creators' holds what its initialiser lays.
-/
import Derived.Test.YtclhjgcapalniaaDoorJCliNew
import Derived.Test.YtclhjgcapalniaaDoorJCliShow
import Derived.Test.YtclhjgcapalniaaDoorJLpRows
import Derived.Test.YtclhjgcapalniaaDoorJLpLog
import Derived.Test.YtclhjgcapalniaaDoorGA
namespace Go.Proofs.YtclhjgcapalniaaDoor
open Go.ChangeShapes Go.WideShapes Go.ChangeAt Go.RowKit Go.Joins

set_option maxRecDepth 100000 in
set_option maxHeartbeats 2000000 in
theorem lpClient_same (c : CliD) (ba wa ba' wa' : Option Addr) (bc wc bc' wc' : Nat) (w : World) (h : CliAt w.heap.size w c ba bc wa wc) (h' : CliAt w.heap.size w c ba' bc' wa' wc') (hl1 : c.base.length ≤ 1048576) (hl2 : c.wait.length ≤ 1048576) :
    Calls Tryd.prog 30 #[.agg #[.int .i64 c.who, .int .i64 c.seen, .slice ba c.base.length bc, .slice wa c.wait.length wc, .int .i64 c.done, .int .i64 c.made], .agg #[.int .i64 c.who, .int .i64 c.seen, .slice ba' c.base.length bc', .slice wa' c.wait.length wc', .int .i64 c.done, .int .i64 c.made]] w (RetBelow (.bool true) w) := by
  have hb0 : Below w.heap.size w (w.alloc (.cells #[.int .i64 c.who, .int .i64 c.seen, .slice ba c.base.length bc, .slice wa c.wait.length wc, .int .i64 c.done, .int .i64 c.made] 51)) := (Below.refl _ _).alloc (Nat.le_refl _) _
  have X0 := (Bx.new w 51 #[.int .i64 c.who, .int .i64 c.seen, .slice ba c.base.length bc, .slice wa c.wait.length wc, .int .i64 c.done, .int .i64 c.made]).alloc (.cells #[.int .i64 c.who, .int .i64 c.seen, .slice ba' c.base.length bc', .slice wa' c.wait.length wc', .int .i64 c.done, .int .i64 c.made] 51)
  have Y0 := Bx.new (w.alloc (.cells #[.int .i64 c.who, .int .i64 c.seen, .slice ba c.base.length bc, .slice wa c.wait.length wc, .int .i64 c.done, .int .i64 c.made] 51)) 51 #[.int .i64 c.who, .int .i64 c.seen, .slice ba' c.base.length bc', .slice wa' c.wait.length wc', .int .i64 c.done, .int .i64 c.made]
  have hb1 := hb0.alloc hb0.size (.cells #[.int .i64 c.who, .int .i64 c.seen, .slice ba' c.base.length bc', .slice wa' c.wait.length wc', .int .i64 c.done, .int .i64 c.made] 51)
  have hs : (w.alloc (.cells #[.int .i64 c.who, .int .i64 c.seen, .slice ba c.base.length bc, .slice wa c.wait.length wc, .int .i64 c.done, .int .i64 c.made] 51)).heap.size = w.heap.size + 1 := by simp
  rw [hs] at Y0
  clear hb0 hs
  go_enter Tryd.func30, Tryd.ntmps30
  go_upto_region 1 with fail
  generalize (w.alloc (.cells #[.int .i64 c.who, .int .i64 c.seen, .slice ba c.base.length bc, .slice wa c.wait.length wc, .int .i64 c.done, .int .i64 c.made] 51)).alloc (.cells #[.int .i64 c.who, .int .i64 c.seen, .slice ba' c.base.length bc', .slice wa' c.wait.length wc', .int .i64 c.done, .int .i64 c.made] 51) = w1 at *
  obtain ⟨x0, x1, x2, x3, x4, x5⟩ := X0.cli
  obtain ⟨y0, y1, y2, y3, y4, y5⟩ := Y0.cli
  go_wp2_with fail
  refine (lpRows_same w.heap.size ba ba' bc bc' c.base _ hb1.size (h.rows.below hb1) (h'.rows.below hb1) hl1).mono ?_
  rintro _ w2 ⟨rfl, b2⟩
  have X2 := X0.below b2 X0.lt
  have Y2 := Y0.below b2 Y0.lt
  have L2 := hb1.trans (b2.mono hb1.size)
  clear X0 Y0 hb1 b2 x0 x1 x2 x3 x4 x5 y0 y1 y2 y3 y4 y5
  obtain ⟨x0, x1, x2, x3, x4, x5⟩ := X2.cli
  obtain ⟨y0, y1, y2, y3, y4, y5⟩ := Y2.cli
  go_wp2_with fail
  refine (lpLog_same w.heap.size wa wa' wc wc' c.wait _ L2.size (h.ents.below L2) (h'.ents.below L2) hl2).mono ?_
  rintro _ w3 ⟨rfl, b3⟩
  have X3 := X2.below b3 X2.lt
  have Y3 := Y2.below b3 Y2.lt
  have L3 := L2.trans (b3.mono L2.size)
  clear X2 Y2 L2 b3 x0 x1 x2 x3 x4 x5 y0 y1 y2 y3 y4 y5
  obtain ⟨x0, x1, x2, x3, x4, x5⟩ := X3.cli
  obtain ⟨y0, y1, y2, y3, y4, y5⟩ := Y3.cli
  go_wp2
  go_ret
  exact ⟨rfl, L3⟩
theorem i64_zero : I64 0 := by unfold I64; decide
theorem new_ok {who : Int} (h : inB who 1 3 = true) : cliB (cliNew who) = true ∧ cliShow (cliNew who) = r3 := by
  have hc : cliB (cliNew who) = true := by
    rw [new_is h]
    have h3 : r3.length = 3 := rfl
    rw [cli_iff, head_iff]
    exact ⟨⟨(inB_iff _ _ _).1 h, ⟨by show (0 : Int) ≤ 0; decide, by show (0 : Int) ≤ 40; decide⟩, tree_r3, ⟨by show (0 : Int) ≤ 0; decide, by show (0 : Int) ≤ 0; decide⟩, by simp, by show (0 : Int) ≤ 0; decide, by show (0 : Int) ≤ 6; decide⟩, waitTo_zero _ _ _ _⟩
  refine ⟨hc, ?_⟩
  rw [show_is hc, new_is h]; rfl
def DrewN (lo hi : Int) (w : World) (e : Ending) (w' : World) : Prop := ∃ n : Int, lo ≤ n ∧ n ≤ hi ∧ e = .returned (.int .i64 n) ∧ Below w.heap.size w w'
end Go.Proofs.YtclhjgcapalniaaDoor
