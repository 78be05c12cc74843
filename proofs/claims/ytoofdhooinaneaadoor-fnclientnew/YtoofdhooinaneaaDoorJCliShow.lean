/-
  Contracts of the model's and the program's ClientShow. Conditions: as each theorem says.
-/
import Derived.Test.YtoofdhooinaneaaDoorJDesk1
import Derived.Test.YtoofdhooinaneaaDoorJCliS1
import Derived.Test.YtoofdhooinaneaaDoorGG
namespace Go.Proofs.YtoofdhooinaneaaDoor
open Go.ChangeShapes Go.WideShapes Go.ChangeAt Go.RowKit Go.Joins

set_option maxRecDepth 100000 in
set_option maxHeartbeats 4000000 in
theorem implClientShow_any (c : CliD) (ba wa : Option Addr) (bc wc : Nat) (w : World) (h : CliAt w.heap.size w c ba bc wa wc) (hf : CliFit c) (ht : Tab w) :
    Calls Tryd.prog 14 #[.agg #[.int .i64 c.who, .int .i64 c.seen, .slice ba c.base.length bc, .slice wa c.wait.length wc, .int .i64 c.done, .int .i64 c.made]] w (RetGot w.heap.size (cliShow c) w) := by
  have hz := ht.pos
  have al := (Below.refl w.heap.size w).alloc (Nat.le_refl _) (.cells #[.int .i64 c.who, .int .i64 c.seen, .slice ba c.base.length bc, .slice wa c.wait.length wc, .int .i64 c.done, .int .i64 c.made] 27)
  have X0 := Bx.new w 27 #[.int .i64 c.who, .int .i64 c.seen, .slice ba c.base.length bc, .slice wa c.wait.length wc, .int .i64 c.done, .int .i64 c.made]
  go_enter Tryd.func14, Tryd.ntmps14
  go_upto_region 1 with fail
  generalize w.alloc (.cells #[.int .i64 c.who, .int .i64 c.seen, .slice ba c.base.length bc, .slice wa c.wait.length wc, .int .i64 c.done, .int .i64 c.made] 27) = w1 at *
  obtain ⟨x0, x1, x2, x3, x4, x5⟩ := X0.cli
  go_wp2_with fail
  refine (deskOf_any c ba wa bc wc w1 (h.on al al.size) hf (ht.below al hz)).mono ?_
  rintro _ w2 ⟨b2, h2⟩
  have L2 := al.trans (b2.mono al.size)
  have s1 := al.size
  clear X0 al b2 x0 x1 x2 x3 x4 x5
  have Y2 := Bx.new w2 74 Tryd.zeroCells74
  have L3 := L2.alloc L2.size (.cells Tryd.zeroCells74 74)
  rcases h2 with ⟨hok, rfl⟩ | ⟨hok, cs, ga, gc, rfl, hV, G2, q1, q2⟩
  · have hst := @run_storeDesk w2.heap.size Tryd.zeroCells74 Tryd.zeroCells74 _ Y2 Tryd.zeroCells74_size Tryd.zeroCells74_size zero_mem
    have HN := Lib.hid (show_no hok)
    have L4 := below_setRow L3 L2.size Tryd.zeroCells74
    clear hok
    go_wp2
    go_ret
    rw [HN.out]
    exact ⟨none, 0, rfl, .inl rfl, Nat.le_refl _, Nat.zero_le _, L4⟩
  · have hst := @run_storeDesk w2.heap.size Tryd.zeroCells74 cs _ Y2 Tryd.zeroCells74_size hV.size hV.plain
    have hcs := hV.size
    obtain ⟨e1, e2, e3, e4, e5, e6⟩ := head_iff.1 (cli_iff.1 hok).1
    have HS := Lib.hid (show_is hok)
    have Q3 := Y2.row (cs' := cs)
    have L4 := below_setRow L3 L2.size cs
    have G3 : Got w.heap.size ((w2.alloc (.cells Tryd.zeroCells74 74)).setRow w2.heap.size cs) ga c.base := ((G2.base s1).below ((Below.refl w2.heap.size w2).alloc (Nat.le_refl _) _) (Nat.le_refl _)).rowB Y2 (by decide) cs
    have hops : ∀ i, i < c.wait.length → opokB (eat c.wait i).op = true := fun i hi => ent_opok (cli_ops hok i hi)
    clear L3 Y2 G2 hok
    go_upto_region 2 with fail
    generalize (w2.alloc (.cells Tryd.zeroCells74 74)).setRow w2.heap.size cs = w3 at *
    generalize w2.heap.size = B2 at *
    have HW := Lib.hid (show_desk w.heap.size B2 cs c (c.done.toNat + 1) ga gc w3 Q3 hV (by omega) G3 q1 q2 L4.size e3 hops hf.wait (ht.below L4 hz))
    rw [← HS.out] at HW
    generalize cliShow c = res at *
    clear hst hV Q3 G3 hops HS
    go_wp2_with fail
    refine HW.out.mono ?_
    rintro _ w4 ⟨ya, yc, rfl, G4, k1, k2, b4⟩
    have L5 := L4.trans (b4.mono L4.size)
    clear HW L4 b4
    go_wp2
    go_ret
    exact ⟨ya, yc, rfl, G4, k1, k2, L5⟩
end Go.Proofs.YtoofdhooinaneaaDoor
