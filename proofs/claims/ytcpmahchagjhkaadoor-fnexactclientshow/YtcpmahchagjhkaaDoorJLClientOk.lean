/-
  The walk of the law FnExactClientOk out of the contracts. Conditions: the argument reads as a client; the table 'creators' holds what its initialiser lays.
-/
import Derived.Test.YtcpmahchagjhkaaDoorJCliMark
import Derived.Test.YtcpmahchagjhkaaDoorJCliS1
import Derived.Test.YtcpmahchagjhkaaDoorJCliI1
namespace Go.Proofs.YtcpmahchagjhkaaDoor
open Go.ChangeShapes Go.WideShapes Go.ChangeAt Go.RowKit Go.Joins Go.Deep

theorem cliAt_own {w : World} {c : CliD} {g h : Nat} (hO : OwnC w g (c.base.length * 3) c.base) (hE : OwnEC w h (c.wait.length * 7) c.wait) (hl : c.base.length + c.wait.length ≤ 1048576) : CliAt w.heap.size w c (some ⟨g, 0, none⟩) c.base.length (some ⟨h, 0, none⟩) c.wait.length :=
  ⟨hO.at_ hO.lt, hE.at_ hE.lt, Nat.le_refl _, by unfold maxLen; omega, Nat.le_refl _, by unfold maxLen; omega⟩
theorem cliFit_of {c : CliD} (h : CliFitW c) (hl : c.base.length + c.wait.length ≤ 1048576) : CliFit c := ⟨h.who, h.seen, h.done, h.made, ⟨by omega, h.base⟩, ⟨by omega, h.wait⟩⟩
theorem below_step {n : Nat} {w w1 w2 : World} (h : Below n w w1) (hb : Below w1.heap.size w1 w2) (hn : n ≤ w1.heap.size) : Below n w w2 := h.trans (hb.mono hn)
set_option maxRecDepth 100000 in
set_option maxHeartbeats 8000000 in
theorem fnExactClientOk_walk (w : World) (ht : Tab w) (c : CliD) (ba wa : Option Addr) (bc wc : Nat) (h : CliAt w.heap.size w c ba bc wa wc) (hf : CliFitW c) :
    Calls Tryd.prog 3 #[.agg #[.int .i64 c.who, .int .i64 c.seen, .slice ba c.base.length bc, .slice wa c.wait.length wc, .int .i64 c.done, .int .i64 c.made]] w fun e w' => e = .returned (.bool true) ∧ Below w.heap.size w w' := by
  have hz := ht.pos
  have al := (Below.refl w.heap.size w).alloc (Nat.le_refl _) (.cells #[.int .i64 c.who, .int .i64 c.seen, .slice ba c.base.length bc, .slice wa c.wait.length wc, .int .i64 c.done, .int .i64 c.made] 25)
  have A0 := Bx.new w 25 #[.int .i64 c.who, .int .i64 c.seen, .slice ba c.base.length bc, .slice wa c.wait.length wc, .int .i64 c.done, .int .i64 c.made]
  go_enter Tryd.func3, Tryd.ntmps3
  go_upto_region 1 with fail
  generalize w.alloc (.cells #[.int .i64 c.who, .int .i64 c.seen, .slice ba c.base.length bc, .slice wa c.wait.length wc, .int .i64 c.done, .int .i64 c.made] 25) = w0 at *
  obtain ⟨x0, x1, x2, x3, x4, x5⟩ := A0.cli
  go_wp2_with fail
  refine (szClient_any c ba wa bc wc w0 (h.on al al.size) hf).mono ?_
  rintro _ w1 ⟨z, rfl, hz', b1⟩
  have L1 := below_step al b1 al.size
  have A1 := A0.below b1 A0.lt
  clear al A0 b1 x0 x1 x2 x3 x4 x5
  rcases hz' with hneg | ⟨hpos, hz1, hl⟩
  · go_wp2
    go_ret
    exact ⟨rfl, L1⟩
  · have HF := Lib.hid (cliFit_of hf hl)
    have HT : Hid (∀ x, Below w.heap.size w x → Calls Tryd.prog 10 #[.agg #[.int .i64 c.who, .int .i64 c.seen, .slice ba c.base.length bc, .slice wa c.wait.length wc, .int .i64 c.done, .int .i64 c.made]] x (RetToCli c x)) := fun x hx => toClient_any c ba wa bc wc x (h.on hx hx.size) (by omega) (by omega)
    obtain ⟨x0, x1, x2, x3, x4, x5⟩ := A1.cli
    go_wp2_with fail
    refine (HT.out w1 L1).mono ?_
    rintro _ w2 ⟨g1, h1, rfl, hg1, hh1, o2, e2, b2⟩
    have L2 := below_step L1 b2 L1.size
    have A2 := A1.below b2 A1.lt
    clear L1 A1 b2 x0 x1 x2 x3 x4 x5
    go_wp2_with fail
    refine (specClientOk_any w2.heap.size c _ _ _ _ w2 (Nat.le_refl _) (cliAt_own o2 e2 hl) HF.out).mono ?_
    rintro _ w3 ⟨rfl, b3⟩
    have L4 := below_step L2 b3 L2.size
    have A4 := A2.below b3 A2.lt
    clear L2 A2 b3 o2 e2 hg1 hh1
    obtain ⟨x0, x1, x2, x3, x4, x5⟩ := A4.cli
    go_wp2_with fail
    refine (HT.out w3 L4).mono ?_
    rintro _ w5 ⟨g2, h2, rfl, hg2, hh2, o5, e5, b5⟩
    have L5 := below_step L4 b5 L4.size
    have A5 := A4.below b5 A4.lt
    clear L4 A4 b5 x0 x1 x2 x3 x4 x5
    have X6 := Bx.new w5 31 #[.int .i64 c.who, .int .i64 c.seen, .slice (some ⟨g2, 0, none⟩) c.base.length c.base.length, .slice (some ⟨h2, 0, none⟩) c.wait.length c.wait.length, .int .i64 c.done, .int .i64 c.made]
    have al5 := (Below.refl w5.heap.size w5).alloc (Nat.le_refl _) (.cells #[.int .i64 c.who, .int .i64 c.seen, .slice (some ⟨g2, 0, none⟩) c.base.length c.base.length, .slice (some ⟨h2, 0, none⟩) c.wait.length c.wait.length, .int .i64 c.done, .int .i64 c.made] 31)
    have L6 := below_step L5 al5 L5.size
    have A6 := A5.below al5 A5.lt
    have o6 := o5.below al5 o5.lt
    have e6 := e5.below al5 e5.lt
    clear L5 A5 o5 e5 al5
    go_upto_region 7 with fail
    generalize w5.alloc (.cells #[.int .i64 c.who, .int .i64 c.seen, .slice (some ⟨g2, 0, none⟩) c.base.length c.base.length, .slice (some ⟨h2, 0, none⟩) c.wait.length c.wait.length, .int .i64 c.done, .int .i64 c.made] 31) = w6 at *
    generalize w5.heap.size = bx at *
    obtain ⟨x0, x1, x2, x3, x4, x5⟩ := X6.cli
    go_wp2_with fail
    refine (implClientOk_any w6.heap.size c _ _ _ _ w6 (Nat.le_refl _) (cliAt_own o6 e6 hl) HF.out (ht.below L6 hz)).mono ?_
    rintro _ w7 ⟨rfl, b7⟩
    have L7 := below_step L6 b7 L6.size
    have A7 := A6.below b7 A6.lt
    have X7 := X6.below b7 X6.lt
    have o7 := o6.below b7 o6.lt
    have e7 := e6.below b7 e6.lt
    clear L6 A6 X6 o6 e6 b7 x0 x1 x2 x3 x4 x5
    generalize cliB c = sb at *
    have Ld := L7.drew
    have Xd := X7.drew
    have od := o7.below ((Below.refl w7.heap.size w7).drew) o7.lt
    have ed := e7.below ((Below.refl w7.heap.size w7).drew) e7.lt
    obtain ⟨x0, x1, x2, x3, x4, x5⟩ := A7.cli
    obtain ⟨y0, y1, y2, y3, y4, y5⟩ := X7.cli
    go_upto_region 10 with fail
    go_region_with (first
      | (go_at_call 10; refine (HT.out _ Ld).mono ?_; rintro _ wa' ⟨g3, h3, rfl, hg3, hh3, o3, e3, ba'⟩; have Xa := Xd.below ba' Xd.lt; have oa := od.below ba' od.lt; have ea := ed.below ba' ed.lt; obtain ⟨p0, p1, p2, p3, p4, p5⟩ := Xa.cli)
      | (go_at_call 12; refine (eqClient_same c _ _ _ _ _ _ _ _ _ (cliAt_own oa ea hl) (cliAt_own o3 e3 hl) (by omega) (by omega)).mono ?_; rintro _ wb ⟨rfl, bb⟩; have bab := below_step ba' bb ba'.size; have Lf := below_step Ld bab Ld.size))
    all_goals
      go_wp2
      go_ret
      exact ⟨rfl, Lf⟩
end Go.Proofs.YtcpmahchagjhkaaDoor
