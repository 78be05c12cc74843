/-
  The walk of the law FnExactClientNew out of the contracts. Conditions: none.
-/
import Derived.Test.YtcpmahchagjhkaaJCliNew
import Derived.Test.YtcpmahchagjhkaaJCliMark
namespace Go.Proofs.Ytcpmahchagjhkaa
open Go.ChangeShapes Go.WideShapes Go.ChangeAt Go.RowKit Go.Joins Go.Deep

theorem below_stepN {n : Nat} {w w1 w2 : World} (h : Below n w w1) (hb : Below w1.heap.size w1 w2) (hn : n ≤ w1.heap.size) : Below n w w2 := h.trans (hb.mono hn)
set_option maxRecDepth 100000 in
set_option maxHeartbeats 8000000 in
theorem fnExactClientNew_walk (w : World) (who : Int) :
    Calls Try.prog 3 #[.int .i64 who] w fun e w' => e = .returned (.bool true) ∧ Below w.heap.size w w' := by
  have HS : Hid (∀ x : World, ∃ nn, Calls Try.prog 4 #[.int .i64 who] x (RetCliB (cliNew who) nn (inB who 1 3) x)) := fun x => ⟨_, specClientNew_any who x⟩
  have HI : Hid (∀ x : World, Calls Try.prog 5 #[.int .i64 who] x (RetCliB (cliNew who) false (inB who 1 3) x)) := fun x => implClientNew_any who x
  have hl : (cliNew who).base.length + (cliNew who).wait.length ≤ 1048576 := Nat.le_trans (new_len who) (by omega)
  generalize cliNew who = c at *
  generalize inB who 1 3 = tb at *
  obtain ⟨nn, hs0⟩ := HS.out w
  have HS0 := Lib.hid hs0
  clear hs0 HS
  go_enter Try.func3, Try.ntmps3
  go_wp2_with fail
  refine HS0.out.mono ?_
  rintro _ w1 ⟨ba, bc, wa, wc, rfl, V1, _, b1⟩
  have L2 := b1.alloc b1.size (.cells #[.int .i64 c.who, .int .i64 c.seen, .slice ba c.base.length bc, .slice wa c.wait.length wc, .int .i64 c.done, .int .i64 c.made] 25)
  have X2 := Bx.new w1 25 #[.int .i64 c.who, .int .i64 c.seen, .slice ba c.base.length bc, .slice wa c.wait.length wc, .int .i64 c.done, .int .i64 c.made]
  have V2 := V1.at_.on ((Below.refl w1.heap.size w1).alloc (Nat.le_refl _) (.cells #[.int .i64 c.who, .int .i64 c.seen, .slice ba c.base.length bc, .slice wa c.wait.length wc, .int .i64 c.done, .int .i64 c.made] 25)) (Nat.le_refl _)
  have sv : w1.heap.size < (w1.alloc (.cells #[.int .i64 c.who, .int .i64 c.seen, .slice ba c.base.length bc, .slice wa c.wait.length wc, .int .i64 c.done, .int .i64 c.made] 25)).heap.size := by simp
  clear V1 b1 HS0
  go_upto_region 2 with fail
  generalize w1.alloc (.cells #[.int .i64 c.who, .int .i64 c.seen, .slice ba c.base.length bc, .slice wa c.wait.length wc, .int .i64 c.done, .int .i64 c.made] 25) = w2 at *
  generalize w1.heap.size = s1 at *
  go_wp2_with fail
  refine (HI.out w2).mono ?_
  rintro _ w3 ⟨ga, gc, ha, hc, rfl, G3, _, b3⟩
  have L4 := (below_stepN L2 b3 L2.size).alloc (Nat.le_trans L2.size b3.size) (.cells #[.int .i64 c.who, .int .i64 c.seen, .slice ga c.base.length gc, .slice ha c.wait.length hc, .int .i64 c.done, .int .i64 c.made] 25)
  have al := (Below.refl w3.heap.size w3).alloc (Nat.le_refl _) (.cells #[.int .i64 c.who, .int .i64 c.seen, .slice ga c.base.length gc, .slice ha c.wait.length hc, .int .i64 c.done, .int .i64 c.made] 25)
  have X4 := (X2.below b3 X2.lt).below al (X2.below b3 X2.lt).lt
  have Y4 := Bx.new w3 25 #[.int .i64 c.who, .int .i64 c.seen, .slice ga c.base.length gc, .slice ha c.wait.length hc, .int .i64 c.done, .int .i64 c.made]
  have V4 := (V2.below (b3.mono (Nat.le_of_lt sv))).below (al.mono (Nat.le_trans (Nat.le_of_lt sv) b3.size))
  have G4 := G3.below al (Nat.le_refl _)
  have sq : w2.heap.size ≤ (w3.alloc (.cells #[.int .i64 c.who, .int .i64 c.seen, .slice ga c.base.length gc, .slice ha c.wait.length hc, .int .i64 c.done, .int .i64 c.made] 25)).heap.size := Nat.le_trans b3.size al.size
  have sv4 := Nat.le_trans (Nat.le_of_lt sv) sq
  have sv1 := Nat.le_of_lt sv
  have hxs := X2.lt
  have hx0 := Lib.hid L2.size
  clear L2 X2 V2 G3 b3 al
  go_upto_region 3 with fail
  generalize w3.alloc (.cells #[.int .i64 c.who, .int .i64 c.seen, .slice ga c.base.length gc, .slice ha c.wait.length hc, .int .i64 c.done, .int .i64 c.made] 25) = w4 at *
  generalize w3.heap.size = s3 at *
  generalize w2.heap.size = q2 at *
  obtain ⟨x0, x1, x2, x3, x4, x5⟩ := X4.cli
  obtain ⟨y0, y1, y2, y3, y4, y5⟩ := Y4.cli
  go_wp2_with fail
  refine (eqClient_same c ga ha ba wa gc hc bc wc w4 G4.at_ (V4.mono sv4) (by omega) (by omega)).mono ?_
  rintro _ w5 ⟨rfl, b5⟩
  have L5 := below_stepN L4 b5 L4.size
  have X5 := X4.below b5 X4.lt
  have Y5 := Y4.below b5 Y4.lt
  have V5 := V4.below (b5.mono sv4)
  have G5 := G4.below b5 (Nat.le_refl _)
  have sq5 := Nat.le_trans sq b5.size
  clear L4 X4 Y4 V4 G4 b5 sq sv4 x0 x1 x2 x3 x4 x5 y0 y1 y2 y3 y4 y5
  obtain ⟨y0, y1, y2, y3, y4, y5⟩ := Y5.cli
  go_wp2_with fail
  refine (markClient_any q2 c ga ha gc hc w5 sq5 G5.rows G5.ents hl).mono ?_
  rintro _ w6 ⟨rfl, md⟩
  have L6 := L5.trans (md.low.mono (by have := hx0.out; omega))
  have X6 := md.box _ _ _ (by decide) (by decide) X5
  have Y6 := md.box _ _ _ (by decide) (by decide) Y5
  have V6 := V5.below (md.low.mono sv1)
  have GR6 := md.gotR
  have GE6 := md.gotE
  have sq6 := Nat.le_trans sq5 md.size
  have hk : ¬ ((c.wait.length : Int) * 7 + ((c.base.length : Int) * 3 + 1) < 0) := by omega
  clear L5 X5 Y5 V5 G5 md sq5 y0 y1 y2 y3 y4 y5
  obtain ⟨y0, y1, y2, y3, y4, y5⟩ := Y6.cli
  go_wp2_with fail
  refine (heldClient_any _ _ _ _ ga ha gc hc c.base.length c.wait.length w6 GR6.rows GE6.ents hl).mono ?_
  rintro _ w7 ⟨rfl, b7⟩
  have L7 := below_stepN L6 b7 L6.size
  have X7 := X6.below b7 X6.lt
  have Y7 := Y6.below b7 Y6.lt
  have V7 := V6.below (b7.mono (by omega))
  have GR7 := GR6.below b7 (Nat.le_refl _)
  have GE7 := GE6.below b7 (Nat.le_refl _)
  have sq7 := Nat.le_trans sq6 b7.size
  clear L6 X6 Y6 V6 GR6 GE6 b7 sq6 y0 y1 y2 y3 y4 y5
  go_wp2_with fail
  refine (HI.out w7).mono ?_
  rintro _ w8 ⟨ka, kc, la, lc, rfl, K8, _, b8⟩
  have L9 := (below_stepN L7 b8 L7.size).alloc (Nat.le_trans L7.size b8.size) (.cells #[.int .i64 c.who, .int .i64 c.seen, .slice ka c.base.length kc, .slice la c.wait.length lc, .int .i64 c.done, .int .i64 c.made] 25)
  have al := (Below.refl w8.heap.size w8).alloc (Nat.le_refl _) (.cells #[.int .i64 c.who, .int .i64 c.seen, .slice ka c.base.length kc, .slice la c.wait.length lc, .int .i64 c.done, .int .i64 c.made] 25)
  have X9 := (X7.below b8 X7.lt).below al (X7.below b8 X7.lt).lt
  have Y9 := (Y7.below b8 Y7.lt).below al (Y7.below b8 Y7.lt).lt
  have Z9 := Bx.new w8 25 #[.int .i64 c.who, .int .i64 c.seen, .slice ka c.base.length kc, .slice la c.wait.length lc, .int .i64 c.done, .int .i64 c.made]
  have V9 := (V7.below (b8.mono (by omega))).below (al.mono (by have := b8.size; omega))
  have GR9 := (GR7.below b8 (Nat.le_refl _)).below al (Nat.le_refl _)
  have GE9 := (GE7.below b8 (Nat.le_refl _)).below al (Nat.le_refl _)
  have K9 := K8.below al (Nat.le_refl _)
  have sq9 : q2 ≤ (w8.alloc (.cells #[.int .i64 c.who, .int .i64 c.seen, .slice ka c.base.length kc, .slice la c.wait.length lc, .int .i64 c.done, .int .i64 c.made] 25)).heap.size := Nat.le_trans sq7 (Nat.le_trans b8.size al.size)
  clear L7 X7 Y7 V7 GR7 GE7 K8 b8 al sq7
  go_upto_region 14 with fail
  generalize w8.alloc (.cells #[.int .i64 c.who, .int .i64 c.seen, .slice ka c.base.length kc, .slice la c.wait.length lc, .int .i64 c.done, .int .i64 c.made] 25) = w9 at *
  generalize w8.heap.size = s8 at *
  obtain ⟨x0, x1, x2, x3, x4, x5⟩ := X9.cli
  obtain ⟨z0, z1, z2, z3, z4, z5⟩ := Z9.cli
  go_wp2_with fail
  refine (eqClient_same c ka la ba wa kc lc bc wc w9 K9.at_ (V9.mono (by omega)) (by omega) (by omega)).mono ?_
  rintro _ wa9 ⟨rfl, ba9⟩
  have La := below_stepN L9 ba9 L9.size
  have Ya := Y9.below ba9 Y9.lt
  have GRa := GR9.below ba9 (Nat.le_refl _)
  have GEa := GE9.below ba9 (Nat.le_refl _)
  clear L9 X9 Y9 Z9 V9 GR9 GE9 K9 ba9 x0 x1 x2 x3 x4 x5 z0 z1 z2 z3 z4 z5
  obtain ⟨y0, y1, y2, y3, y4, y5⟩ := Ya.cli
  go_wp2_with fail
  refine (heldClient_any _ _ _ _ ga ha gc hc c.base.length c.wait.length wa9 GRa.rows GEa.ents hl).mono ?_
  rintro _ wb ⟨rfl, bb⟩
  have Lb := below_stepN La bb La.size
  clear La Ya GRa GEa bb y0 y1 y2 y3 y4 y5
  go_wp2
  go_ret
  exact ⟨rfl, Lb⟩
end Go.Proofs.Ytcpmahchagjhkaa
