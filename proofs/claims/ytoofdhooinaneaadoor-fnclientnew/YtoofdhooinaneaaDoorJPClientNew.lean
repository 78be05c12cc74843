/-
  The walk of the law FnClientNew out of the contracts. Conditions: the argument reads as bytes; the table 'creators' holds what its initialiser lays.
-/
import Derived.Test.YtoofdhooinaneaaDoorJCliNew
import Derived.Test.YtoofdhooinaneaaDoorJCliShow
import Derived.Test.YtoofdhooinaneaaDoorJLpRows
import Derived.Test.YtoofdhooinaneaaDoorJLpLog
import Derived.Test.YtoofdhooinaneaaDoorGA
namespace Go.Proofs.YtoofdhooinaneaaDoor
open Go.ChangeShapes Go.WideShapes Go.ChangeAt Go.RowKit Go.Joins

set_option maxRecDepth 100000 in
set_option maxHeartbeats 2000000 in
theorem lpClient_same (c : CliD) (ba wa ba' wa' : Option Addr) (bc wc bc' wc' : Nat) (w : World) (h : CliAt w.heap.size w c ba bc wa wc) (h' : CliAt w.heap.size w c ba' bc' wa' wc') (hl1 : c.base.length ≤ 1048576) (hl2 : c.wait.length ≤ 1048576) :
    Calls Tryd.prog 11 #[.agg #[.int .i64 c.who, .int .i64 c.seen, .slice ba c.base.length bc, .slice wa c.wait.length wc, .int .i64 c.done, .int .i64 c.made], .agg #[.int .i64 c.who, .int .i64 c.seen, .slice ba' c.base.length bc', .slice wa' c.wait.length wc', .int .i64 c.done, .int .i64 c.made]] w (RetBelow (.bool true) w) := by
  have hb0 : Below w.heap.size w (w.alloc (.cells #[.int .i64 c.who, .int .i64 c.seen, .slice ba c.base.length bc, .slice wa c.wait.length wc, .int .i64 c.done, .int .i64 c.made] 27)) := (Below.refl _ _).alloc (Nat.le_refl _) _
  have X0 := (Bx.new w 27 #[.int .i64 c.who, .int .i64 c.seen, .slice ba c.base.length bc, .slice wa c.wait.length wc, .int .i64 c.done, .int .i64 c.made]).alloc (.cells #[.int .i64 c.who, .int .i64 c.seen, .slice ba' c.base.length bc', .slice wa' c.wait.length wc', .int .i64 c.done, .int .i64 c.made] 27)
  have Y0 := Bx.new (w.alloc (.cells #[.int .i64 c.who, .int .i64 c.seen, .slice ba c.base.length bc, .slice wa c.wait.length wc, .int .i64 c.done, .int .i64 c.made] 27)) 27 #[.int .i64 c.who, .int .i64 c.seen, .slice ba' c.base.length bc', .slice wa' c.wait.length wc', .int .i64 c.done, .int .i64 c.made]
  have hb1 := hb0.alloc hb0.size (.cells #[.int .i64 c.who, .int .i64 c.seen, .slice ba' c.base.length bc', .slice wa' c.wait.length wc', .int .i64 c.done, .int .i64 c.made] 27)
  have hs : (w.alloc (.cells #[.int .i64 c.who, .int .i64 c.seen, .slice ba c.base.length bc, .slice wa c.wait.length wc, .int .i64 c.done, .int .i64 c.made] 27)).heap.size = w.heap.size + 1 := by simp
  rw [hs] at Y0
  clear hb0 hs
  go_enter Tryd.func11, Tryd.ntmps11
  go_upto_region 1 with fail
  generalize (w.alloc (.cells #[.int .i64 c.who, .int .i64 c.seen, .slice ba c.base.length bc, .slice wa c.wait.length wc, .int .i64 c.done, .int .i64 c.made] 27)).alloc (.cells #[.int .i64 c.who, .int .i64 c.seen, .slice ba' c.base.length bc', .slice wa' c.wait.length wc', .int .i64 c.done, .int .i64 c.made] 27) = w1 at *
  obtain ⟨x0, x1, x2, x3, x4, x5⟩ := X0.cli
  obtain ⟨y0, y1, y2, y3, y4, y5⟩ := Y0.cli
  go_wp2_with fail
  refine (lpRows_same w.heap.size ba ba' bc bc' c.base _ hb1.size (h.rows.below hb1) (h'.rows.below hb1) hl1).mono ?_
  rintro _ w2 ⟨rfl, b2⟩
  have X2 := X0.below b2 X0.lt
  have Y2 := Y0.below b2 Y0.lt
  have L2 := hb1.trans (b2.mono hb1.size)
  clear X0 Y0 hb1 b2 x0 x1 x2 x3 x4 x5 y0 y1 y2 y3 y4 y5
  obtain ⟨x0, x1, x2, x3, x4, x5⟩ := X2.cli
  obtain ⟨y0, y1, y2, y3, y4, y5⟩ := Y2.cli
  go_wp2_with fail
  refine (lpLog_same w.heap.size wa wa' wc wc' c.wait _ L2.size (h.ents.below L2) (h'.ents.below L2) hl2).mono ?_
  rintro _ w3 ⟨rfl, b3⟩
  have X3 := X2.below b3 X2.lt
  have Y3 := Y2.below b3 Y2.lt
  have L3 := L2.trans (b3.mono L2.size)
  clear X2 Y2 L2 b3 x0 x1 x2 x3 x4 x5 y0 y1 y2 y3 y4 y5
  obtain ⟨x0, x1, x2, x3, x4, x5⟩ := X3.cli
  obtain ⟨y0, y1, y2, y3, y4, y5⟩ := Y3.cli
  go_wp2
  go_ret
  exact ⟨rfl, L3⟩
theorem i64_zero : I64 0 := by unfold I64; decide
theorem new_ok {who : Int} (h : inB who 1 3 = true) : cliB (cliNew who) = true ∧ cliShow (cliNew who) = r3 := by
  have hc : cliB (cliNew who) = true := by
    rw [new_is h]
    have h3 : r3.length = 3 := rfl
    rw [cli_iff, head_iff]
    exact ⟨⟨(inB_iff _ _ _).1 h, ⟨by show (0 : Int) ≤ 0; decide, by show (0 : Int) ≤ 40; decide⟩, tree_r3, ⟨by show (0 : Int) ≤ 0; decide, by show (0 : Int) ≤ 0; decide⟩, by simp, by show (0 : Int) ≤ 0; decide, by show (0 : Int) ≤ 6; decide⟩, waitTo_zero _ _ _ _⟩
  refine ⟨hc, ?_⟩
  rw [show_is hc, new_is h]; rfl
def DrewN (lo hi : Int) (w : World) (e : Ending) (w' : World) : Prop := ∃ n : Int, lo ≤ n ∧ n ≤ hi ∧ e = .returned (.int .i64 n) ∧ Below w.heap.size w w'
theorem drawClientNew_any (w : World) (a : Option Addr) (len cap : Nat) (hb : Bytes w a len cap) :
    Calls Tryd.prog 8 #[.slice a len cap] w (DrewN 0 4 w) := by
  obtain ⟨h1, h2, h3⟩ := hb
  go_enter Tryd.func8, Tryd.ntmps8
  go_wp2_with fail
  refine (l6Open_any w.heap.size a len cap w (Nat.le_refl _) h1 h2 h3).mono ?_
  rintro _ w1 ⟨rfl, hb1, hs1, hr1⟩
  go_wp2_with fail
  refine (pick_any _ _ 0 5 w1 hr1 (by decide) (by decide) (by decide)).mono ?_
  rintro _ w2 ⟨k, k0, k1, rfl, hb2, hs2, hr2⟩
  go_wp2
  go_ret
  exact ⟨k, k0, by omega, rfl, hb1.trans (hb2.below (Nat.le_refl _) (Nat.le_of_lt hs1))⟩
set_option maxRecDepth 100000 in
set_option maxHeartbeats 8000000 in
theorem fnClientNew_walk (w : World) (ht : Tab w) (a : Option Addr) (len cap : Nat) (hb : Bytes w a len cap) :
    Calls Tryd.prog 3 #[.slice a len cap] w fun e w' => e = .returned (.bool true) ∧ Below w.heap.size w w' := by
  have hz := ht.pos
  by_cases hlen : len ≤ 1048576
  · have i0 : (len : Int) ≤ 1048576 := by omega
    have HD := Lib.hid (drawClientNew_any w a len cap hb)
    clear hb
    go_enter Tryd.func3, Tryd.ntmps3
    go_wp2_with fail
    refine HD.out.mono ?_
    rintro _ w0 ⟨who, k0, k1, rfl, L0⟩
    clear HD
    have HS : Hid (∀ x : World, ∃ nn, Calls Tryd.prog 9 #[.int .i64 who] x (RetCliB (cliNew who) nn (inB who 1 3) x)) := fun x => ⟨_, specClientNew_any who x⟩
    have HI : Hid (∀ x : World, Calls Tryd.prog 10 #[.int .i64 who] x (RetCliB (cliNew who) false (inB who 1 3) x)) := fun x => implClientNew_any who x
    have hl : (cliNew who).base.length + (cliNew who).wait.length ≤ 3 := new_len who
    have HOK : Hid (inB who 1 3 = true → cliB (cliNew who) = true ∧ cliShow (cliNew who) = r3) := fun q => new_ok q
    have HIS : Hid (inB who 1 3 = true → cliNew who = ⟨who, 0, r3, [], 0, 0⟩) := fun q => new_is q
    have HFT : Hid (CliFit (cliNew who)) := by
      cases q : inB who 1 3
      · rw [new_no q]; exact ⟨by unfold I64; decide, by unfold I64; decide, by unfold I64; decide, by unfold I64; decide, ⟨by decide, fun i hi => by simp [zcli] at hi⟩, ⟨by decide, fun i hi => by simp [zcli] at hi⟩⟩
      · rw [new_is q]; exact ⟨by unfold I64; show -9223372036854775808 ≤ who ∧ who ≤ 9223372036854775807; omega, i64_zero, i64_zero, i64_zero, tree_fits tree_r3, ⟨by show (0 : Nat) ≤ 1048576; decide, fun i hi => by simp at hi⟩⟩
    have HINB : Hid (inB who 1 3 = decide (1 ≤ who ∧ who ≤ 3)) := rfl
    generalize hcd : cliNew who = c at *
    generalize htb : inB who 1 3 = tb at *
    clear hcd htb
    obtain ⟨nn, hs0⟩ := HS.out w0
    have HS0 := Lib.hid hs0
    clear hs0 HS
    go_wp2_with fail
    refine HS0.out.mono ?_
    rintro _ w1 ⟨ba, bc, wa, wc, rfl, V1, _, b1⟩
    have L2 := (L0.trans (b1.mono L0.size)).alloc (Nat.le_trans L0.size b1.size) (.cells #[.int .i64 c.who, .int .i64 c.seen, .slice ba c.base.length bc, .slice wa c.wait.length wc, .int .i64 c.done, .int .i64 c.made] 27)
    have al := (Below.refl w1.heap.size w1).alloc (Nat.le_refl _) (.cells #[.int .i64 c.who, .int .i64 c.seen, .slice ba c.base.length bc, .slice wa c.wait.length wc, .int .i64 c.done, .int .i64 c.made] 27)
    have X2 := Bx.new w1 27 #[.int .i64 c.who, .int .i64 c.seen, .slice ba c.base.length bc, .slice wa c.wait.length wc, .int .i64 c.done, .int .i64 c.made]
    have V2 := V1.below al (Nat.le_refl _)
    clear V1 b1 HS0 L0 al
    go_upto_region 5 with fail
    generalize w1.alloc (.cells #[.int .i64 c.who, .int .i64 c.seen, .slice ba c.base.length bc, .slice wa c.wait.length wc, .int .i64 c.done, .int .i64 c.made] 27) = w2 at *
    generalize w1.heap.size = s1 at *
    go_wp2_with fail
    refine (HI.out w2).mono ?_
    rintro _ w3 ⟨ga, gc, ha, hc, rfl, G3, _, b3⟩
    have L4 := (L2.trans (b3.mono L2.size)).alloc (Nat.le_trans L2.size b3.size) (.cells #[.int .i64 c.who, .int .i64 c.seen, .slice ga c.base.length gc, .slice ha c.wait.length hc, .int .i64 c.done, .int .i64 c.made] 27)
    have al := (Below.refl w3.heap.size w3).alloc (Nat.le_refl _) (.cells #[.int .i64 c.who, .int .i64 c.seen, .slice ga c.base.length gc, .slice ha c.wait.length hc, .int .i64 c.done, .int .i64 c.made] 27)
    have X4 := (X2.below b3 X2.lt).below al (X2.below b3 X2.lt).lt
    have Y4 := Bx.new w3 27 #[.int .i64 c.who, .int .i64 c.seen, .slice ga c.base.length gc, .slice ha c.wait.length hc, .int .i64 c.done, .int .i64 c.made]
    have V4 := (V2.below b3 (Nat.le_refl _)).below al (Nat.le_refl _)
    have G4 := G3.below al (Nat.le_refl _)
    clear L2 X2 V2 G3 b3 al HI
    go_upto_region 6 with fail
    generalize w3.alloc (.cells #[.int .i64 c.who, .int .i64 c.seen, .slice ga c.base.length gc, .slice ha c.wait.length hc, .int .i64 c.done, .int .i64 c.made] 27) = w4 at *
    generalize w3.heap.size = s3 at *
    obtain ⟨x0, x1, x2, x3, x4, x5⟩ := X4.cli
    obtain ⟨y0, y1, y2, y3, y4, y5⟩ := Y4.cli
    go_wp2_with fail
    refine (lpClient_same c ga ha ba wa gc hc bc wc w4 G4.at_ V4.at_ (by omega) (by omega)).mono ?_
    rintro _ w5 ⟨rfl, b5⟩
    have L5 := L4.trans (b5.mono L4.size)
    have X5 := X4.below b5 X4.lt
    have Y5 := Y4.below b5 Y4.lt
    have V5 := V4.below b5 (Nat.le_refl _)
    have G5 := G4.below b5 (Nat.le_refl _)
    clear L4 X4 Y4 V4 G4 b5 x0 x1 x2 x3 x4 x5 y0 y1 y2 y3 y4 y5
    cases tb
    · obtain ⟨x0, x1, x2, x3, x4, x5⟩ := X5.cli
      obtain ⟨y0, y1, y2, y3, y4, y5⟩ := Y5.cli
      go_wp2_with fail
      refine (lpClient_same c ga ha ba wa gc hc bc wc w5 G5.at_ V5.at_ (by omega) (by omega)).mono ?_
      rintro _ w6 ⟨rfl, b6⟩
      have L6 := L5.trans (b6.mono L5.size)
      have hno : ¬ (1 ≤ who ∧ who ≤ 3) := of_decide_eq_false (HINB.out.symm)
      clear L5 X5 Y5 V5 G5 b6 x0 x1 x2 x3 x4 x5 y0 y1 y2 y3 y4 y5
      by_cases q1 : 1 ≤ who
      · have q2 : 3 < who := by omega
        have q3 : decide (who ≤ 3) = false := decide_eq_false (by omega)
        clear hno
        go_wp2
        go_ret
        exact ⟨rfl, L6⟩
      · clear hno
        go_wp2
        go_ret
        exact ⟨rfl, L6⟩
    · obtain ⟨hok, hshow⟩ := HOK.out rfl
      have hci := HIS.out rfl
      subst hci
      obtain ⟨y0, y1, y2, y3, y4, y5⟩ := Y5.cli
      have HSH := Lib.hid hshow
      have HOK2 := Lib.hid hok
      clear hok hshow HOK
      go_wp2_with fail
      refine (implClientOk_any w5.heap.size _ ga ha gc hc w5 (Nat.le_refl _) G5.at_ HFT.out (ht.below L5 hz)).mono ?_
      rintro _ w6 ⟨rfl, b6⟩
      rw [HOK2.out]
      have L6 := L5.trans (b6.mono L5.size)
      have Y6 := Y5.below b6 Y5.lt
      have G6 := G5.below b6 (Nat.le_refl _)
      clear L5 X5 Y5 V5 G5 b6 y0 y1 y2 y3 y4 y5
      obtain ⟨y0, y1, y2, y3, y4, y5⟩ := Y6.cli
      go_wp2_with fail
      refine (implClientShow_any _ ga ha gc hc w6 G6.at_ HFT.out (ht.below L6 hz)).mono ?_
      rintro _ w7 ⟨sa, sc, rfl, S7, q1, q2, b7⟩
      rw [HSH.out] at S7 q1
      rw [HSH.out]
      have L7 := L6.trans (b7.mono L6.size)
      have Y7 := Y6.below b7 Y6.lt
      clear L6 Y6 G6 b7 y0 y1 y2 y3 y4 y5
      go_wp2_with fail
      refine (implNew_own w7).mono ?_
      rintro _ w8 ⟨na, nc, rfl, own8, hnc, b8⟩
      have L8 := L7.trans (b8.mono L7.size)
      have Y8 := Y7.below b8 Y7.lt
      have S8 := S7.below b8 (Nat.le_refl _)
      clear L7 Y7 S7 b8
      go_wp2_with fail
      refine (lpRows_same w8.heap.size sa na sc nc r3 w8 (Nat.le_refl _) S8.rows (rowsAt_own own8) (by decide)).mono ?_
      rintro _ w9 ⟨rfl, b9⟩
      have L9 := L8.trans (b9.mono L8.size)
      have Y9 := Y8.below b9 Y8.lt
      clear L8 Y8 S8 own8 b9
      obtain ⟨y0, y1, y2, y3, y4, y5⟩ := Y9.cli
      go_wp2
      go_ret
      exact ⟨rfl, L9⟩
  · have i0 : ¬ (len : Int) ≤ 1048576 := by omega
    have i1 : (1048576 : Int) < (len : Int) := by omega
    go_enter Tryd.func3, Tryd.ntmps3
    go_wp2
    go_ret
    exact ⟨rfl, Below.refl _ _⟩
end Go.Proofs.YtoofdhooinaneaaDoor
