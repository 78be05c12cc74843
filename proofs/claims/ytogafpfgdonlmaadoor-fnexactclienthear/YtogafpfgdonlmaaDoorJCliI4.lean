/-
  Contract of the program's ClientHear. Conditions: as each theorem says.
-/
import Derived.Test.YtogafpfgdonlmaaDoorJDesk6
namespace Go.Proofs.YtogafpfgdonlmaaDoor
open Go.ChangeShapes Go.WideShapes Go.ChangeAt Go.RowKit Go.Joins Go.Deep
set_option linter.unusedVariables false

theorem GotE.butN {base B n : Nat} {w w' : World} {a : Option Addr} {es : List EntD} (h : GotE base w a es) (hB : B < base) (hb : But B n w w') (hn : w.heap.size ≤ n) : GotE base w' a es := by
  by_cases q : es.length = 0
  · exact .inl q
  · rcases h with g | ⟨g, C, e, hg, f, h1, h2⟩
    · exact .inl g
    · exact .inr ⟨g, C, e, hg, f, h1.of_block (hb.block g (Nat.lt_of_lt_of_le h1.lt hn) (by omega)), h2⟩
theorem GotE.below2 {base n : Nat} {w w' : World} {a : Option Addr} {es : List EntD} (h : GotE base w a es) (hb : Below n w w') (hn : w.heap.size ≤ n) : GotE base w' a es := h.below hb hn
set_option maxRecDepth 100000 in
set_option maxHeartbeats 4000000 in
theorem implClientHear_any (c : CliD) (ba wa : Option Addr) (bc wc : Nat) (fr : Int) (b off cap : Nat) (l : List EntD) (w : World) (h : CliAt w.heap.size w c ba bc wa wc) (hf : CliFit c) (hl : EntsAt w.heap.size w (some ⟨b, off, none⟩) l) (hbl : b < w.heap.size) (hlf : EntsFit l) (hcap : l.length ≤ cap) (hcm : cap ≤ maxLen) (ht : Tab w) :
    Calls Tryd.prog 17 #[.agg #[.int .i64 c.who, .int .i64 c.seen, .slice ba c.base.length bc, .slice wa c.wait.length wc, .int .i64 c.done, .int .i64 c.made], .int .i64 fr, .slice (some ⟨b, off, none⟩) l.length cap] w (RetCliB (cliHear c fr l) false (cliHearB c fr l) w) := by
  have hz := ht.pos
  have L0 : Below w.heap.size w ((w.alloc (.cells #[.int .i64 c.who, .int .i64 c.seen, .slice ba c.base.length bc, .slice wa c.wait.length wc, .int .i64 c.done, .int .i64 c.made] 33)).alloc (.cells #[.int .i64 0, .int .i64 0, .slice none 0 0, .slice none 0 0, .int .i64 0, .int .i64 0] 33)) := ((Below.refl _ _).alloc (Nat.le_refl _) _).alloc (by simp) _
  have X0 : Bx ((w.alloc (.cells #[.int .i64 c.who, .int .i64 c.seen, .slice ba c.base.length bc, .slice wa c.wait.length wc, .int .i64 c.done, .int .i64 c.made] 33)).alloc (.cells #[.int .i64 0, .int .i64 0, .slice none 0 0, .slice none 0 0, .int .i64 0, .int .i64 0] 33)) w.heap.size 33 #[.int .i64 c.who, .int .i64 c.seen, .slice ba c.base.length bc, .slice wa c.wait.length wc, .int .i64 c.done, .int .i64 c.made] := (Bx.new w _ _).alloc _
  have Y0 : Bx ((w.alloc (.cells #[.int .i64 c.who, .int .i64 c.seen, .slice ba c.base.length bc, .slice wa c.wait.length wc, .int .i64 c.done, .int .i64 c.made] 33)).alloc (.cells #[.int .i64 0, .int .i64 0, .slice none 0 0, .slice none 0 0, .int .i64 0, .int .i64 0] 33)) (w.heap.size + 1) 33 #[.int .i64 0, .int .i64 0, .slice none 0 0, .slice none 0 0, .int .i64 0, .int .i64 0] := by
    have q := Bx.new (w.alloc (.cells #[.int .i64 c.who, .int .i64 c.seen, .slice ba c.base.length bc, .slice wa c.wait.length wc, .int .i64 c.done, .int .i64 c.made] 33)) 33 #[.int .i64 0, .int .i64 0, .slice none 0 0, .slice none 0 0, .int .i64 0, .int .i64 0]
    rw [World.size_alloc] at q
    exact q
  go_enter Tryd.func17, Tryd.ntmps17
  go_upto_region 1 with fail
  generalize ((w.alloc (.cells #[.int .i64 c.who, .int .i64 c.seen, .slice ba c.base.length bc, .slice wa c.wait.length wc, .int .i64 c.done, .int .i64 c.made] 33)).alloc (.cells #[.int .i64 0, .int .i64 0, .slice none 0 0, .slice none 0 0, .int .i64 0, .int .i64 0] 33)) = w1 at *
  obtain ⟨x0, x1, x2, x3, x4, x5⟩ := X0.cli
  have hw1 := Y0.lt
  go_wp2_with fail
  refine (deskOf_any c ba wa bc wc w1 (h.on L0 L0.size) hf (ht.below L0 hz)).mono ?_
  rintro _ w2 ⟨b2, h2⟩
  have Y2 := Y0.below b2 Y0.lt
  have L2 := L0.trans (b2.mono L0.size)
  have s1 := L0.size
  have s2 : w1.heap.size ≤ w2.heap.size := b2.size
  have hw2 := Y2.lt
  clear X0 Y0 L0 b2 x0 x1 x2 x3 x4 x5
  have D2 := Bx.new w2 60 Tryd.zeroCells60
  have L3 := L2.alloc L2.size (.cells Tryd.zeroCells60 60)
  rcases h2 with ⟨hok, rfl⟩ | ⟨hok, cs, ga, gc, rfl, hV, G2, q1, q2⟩
  · have hst := @run_storeDesk w2.heap.size Tryd.zeroCells60 Tryd.zeroCells60 _ D2 Tryd.zeroCells60_size Tryd.zeroCells60_size zero_mem
    have HZ := Lib.hid (chear_no (c := c) (fr := fr) (l := l) (by unfold chOk; rw [hok]; rfl))
    have L4 := below_setRow L3 L2.size Tryd.zeroCells60
    have Y4 := (Y2.alloc (.cells Tryd.zeroCells60 60)).otherRow (cs' := Tryd.zeroCells60) (B' := w2.heap.size) (by omega)
    clear hok L3 D2 Y2
    go_upto_region 2 with fail
    generalize (w2.alloc (.cells Tryd.zeroCells60 60)).setRow w2.heap.size Tryd.zeroCells60 = w3 at *
    clear hst
    obtain ⟨d0, d1, d2, d3, d4, d5⟩ := Y4.cli
    obtain ⟨y0, y1, y2, y3, y4, y5⟩ := Y4.cliF
    clear Y4
    go_wp2
    exact bodyPost_ret (v := .tuple #[.agg #[.int .i64 0, .int .i64 0, .slice none 0 0, .slice none 0 0, .int .i64 0, .int .i64 0], .bool false]) (by simp [results, Tryd.results17, go_sem, d0, d1, d2, d3, d4, d5]) rfl (retCliB_zero (r := w.heap.size + 1) HZ.out rfl (by omega) L4 _ _ _ _ _ _)
  · have hst := @run_storeDesk w2.heap.size Tryd.zeroCells60 cs _ D2 Tryd.zeroCells60_size hV.size hV.plain
    have hcs := hV.size
    obtain ⟨e1, e2, e3, e4, e5, e6⟩ := head_iff.1 (cli_iff.1 hok).1
    have HOK := Lib.hid hok
    have Q3 := D2.row (cs' := cs)
    have L4 := below_setRow L3 L2.size cs
    have G3 : Got w1.heap.size ((w2.alloc (.cells Tryd.zeroCells60 60)).setRow w2.heap.size cs) ga c.base := (G2.below ((Below.refl w2.heap.size w2).alloc (Nat.le_refl _) _) (Nat.le_refl _)).rowB D2 (by decide) cs
    have Y3 := (Y2.alloc (.cells Tryd.zeroCells60 60)).otherRow (cs' := cs) (B' := w2.heap.size) (by omega)
    have hzB : 0 ≠ w2.heap.size := by have : 0 < w2.heap.size := Nat.lt_of_lt_of_le hz L2.size; show 0 ≠ _; omega
    have hbB : b ≠ w2.heap.size := by have := L2.size; omega
    clear L3 D2 G2 hok Y2
    go_upto_region 2 with fail
    have hB2w : w.heap.size + 1 < w2.heap.size := hw2
    have hsz3 : w1.heap.size ≤ ((w2.alloc (.cells Tryd.zeroCells60 60)).setRow w2.heap.size cs).heap.size := by
      have q := Q3.lt
      have q2 := Y3.lt
      exact Nat.le_trans s2 (Nat.le_of_lt q)
    generalize (w2.alloc (.cells Tryd.zeroCells60 60)).setRow w2.heap.size cs = w3 at *
    generalize w2.heap.size = B2 at *
    clear hst
    have hlf1 := hlf.1
    by_cases hf0 : fr < 0
    · have HZ := Lib.hid (chear_no (c := c) (fr := fr) (l := l) (by unfold chOk inB; simp [show ¬ (0 : Int) ≤ fr by omega]))
      obtain ⟨d0, d1, d2, d3, d4, d5⟩ := Y3.cli
      obtain ⟨y0, y1, y2, y3, y4, y5⟩ := Y3.cliF
      clear Y3 Q3 G3 hV
      go_wp2
      exact bodyPost_ret (v := .tuple #[.agg #[.int .i64 0, .int .i64 0, .slice none 0 0, .slice none 0 0, .int .i64 0, .int .i64 0], .bool false]) (by simp [results, Tryd.results17, go_sem, d0, d1, d2, d3, d4, d5]) rfl (retCliB_zero (r := w.heap.size + 1) HZ.out rfl (by omega) L4 _ _ _ _ _ _)
    by_cases hf1 : 40 < fr
    · have HZ := Lib.hid (chear_no (c := c) (fr := fr) (l := l) (by unfold chOk inB; simp [show ¬ fr ≤ 40 by omega]))
      obtain ⟨d0, d1, d2, d3, d4, d5⟩ := Y3.cli
      obtain ⟨y0, y1, y2, y3, y4, y5⟩ := Y3.cliF
      clear Y3 Q3 G3 hV
      go_wp2
      exact bodyPost_ret (v := .tuple #[.agg #[.int .i64 0, .int .i64 0, .slice none 0 0, .slice none 0 0, .int .i64 0, .int .i64 0], .bool false]) (by simp [results, Tryd.results17, go_sem, d0, d1, d2, d3, d4, d5]) rfl (retCliB_zero (r := w.heap.size + 1) HZ.out rfl (by omega) L4 _ _ _ _ _ _)
    have hl3 := hl.below L4
    have HEO := Lib.hid (entriesOk_any w.heap.size (some ⟨b, off, none⟩) cap l w3 L4.size hl3 hlf (ht.below L4 hz))
    have HB3 := Lib.hid (And.intro hB2w hsz3)
    clear hB2w hsz3
    go_wp2_with fail
    refine HEO.out.mono ?_
    rintro _ w4 ⟨rfl, b4⟩
    have Y4 := Y3.below b4 Y3.lt
    have Q4 := Q3.below b4 Q3.lt
    have G4 := G3.below b4 (Nat.le_refl _)
    have L5 := L4.trans (b4.mono L4.size)
    have hsz4 : w1.heap.size ≤ w4.heap.size := Nat.le_trans HB3.out.2 b4.size
    clear HEO Y3 Q3 G3 b4
    cases hlb : entsB l
    · have HZ := Lib.hid (chear_no (c := c) (fr := fr) (l := l) (by unfold chOk; rw [hlb]; simp))
      obtain ⟨d0, d1, d2, d3, d4, d5⟩ := Y4.cli
      obtain ⟨y0, y1, y2, y3, y4, y5⟩ := Y4.cliF
      clear Y4 Q4 G4 hV
      go_wp2
      exact bodyPost_ret (v := .tuple #[.agg #[.int .i64 0, .int .i64 0, .slice none 0 0, .slice none 0 0, .int .i64 0, .int .i64 0], .bool false]) (by simp [results, Tryd.results17, go_sem, d0, d1, d2, d3, d4, d5]) rfl (retCliB_zero (r := w.heap.size + 1) HZ.out rfl (by omega) L5 _ _ _ _ _ _)
    have HO2 := Lib.hid (show chOk c fr l = true by unfold chOk inB; rw [HOK.out, hlb]; simp; omega)
    have HCD := Lib.hid (client_desk B2 cs c (c.done.toNat + 1) ga gc w4 Q4 hV (by omega) (by omega))
    go_wp2_with fail
    refine HCD.out.mono ?_
    rintro _ w5 ⟨va, vc, rfl, E5, k1, k2, b5⟩
    have Y5 := Y4.below b5 Y4.lt
    have Q5 := Q4.below b5 Q4.lt
    have G5 := G4.below b5 (Nat.le_refl _)
    have L6 := L5.trans (b5.mono L5.size)
    have l4 := L5.size
    have hQ4 : B2 < w4.heap.size := Q4.lt
    have hY4 : w.heap.size + 1 < w4.heap.size := Y4.lt
    clear HCD Y4 Q4 G4
    have htr : treeB c.base = true := e3
    have hhf : (0 : Int) ≤ fr ∧ fr ≤ 40 := ⟨by omega, by omega⟩
    have hsz5 : w1.heap.size ≤ w5.heap.size := Nat.le_trans hsz4 b5.size
    have al := (Below.refl w5.heap.size w5).alloc (Nat.le_refl _) (.cells #[.int .i64 c.who, .int .i64 c.seen, .slice ga c.base.length gc, .slice va c.wait.length vc, .int .i64 c.done, .int .i64 c.made] 33)
    have Z6 := Bx.new w5 33 #[.int .i64 c.who, .int .i64 c.seen, .slice ga c.base.length gc, .slice va c.wait.length vc, .int .i64 c.done, .int .i64 c.made]
    have Y6 := Y5.below al Y5.lt
    have Q6 := Q5.below al Q5.lt
    have G6 := G5.below al (Nat.le_refl _)
    have E6 := E5.below2 al (Nat.le_refl _)
    have L7 := L6.trans (al.mono L6.size)
    have hz5 : B2 ≠ w5.heap.size := Nat.ne_of_lt Q5.lt
    have hy5 : w.heap.size + 1 ≠ w5.heap.size := Nat.ne_of_lt Y5.lt
    have hsz6 := Nat.le_trans hsz5 al.size
    have hzr := L6.size
    clear Y5 Q5 G5 E5 L6 b5
    go_upto_region 5 with fail
    generalize (w5.alloc (.cells #[.int .i64 c.who, .int .i64 c.seen, .slice ga c.base.length gc, .slice va c.wait.length vc, .int .i64 c.done, .int .i64 c.made] 33)) = w6 at *
    have hl6 := (hl.below L7)
    have hHB := HB3.out
    have HHA := Lib.hid (hearAll_desk B2 w1.heap.size cs c (c.done.toNat + 1) ga gc fr b off cap l w6 Q6 hV (by omega) (by omega) e2 G6 q1 q2 hsz6 htr (hl6.mono L7.size) hlf hlb hcap hcm hhf (ht.below L7 hz) hzB hbB)
    have hB2 := Q6.lt
    have h2w : w.heap.size + 1 < B2 := hHB.1
    have hQ6 := Q6
    clear hV hl hl6
    go_wp2_with fail
    refine HHA.out.mono ?_
    rintro _ w7 ⟨b7, h7⟩
    have Y7 := Y6.but b7 Y6.lt (by omega)
    have Z7 := Z6.but b7 Z6.lt (Ne.symm hz5)
    have L8 := L7.trans (b7.below (N := w.heap.size) (by omega) L7.size)
    rcases h7 with ⟨hno, rfl⟩ | ⟨hyes, rfl, cs', f', ya, yc, Q7, V7, k3, k4, G7, k5, k6⟩
    · have HZ := Lib.hid (chear_same HO2.out hno)
      have G7 := G6.butB hQ6 (by decide) b7 (Nat.le_refl _)
      have E7 := E6.butN hQ4 b7 (Nat.le_refl _)
      have HF := Lib.hid (fun v0 v1 v2 v3 v4 v5 => retCliB_gen (w := w) (told := false) (r := w.heap.size + 1) G7 E7 q1 q2 k1 k2 (by omega) L5.size (by omega) hw1 hY4 L8 v0 v1 v2 v3 v4 v5)
      obtain ⟨d0, d1, d2, d3, d4, d5⟩ := Y7.cli
      obtain ⟨y0, y1, y2, y3, y4, y5⟩ := Y7.cliF
      obtain ⟨z0, z1, z2, z3, z4, z5⟩ := Z7.cli
      clear HHA Y6 Z6 G6 E6 Q6 hQ6 G7 E7 Y7 Z7 b7 hno
      go_wp2
      exact bodyPost_ret (v := .tuple #[.agg #[.int .i64 c.who, .int .i64 c.seen, .slice ga c.base.length gc, .slice va c.wait.length vc, .int .i64 c.done, .int .i64 c.made], .bool false]) (by simp [results, Tryd.results17, go_sem, d0, d1, d2, d3, d4, d5]) rfl (by rw [HZ.out.1, HZ.out.2]; exact HF.out _ _ _ _ _ _)
    · have HZ := Lib.hid (chear_is HO2.out hyes)
      have hF8 := Below.refl w7.heap.size w7
      generalize heardC c (newE c fr l) (newE c fr l).length = c2 at *
      have HCE := Lib.hid (client_desk B2 cs' c2 f' ya yc w7 Q7 V7 k4 k3)
      have hY7 := Y7.lt
      clear HHA Y6 Z6 Z7 G6 E6 Q6 hQ6 b7 hyes HO2
      go_wp2_with fail
      refine HCE.out.mono ?_
      rintro _ w8 ⟨ua, uc, rfl, E8, j1, j2, b8⟩
      have Y8 := Y7.below b8 Y7.lt
      have G8 := G7.below b8 (Nat.le_refl _)
      have L9 := L8.trans (b8.mono L8.size)
      have HF := Lib.hid (fun v0 v1 v2 v3 v4 v5 => retCliB_gen (w := w) (told := true) (r := w.heap.size + 1) G8 E8 k5 k6 j1 j2 (by omega) L8.size (by omega) hw1 hY7 L9 v0 v1 v2 v3 v4 v5)
      obtain ⟨d0, d1, d2, d3, d4, d5⟩ := Y8.cli
      obtain ⟨y0, y1, y2, y3, y4, y5⟩ := Y8.cliF
      clear HCE Y7 G7 Y8 G8 E8 Q7 V7 L8 b8
      go_wp2
      exact bodyPost_ret (v := .tuple #[.agg #[.int .i64 c2.who, .int .i64 c2.seen, .slice ya c2.base.length yc, .slice ua c2.wait.length uc, .int .i64 c2.done, .int .i64 c2.made], .bool true]) (by simp [results, Tryd.results17, go_sem, d0, d1, d2, d3, d4, d5]) rfl (by rw [HZ.out.1, HZ.out.2]; exact HF.out _ _ _ _ _ _)
end Go.Proofs.YtogafpfgdonlmaaDoor
