/-
  Contract of the model's ClientHear. Conditions: as each theorem says.
-/
import Derived.Test.YtogafpfgdonlmaaDoorJCliS5
import Derived.Test.YtogafpfgdonlmaaDoorJCliS4
import Derived.Test.YtogafpfgdonlmaaDoorJCliM3
namespace Go.Proofs.YtogafpfgdonlmaaDoor
open Go.ChangeShapes Go.WideShapes Go.ChangeAt Go.RowKit Go.Joins Go.Deep
set_option linter.unusedVariables false

theorem ents_badS {l : List EntD} {k : Nat} (hk : k < l.length) (h : entB (eat l k) = false) : entsB l = false := by
  rw [Bool.eq_false_iff]; intro g
  rw [ents_at g hk] at h; cases h
theorem ch_no1 {c : CliD} {fr : Int} {l : List EntD} (h : cliB c = false) : chOk c fr l = false := by simp [chOk, h]
theorem ch_no2 {c : CliD} {fr : Int} {l : List EntD} (h : inB fr 0 40 = false) : chOk c fr l = false := by simp [chOk, h]
theorem ch_no3 {c : CliD} {fr : Int} {l : List EntD} (h : entsB l = false) : chOk c fr l = false := by simp [chOk, h]
theorem ch_yes {c : CliD} {fr : Int} {l : List EntD} (h1 : cliB c = true) (h2 : inB fr 0 40 = true) (h3 : entsB l = true) : chOk c fr l = true := by simp [chOk, h1, h2, h3]
set_option maxRecDepth 100000 in
set_option maxHeartbeats 8000000 in
theorem specClientHear_any (c : CliD) (fr : Int) (l : List EntD) (la : Option Addr) (bb bo bc wb wo wc lc : Nat) (w : World) (h : CliAt w.heap.size w c (some ⟨bb, bo, none⟩) bc (some ⟨wb, wo, none⟩) wc) (hbb : bb < w.heap.size) (hwb : wb < w.heap.size) (hf : CliFit c)
    (hl : EntsAt w.heap.size w la l) (hlf : EntsFit l) (hlc : l.length ≤ lc) (hlm : lc ≤ maxLen) :
    Calls Tryd.prog 15 #[.agg #[.int .i64 c.who, .int .i64 c.seen, .slice (some ⟨bb, bo, none⟩) c.base.length bc, .slice (some ⟨wb, wo, none⟩) c.wait.length wc, .int .i64 c.done, .int .i64 c.made], .int .i64 fr, .slice la l.length lc] w (RetCliB (cliHear c fr l) false (cliHearB c fr l) w) := by
  have L0 : Below w.heap.size w ((w.alloc (.cells #[.int .i64 c.who, .int .i64 c.seen, .slice (some ⟨bb, bo, none⟩) c.base.length bc, .slice (some ⟨wb, wo, none⟩) c.wait.length wc, .int .i64 c.done, .int .i64 c.made] 33)).alloc (.cells #[.int .i64 0, .int .i64 0, .slice none 0 0, .slice none 0 0, .int .i64 0, .int .i64 0] 33)) := ((Below.refl _ w).alloc (Nat.le_refl _) _).alloc (by simp) _
  have X0 : Bx ((w.alloc (.cells #[.int .i64 c.who, .int .i64 c.seen, .slice (some ⟨bb, bo, none⟩) c.base.length bc, .slice (some ⟨wb, wo, none⟩) c.wait.length wc, .int .i64 c.done, .int .i64 c.made] 33)).alloc (.cells #[.int .i64 0, .int .i64 0, .slice none 0 0, .slice none 0 0, .int .i64 0, .int .i64 0] 33)) w.heap.size 33 #[.int .i64 c.who, .int .i64 c.seen, .slice (some ⟨bb, bo, none⟩) c.base.length bc, .slice (some ⟨wb, wo, none⟩) c.wait.length wc, .int .i64 c.done, .int .i64 c.made] := (Bx.new w _ _).alloc _
  have Y0 : Bx ((w.alloc (.cells #[.int .i64 c.who, .int .i64 c.seen, .slice (some ⟨bb, bo, none⟩) c.base.length bc, .slice (some ⟨wb, wo, none⟩) c.wait.length wc, .int .i64 c.done, .int .i64 c.made] 33)).alloc (.cells #[.int .i64 0, .int .i64 0, .slice none 0 0, .slice none 0 0, .int .i64 0, .int .i64 0] 33)) (w.heap.size + 1) 33 #[.int .i64 0, .int .i64 0, .slice none 0 0, .slice none 0 0, .int .i64 0, .int .i64 0] := by
    have q := Bx.new (w.alloc (.cells #[.int .i64 c.who, .int .i64 c.seen, .slice (some ⟨bb, bo, none⟩) c.base.length bc, .slice (some ⟨wb, wo, none⟩) c.wait.length wc, .int .i64 c.done, .int .i64 c.made] 33)) 33 #[.int .i64 0, .int .i64 0, .slice none 0 0, .slice none 0 0, .int .i64 0, .int .i64 0]
    rw [World.size_alloc] at q
    exact q
  go_enter Tryd.func15, Tryd.ntmps15
  go_upto_region 1 with fail
  generalize ((w.alloc (.cells #[.int .i64 c.who, .int .i64 c.seen, .slice (some ⟨bb, bo, none⟩) c.base.length bc, .slice (some ⟨wb, wo, none⟩) c.wait.length wc, .int .i64 c.done, .int .i64 c.made] 33)).alloc (.cells #[.int .i64 0, .int .i64 0, .slice none 0 0, .slice none 0 0, .int .i64 0, .int .i64 0] 33)) = w1 at *
  obtain ⟨x0, x1, x2, x3, x4, x5⟩ := X0.cli
  go_wp2_with fail
  refine (specClientOk_any w.heap.size c _ _ bc wc _ L0.size (h.below L0) hf).mono ?_
  rintro _ w2 ⟨rfl, b2⟩
  have X2 := X0.below b2 X0.lt
  have Y2 := Y0.below b2 Y0.lt
  have L2 := L0.trans (b2.mono L0.size)
  clear X0 Y0 L0 b2 x0 x1 x2 x3 x4 x5
  cases hok : cliB c
  · have HZ := Lib.hid (chear_no (ch_no1 (fr := fr) (l := l) hok))
    obtain ⟨d0, d1, d2, d3, d4, d5⟩ := Y2.cli
    obtain ⟨y0, y1, y2, y3, y4, y5⟩ := Y2.cliF
    clear hok X2 Y2
    go_wp2
    exact bodyPost_ret (v := .tuple #[.agg #[.int .i64 0, .int .i64 0, .slice none 0 0, .slice none 0 0, .int .i64 0, .int .i64 0], .bool false]) (by simp [results, Tryd.results15, go_sem, d0, d1, d2, d3, d4, d5]) rfl (retCliB_zero (r := w.heap.size + 1) HZ.out rfl (by omega) L2 _ _ _ _ _ _)
  · go_wp2_with fail
    refine (l6In_any _ _ _ _).mono ?_
    rintro _ w' ⟨rfl, rfl⟩
    cases hin : inB fr 0 40
    · have HZ := Lib.hid (chear_no (ch_no2 (c := c) (l := l) hin))
      obtain ⟨d0, d1, d2, d3, d4, d5⟩ := Y2.cli
      obtain ⟨y0, y1, y2, y3, y4, y5⟩ := Y2.cliF
      clear hok hin X2 Y2
      go_wp2
      exact bodyPost_ret (v := .tuple #[.agg #[.int .i64 0, .int .i64 0, .slice none 0 0, .slice none 0 0, .int .i64 0, .int .i64 0], .bool false]) (by simp [results, Tryd.results15, go_sem, d0, d1, d2, d3, d4, d5]) rfl (retCliB_zero (r := w.heap.size + 1) HZ.out rfl (by omega) L2 _ _ _ _ _ _)
    · have HOK := Lib.hid hok
      have HIN := Lib.hid hin
      clear hok hin
      go_wp2_with fail
      go_loopw [8] (fun t wr => ∃ k : Nat, k ≤ l.length ∧ t = .int .i64 k ∧ Hid (∀ i, i < k → entB (eat l i) = true) ∧ Bx wr w.heap.size 33 #[.int .i64 c.who, .int .i64 c.seen, .slice (some ⟨bb, bo, none⟩) c.base.length bc, .slice (some ⟨wb, wo, none⟩) c.wait.length wc, .int .i64 c.done, .int .i64 c.made] ∧ Bx wr (w.heap.size + 1) 33 #[.int .i64 0, .int .i64 0, .slice none 0 0, .slice none 0 0, .int .i64 0, .int .i64 0] ∧ Below w.heap.size w wr) (fun t _ => l.length - (intOf t).toNat)
      case atStart => exact ⟨0, Nat.zero_le _, rfl, fun i hi => absurd hi (Nat.not_lt_zero i), X2, Y2, L2⟩
      case round =>
        obtain ⟨k, hk, rfl, hp, X, Y, hb⟩ := hrel
        clear X2 Y2 L2
        have hr := hl.below hb
        by_cases hlt : k < l.length
        · have HE : Hid (∀ x, Calls Tryd.prog 34 #[.agg #[.int .i64 (eat l k).who, .int .i64 (eat l k).seq, .int .i64 (eat l k).op.kind, .int .i64 (eat l k).op.id, .int .i64 (eat l k).op.up, .int .i64 (eat l k).op.at_, .string (eat l k).op.txt]] x (RetBelow (.bool (entB (eat l k))) x)) := fun x => specEntryOk_any (eat l k) x (hlf.2 k hlt)
          have HB : Hid (entB (eat l k) = false → chOk c fr l = false) := fun q => ch_no3 (ents_badS hlt q)
          have HG : Hid (entB (eat l k) = true → ∀ i, i < k + 1 → entB (eat l i) = true) := fun q i hi => by
            by_cases e : i = k
            · rw [e]; exact q
            · exact hp.out i (by omega)
          obtain ⟨b, off, hwa, hbB, c0, c1, c2, c3, c4, c5, c6⟩ := hr.at_ hlt
          have i1 : (k : Int) < (l.length : Int) := by omega
          have hkm : (k : Int) + 1 ≤ 2097152 := by have := hlf.1; omega
          generalize entB (eat l k) = eb at *
          generalize eat l k = e at *
          subst hwa
          go_wp2_with fail
          refine (HE.out _).mono ?_
          rintro _ w4 ⟨rfl, b4⟩
          have L4 := hb.trans (b4.mono hb.size)
          have X4 := X.below b4 X.lt
          have Y4 := Y.below b4 Y.lt
          clear X Y hb b4 hr c0 c1 c2 c3 c4 c5 c6 hp
          cases eb
          · have HZ := Lib.hid (chear_no (HB.out rfl))
            obtain ⟨d0, d1, d2, d3, d4, d5⟩ := Y4.cli
            obtain ⟨y0, y1, y2, y3, y4, y5⟩ := Y4.cliF
            clear HB HG HE X4 Y4
            go_wp2
            exact bodyPost_ret (v := .tuple #[.agg #[.int .i64 0, .int .i64 0, .slice none 0 0, .slice none 0 0, .int .i64 0, .int .i64 0], .bool false]) (by simp [results, Tryd.results15, go_sem, d0, d1, d2, d3, d4, d5]) rfl (retCliB_zero (r := w.heap.size + 1) HZ.out rfl (by omega) L4 _ _ _ _ _ _)
          · have HP := Lib.hid (HG.out rfl)
            clear HB HG HE
            go_wp2
            go_roundw
            case rel => exact ⟨k + 1, by omega, by go_num, HP, X4, Y4, L4⟩
            case measure => simp [intOf]; omega
        · obtain rfl : k = l.length := by omega
          have HC := Lib.hid (ch_yes HOK.out HIN.out (ents_all hp.out))
          have hfr := (inB_iff _ _ _).1 HIN.out
          obtain ⟨⟨e1, e1'⟩, e2, e3, e4, e5, e6, e7⟩ := head_iff.1 (cli_iff.1 HOK.out).1
          have HLO : Hid (∀ i, i < l.length → opokB (eat l i).op = true) := fun i hi => ent_opok (hp.out i hi)
          have hbl := hf.base.1
          have hwl := hf.wait.1
          have htr := Lib.hid e3
          clear e3 hp
          have hbs := hb.size
          have hs1 : 0 ≤ c.seen ∧ c.seen ≤ 1000 := by omega
          have hs2 : 0 ≤ c.done ∧ c.done ≤ 1000 := by omega
          have hs3 : 0 ≤ fr ∧ fr ≤ 1000 := by omega
          have hcb := h.on hb hbs
          have HCP := Lib.hid (l21Copy_any c bb bo bc wb wo wc wr hcb (Nat.lt_of_lt_of_le hbb hbs) (Nat.lt_of_lt_of_le hwb hbs) hbl hwl)
          have hrl := hr.mono hbs
          obtain ⟨x0, x1, x2, x3, x4, x5⟩ := X.cli
          clear hr hcb e1 e1' e2 e4 e5 e6 e7 hfr
          go_wp2_with fail
          refine HCP.out.mono ?_
          rintro _ w3 ⟨ba3, bc3, wa3, wc3, rfl, G3, S3, b3⟩
          obtain ⟨g, h', rfl, rfl, p1, p2, p3, p4⟩ := S3 rfl
          have L3 := hb.trans (b3.mono hbs)
          have Y3 := Y.below b3 Y.lt
          have hl3 := (hrl.below b3).mono b3.size
          have HH := Lib.hid (l21Hear_any c fr l (some ⟨g, 0, none⟩) la bc3 h' 0 wc3 lc w3 G3.at_ p4 htr.out hs1 hs2 hl3 hlf HLO.out hlc hlm hs3)
          have HW := Lib.hid G3
          have hb3s := b3.size
          clear X Y hb b3 G3 HCP hrl x0 x1 x2 x3 x4 x5 S3
          go_wp2_with fail
          refine HH.out.mono ?_
          rintro _ w5 ⟨b5, ⟨hno, rfl⟩ | ⟨hye, d, ya, yc, xo, xc, hd, rfl, M5⟩⟩
          · have HZ := Lib.hid (chear_same HC.out hno)
            have L5 := L3.trans (b5.mono L3.size)
            have Y5 := Y3.below b5 Y3.lt
            have G5 := HW.out.below b5 (Nat.le_refl _)
            have hg5 := Nat.lt_of_lt_of_le p2 b5.size
            have hh5 := Nat.lt_of_lt_of_le p4 b5.size
            have L6 := L5.alloc L5.size (.cells #[.int .i64 c.who, .int .i64 c.seen, .slice (some ⟨g, 0, none⟩) c.base.length bc3, .slice (some ⟨h', 0, none⟩) c.wait.length wc3, .int .i64 c.done, .int .i64 c.made] 33)
            have Y6 := Y5.alloc (.cells #[.int .i64 c.who, .int .i64 c.seen, .slice (some ⟨g, 0, none⟩) c.base.length bc3, .slice (some ⟨h', 0, none⟩) c.wait.length wc3, .int .i64 c.done, .int .i64 c.made] 33)
            have Z6 := Bx.new w5 33 #[.int .i64 c.who, .int .i64 c.seen, .slice (some ⟨g, 0, none⟩) c.base.length bc3, .slice (some ⟨h', 0, none⟩) c.wait.length wc3, .int .i64 c.done, .int .i64 c.made]
            have al6 := (Below.refl w5.heap.size w5).alloc (Nat.le_refl _) (.cells #[.int .i64 c.who, .int .i64 c.seen, .slice (some ⟨g, 0, none⟩) c.base.length bc3, .slice (some ⟨h', 0, none⟩) c.wait.length wc3, .int .i64 c.done, .int .i64 c.made] 33)
            have G6 := (G5.below al6 (Nat.le_refl _)).at_
            have hg6 := Nat.lt_of_lt_of_le hg5 al6.size
            have hh6 := Nat.lt_of_lt_of_le hh5 al6.size
            clear hno HH HW L5 Y5 G5 hg5 hh5 al6 b5 L3 Y3 hl3 p2 p4
            go_upto_region 9 with fail
            generalize w5.alloc (.cells #[.int .i64 c.who, .int .i64 c.seen, .slice (some ⟨g, 0, none⟩) c.base.length bc3, .slice (some ⟨h', 0, none⟩) c.wait.length wc3, .int .i64 c.done, .int .i64 c.made] 33) = w6 at *
            generalize w5.heap.size = bz at *
            obtain ⟨x0, x1, x2, x3, x4, x5⟩ := Z6.cli
            go_wp2_with fail
            refine (l21Copy_any c g 0 bc3 h' 0 wc3 w6 G6 hg6 hh6 hbl hwl).mono ?_
            rintro _ w7 ⟨ba7, bc7, wa7, wc7, rfl, G7, S7, b7⟩
            obtain ⟨g7, h7, rfl, rfl, q1, q2, q3, q4⟩ := S7 rfl
            have L7 := L6.trans (b7.mono L6.size)
            have Y7 := Y6.below b7 Y6.lt
            have l6s := L6.size
            have l6t := Y6.lt
            obtain ⟨d0, d1, d2, d3, d4, d5⟩ := Y7.cli
            obtain ⟨y0, y1, y2, y3, y4, y5⟩ := Y7.cliF
            have HF := Lib.hid (fun v0 v1 v2 v3 v4 v5 => retCliB_put (w := w) (w3 := w7) (c := c) (told := false) (nn := false) (r := w.heap.size + 1) G7 l6s (by omega) (by omega) (by omega) (by omega) q2 (by omega) q4 L7 v0 v1 v2 v3 v4 v5)
            clear G7 Y7 Y6 L6 G6 Z6 b7 L7 q1 q2 q3 q4 x0 x1 x2 x3 x4 x5 hg6 hh6
            go_wp2
            exact bodyPost_ret (v := .tuple #[.agg #[.int .i64 c.who, .int .i64 c.seen, .slice (some ⟨g7, 0, none⟩) c.base.length bc7, .slice (some ⟨h7, 0, none⟩) c.wait.length wc7, .int .i64 c.done, .int .i64 c.made], .bool false]) (by simp [results, Tryd.results15, go_sem, d0, d1, d2, d3, d4, d5]) rfl (by rw [HZ.out.1, HZ.out.2]; exact HF.out _ _ _ _ _ _)
          · have HZ := Lib.hid (chear_is HC.out hye)
            have hdt : cliB d = true := by rw [hd]; exact heard_ok HC.out hye
            rw [← hd] at HZ
            have hdb := (head_iff.1 (cli_iff.1 hdt).1).2.2.1
            have hd3 := (treeP_of hdb).len
            have hd4 := tree_len hdb
            have hd5 := (head_iff.1 (cli_iff.1 hdt).1).2.2.2.2.1
            have hd6 := (head_iff.1 (cli_iff.1 hdt).1).2.2.2.1.1
            have hdl : d.base.length ≤ 1048576 := by omega
            have hdw : d.wait.length ≤ 1048576 := by omega
            have L5 := L3.trans (b5.mono L3.size)
            have Y5 := Y3.below b5 Y3.lt
            have hh5 := Nat.lt_of_lt_of_le p4 b5.size
            have hg5 := Nat.lt_of_lt_of_le p2 b5.size
            have HA : ∃ gd, ya = some ⟨gd, 0, none⟩ ∧ gd < w5.heap.size ∧ RowsAt w5.heap.size w5 ya d.base := by
              rcases M5.base with ⟨e1, _, e2⟩ | q
              · refine ⟨g, e1, hg5, ?_⟩
                rw [e1, e2]; exact ((HW.out.below b5 (Nat.le_refl _)).at_).rows
              · have q' := q
                rcases q with q | ⟨gd, C, e1, _, oc⟩
                · omega
                · exact ⟨gd, e1, oc.lt, q'.rows⟩
            obtain ⟨gd, rfl, hgd5, hrw5⟩ := HA
            have C5 : CliAt w5.heap.size w5 d (some ⟨gd, 0, none⟩) yc (some ⟨h', xo, none⟩) xc := ⟨hrw5, M5.ents.mono b5.size, M5.bl, M5.bm, M5.wl, M5.wm⟩
            have L6 := L5.alloc L5.size (.cells #[.int .i64 d.who, .int .i64 d.seen, .slice (some ⟨gd, 0, none⟩) d.base.length yc, .slice (some ⟨h', xo, none⟩) d.wait.length xc, .int .i64 d.done, .int .i64 d.made] 33)
            have Y6 := Y5.alloc (.cells #[.int .i64 d.who, .int .i64 d.seen, .slice (some ⟨gd, 0, none⟩) d.base.length yc, .slice (some ⟨h', xo, none⟩) d.wait.length xc, .int .i64 d.done, .int .i64 d.made] 33)
            have Z6 := Bx.new w5 33 #[.int .i64 d.who, .int .i64 d.seen, .slice (some ⟨gd, 0, none⟩) d.base.length yc, .slice (some ⟨h', xo, none⟩) d.wait.length xc, .int .i64 d.done, .int .i64 d.made]
            have al6 := (Below.refl w5.heap.size w5).alloc (Nat.le_refl _) (.cells #[.int .i64 d.who, .int .i64 d.seen, .slice (some ⟨gd, 0, none⟩) d.base.length yc, .slice (some ⟨h', xo, none⟩) d.wait.length xc, .int .i64 d.done, .int .i64 d.made] 33)
            have G6 := (C5.below al6).mono al6.size
            have hg6 := Nat.lt_of_lt_of_le hgd5 al6.size
            have hh6 := Nat.lt_of_lt_of_le hh5 al6.size
            clear hye HH HW L5 Y5 C5 hg5 hh5 al6 b5 L3 Y3 hl3 p2 p4 M5 hrw5 hgd5 hd hdt hdb hd3 hd4 hd5 hd6
            go_upto_region 9 with fail
            generalize w5.alloc (.cells #[.int .i64 d.who, .int .i64 d.seen, .slice (some ⟨gd, 0, none⟩) d.base.length yc, .slice (some ⟨h', xo, none⟩) d.wait.length xc, .int .i64 d.done, .int .i64 d.made] 33) = w6 at *
            generalize w5.heap.size = bz at *
            obtain ⟨x0, x1, x2, x3, x4, x5⟩ := Z6.cli
            go_wp2_with fail
            refine (l21Copy_any d gd 0 yc h' xo xc w6 G6 hg6 hh6 hdl hdw).mono ?_
            rintro _ w7 ⟨ba7, bc7, wa7, wc7, rfl, G7, S7, b7⟩
            obtain ⟨g7, h7, rfl, rfl, q1, q2, q3, q4⟩ := S7 rfl
            have L7 := L6.trans (b7.mono L6.size)
            have Y7 := Y6.below b7 Y6.lt
            have l6s := L6.size
            have l6t := Y6.lt
            obtain ⟨d0, d1, d2, d3, d4, d5⟩ := Y7.cli
            obtain ⟨y0, y1, y2, y3, y4, y5⟩ := Y7.cliF
            have HF := Lib.hid (fun v0 v1 v2 v3 v4 v5 => retCliB_put (w := w) (w3 := w7) (c := d) (told := true) (nn := false) (r := w.heap.size + 1) G7 l6s (by omega) (by omega) (by omega) (by omega) q2 (by omega) q4 L7 v0 v1 v2 v3 v4 v5)
            clear G7 Y7 Y6 L6 G6 Z6 b7 L7 q1 q2 q3 q4 x0 x1 x2 x3 x4 x5 hg6 hh6
            go_wp2
            exact bodyPost_ret (v := .tuple #[.agg #[.int .i64 d.who, .int .i64 d.seen, .slice (some ⟨g7, 0, none⟩) d.base.length bc7, .slice (some ⟨h7, 0, none⟩) d.wait.length wc7, .int .i64 d.done, .int .i64 d.made], .bool true]) (by simp [results, Tryd.results15, go_sem, d0, d1, d2, d3, d4, d5]) rfl (by rw [HZ.out.1, HZ.out.2]; exact HF.out _ _ _ _ _ _)
end Go.Proofs.YtogafpfgdonlmaaDoor
