/-
  The walk of the law FnExactClientHear out of the contracts. Conditions: the arguments read as a client, a number and entries; the table 'creators' holds what its initialiser lays.
-/
import Derived.Test.YtogafpfgdonlmaaDoorJLClientDo
import Derived.Test.YtogafpfgdonlmaaDoorJCliS6
import Derived.Test.YtogafpfgdonlmaaDoorJCliI4
import Derived.Test.YtogafpfgdonlmaaDoorJCliSz
namespace Go.Proofs.YtogafpfgdonlmaaDoor
open Go.ChangeShapes Go.WideShapes Go.ChangeAt Go.RowKit Go.Joins Go.Deep
set_option linter.unusedVariables false

theorem cliHear_len {c : CliD} {fr : Int} {l : List EntD} (hl : c.base.length + c.wait.length ≤ 1048576) : (cliHear c fr l).base.length + (cliHear c fr l).wait.length ≤ 1048576 := by
  cases h : chOk c fr l
  · rw [(chear_no h).1]; exact Nat.zero_le _
  · cases h2 : hearableB c fr l
    · rw [(chear_same h h2).1]; exact hl
    · rw [(chear_is h h2).1]
      obtain ⟨_, _, h3, h4, h5, _⟩ := head_iff.1 (cli_iff.1 (heard_ok h h2)).1
      have := tree_len h3
      omega
theorem OwnEC.atS {w : World} {g C : Nat} {es : List EntD} (h : OwnEC w g C es) : EntsAt w.heap.size w (some ⟨g, 0, none⟩) es := h.at_ h.lt
set_option maxRecDepth 100000 in
set_option maxHeartbeats 16000000 in
theorem fnExactClientHear_walk (w : World) (ht : Tab w) (c : CliD) (ba wa : Option Addr) (bcp wcp : Nat) (h : CliAt w.heap.size w c ba bcp wa wcp) (hf : CliFitW c) (fr : Int) (_hfr : I64 fr) (la : Option Addr) (lcp : Nat) (l : List EntD) (hlm : l.length ≤ maxLen) (hl0 : EntsAt w.heap.size w la l) (hlf : ∀ i, i < l.length → EFit (eat l i)) :
    Calls Tryd.prog 4 #[.agg #[.int .i64 c.who, .int .i64 c.seen, .slice ba c.base.length bcp, .slice wa c.wait.length wcp, .int .i64 c.done, .int .i64 c.made], .int .i64 fr, .slice la l.length lcp] w fun e w' => e = .returned (.bool true) ∧ Below w.heap.size w w' := by
  have hz := ht.pos
  have al : Below w.heap.size w (w.alloc (.cells #[.int .i64 c.who, .int .i64 c.seen, .slice ba c.base.length bcp, .slice wa c.wait.length wcp, .int .i64 c.done, .int .i64 c.made] 25)) := (Below.refl _ _).alloc (Nat.le_refl _) _
  have A0 := Bx.new w 25 #[.int .i64 c.who, .int .i64 c.seen, .slice ba c.base.length bcp, .slice wa c.wait.length wcp, .int .i64 c.done, .int .i64 c.made]
  go_enter Tryd.func4, Tryd.ntmps4
  go_upto_region 1 with fail
  generalize (w.alloc (.cells #[.int .i64 c.who, .int .i64 c.seen, .slice ba c.base.length bcp, .slice wa c.wait.length wcp, .int .i64 c.done, .int .i64 c.made] 25)) = w0 at *
  obtain ⟨x0, x1, x2, x3, x4, x5⟩ := A0.cli
  go_wp2_with fail
  refine (szClient_to c ba wa bcp wcp w0 (h.on al al.size) hf).mono ?_
  rintro _ w1 ⟨z, rfl, hz', b1⟩
  have L1 := below_step al b1 al.size
  have A1 := A0.below b1 A0.lt
  clear al A0 b1 x0 x1 x2 x3 x4 x5
  rcases hz' with hneg | ⟨hpos, hz1⟩
  · go_wp2
    go_ret
    exact ⟨rfl, L1⟩
  · have hl : c.base.length + c.wait.length ≤ 1048576 := by omega
    have HF := Lib.hid (cliFit_of hf hl)
    go_wp2_with fail
    refine (szEntryS_to z hpos (by omega) w.heap.size la lcp l w1 L1.size (hl0.below L1) hlf hlm).mono ?_
    rintro _ w2 ⟨z2, rfl, hz2, b2⟩
    have L2 := below_step L1 b2 L1.size
    have A2 := A1.below b2 A1.lt
    clear L1 A1 b2
    rcases hz2 with hz2 | ⟨hz2, hz3⟩
    · go_wp2
      go_ret
      exact ⟨rfl, L2⟩
    · have hll : l.length ≤ 1048576 := by omega
      have hzn : ¬ z2 < 0 := by omega
      have HLF : Hid (EntsFit l) := ⟨hll, hlf⟩
      have HT : Hid (∀ x, Below w.heap.size w x → Calls Tryd.prog 8 #[.agg #[.int .i64 c.who, .int .i64 c.seen, .slice ba c.base.length bcp, .slice wa c.wait.length wcp, .int .i64 c.done, .int .i64 c.made]] x (RetToCli c x)) := fun x hx => toClient_any c ba wa bcp wcp x (h.on hx hx.size) (by omega) (by omega)
      have HE : Hid (∀ x, Below w.heap.size w x → Calls Tryd.prog 16 #[.slice la l.length lcp] x (RetEnts l x)) := fun x hx => toEntryS_any w.heap.size la lcp l x hx.size (hl0.below hx) hll
      have HS : Hid (∀ (g h ge : Nat) (x : World), OwnP c g h x → OwnEC x ge (l.length * 7) l → Calls Tryd.prog 15 #[.agg #[.int .i64 c.who, .int .i64 c.seen, .slice (some ⟨g, 0, none⟩) c.base.length c.base.length, .slice (some ⟨h, 0, none⟩) c.wait.length c.wait.length, .int .i64 c.done, .int .i64 c.made], .int .i64 fr, .slice (some ⟨ge, 0, none⟩) l.length l.length] x (RetCliB (cliHear c fr l) false (cliHearB c fr l) x)) := fun g h ge x q e => specClientHear_any c fr l _ g 0 _ h 0 _ _ x (cliAt_own q.1 q.2 hl) q.1.lt q.2.lt HF.out e.atS HLF.out (Nat.le_refl _) hlm
      have HI : Hid (∀ (g h ge : Nat) (x : World), OwnP c g h x → OwnEC x ge (l.length * 7) l → Below w.heap.size w x → Calls Tryd.prog 17 #[.agg #[.int .i64 c.who, .int .i64 c.seen, .slice (some ⟨g, 0, none⟩) c.base.length c.base.length, .slice (some ⟨h, 0, none⟩) c.wait.length c.wait.length, .int .i64 c.done, .int .i64 c.made], .int .i64 fr, .slice (some ⟨ge, 0, none⟩) l.length l.length] x (RetCliB (cliHear c fr l) false (cliHearB c fr l) x)) := fun g h ge x q e q2 => implClientHear_any c _ _ _ _ fr ge 0 _ l x (cliAt_own q.1 q.2 hl) HF.out e.atS e.lt HLF.out (Nat.le_refl _) hlm (ht.below q2 hz)
      have hrl : (cliHear c fr l).base.length + (cliHear c fr l).wait.length ≤ 1048576 := cliHear_len hl
      generalize cliHear c fr l = rs at *
      generalize cliHearB c fr l = tb at *
      obtain ⟨x0, x1, x2, x3, x4, x5⟩ := A2.cli
      go_wp2_with fail
      refine (HT.out w2 L2).mono ?_
      rintro _ w3 ⟨g3, h3, rfl, _, _, oa, ob, bb⟩
      clear x0 x1 x2 x3 x4 x5
      have o_3 : OwnP c g3 h3 w3 := ⟨oa, ob⟩
      clear oa ob
      have L_3 := below_step L2 bb L2.size
      have A_3 := A2.below bb A2.lt
      clear L2 A2 bb
      go_wp2_with fail
      refine (HE.out w3 L_3).mono ?_
      rintro _ w4 ⟨g4, rfl, _, E_4, bb⟩
      have L_4 := below_step L_3 bb L_3.size
      have A_4 := A_3.below bb A_3.lt
      have o_4 := OwnP.below o_3 bb
      clear L_3 A_3 o_3 bb
      go_wp2_with fail
      refine (HS.out g3 h3 g4 w4 o_4 E_4).mono ?_
      rintro _ w5 ⟨va, vb, xa, xb, rfl, V5, _, bb⟩
      clear o_4 E_4
      have L_5 := below_step L_4 bb L_4.size
      have A_5 := A_4.below bb A_4.lt
      clear L_4 A_4 bb
      have al := (Below.refl w5.heap.size w5).alloc (Nat.le_refl _) (.cells #[.int .i64 rs.who, .int .i64 rs.seen, .slice va rs.base.length vb, .slice xa rs.wait.length xb, .int .i64 rs.done, .int .i64 rs.made] 33)
      have B_6 := Bx.new w5 33 #[.int .i64 rs.who, .int .i64 rs.seen, .slice va rs.base.length vb, .slice xa rs.wait.length xb, .int .i64 rs.done, .int .i64 rs.made]
      have V_6 : CliAt (w5.alloc (.cells #[.int .i64 rs.who, .int .i64 rs.seen, .slice va rs.base.length vb, .slice xa rs.wait.length xb, .int .i64 rs.done, .int .i64 rs.made] 33)).heap.size (w5.alloc (.cells #[.int .i64 rs.who, .int .i64 rs.seen, .slice va rs.base.length vb, .slice xa rs.wait.length xb, .int .i64 rs.done, .int .i64 rs.made] 33)) rs va vb xa xb := (V5.below al (Nat.le_refl _)).at_
      have sv_6 : (w5.alloc (.cells #[.int .i64 rs.who, .int .i64 rs.seen, .slice va rs.base.length vb, .slice xa rs.wait.length xb, .int .i64 rs.done, .int .i64 rs.made] 33)).heap.size ≤ (w5.alloc (.cells #[.int .i64 rs.who, .int .i64 rs.seen, .slice va rs.base.length vb, .slice xa rs.wait.length xb, .int .i64 rs.done, .int .i64 rs.made] 33)).heap.size := Nat.le_refl _
      clear V5 HS
      have L_6 := below_step L_5 al L_5.size
      have A_6 := A_5.below al A_5.lt
      clear L_5 A_5 al
      have hws := L_6.size
      go_upto_region 9 with fail
      generalize w5.alloc (.cells #[.int .i64 rs.who, .int .i64 rs.seen, .slice va rs.base.length vb, .slice xa rs.wait.length xb, .int .i64 rs.done, .int .i64 rs.made] 33) = w6 at *
      generalize w5.heap.size = bw at *
      obtain ⟨x0, x1, x2, x3, x4, x5⟩ := A_6.cli
      go_wp2_with fail
      refine (HT.out w6 L_6).mono ?_
      rintro _ w7 ⟨g2, h2, rfl, hg2, hh2, oa, ob, bb⟩
      clear x0 x1 x2 x3 x4 x5
      have o_7 : OwnP c g2 h2 w7 := ⟨oa, ob⟩
      clear oa ob
      have L_7 := below_step L_6 bb L_6.size
      have A_7 := A_6.below bb A_6.lt
      have B_7 := B_6.below bb B_6.lt
      have V_7 := V_6.below (bb.mono sv_6)
      have sv_7 := Nat.le_trans sv_6 bb.size
      clear L_6 A_6 B_6 V_6 sv_6 bb
      have al := (Below.refl w7.heap.size w7).alloc (Nat.le_refl _) (.cells #[.int .i64 c.who, .int .i64 c.seen, .slice (some ⟨g2, 0, none⟩) c.base.length c.base.length, .slice (some ⟨h2, 0, none⟩) c.wait.length c.wait.length, .int .i64 c.done, .int .i64 c.made] 33)
      have X_8 := Bx.new w7 33 #[.int .i64 c.who, .int .i64 c.seen, .slice (some ⟨g2, 0, none⟩) c.base.length c.base.length, .slice (some ⟨h2, 0, none⟩) c.wait.length c.wait.length, .int .i64 c.done, .int .i64 c.made]
      have L_8 := below_step L_7 al L_7.size
      have A_8 := A_7.below al A_7.lt
      have B_8 := B_7.below al B_7.lt
      have V_8 := V_7.below (al.mono sv_7)
      have sv_8 := Nat.le_trans sv_7 al.size
      have o_8 := OwnP.below o_7 al
      clear L_7 A_7 B_7 V_7 sv_7 o_7 al
      go_upto_region 10 with fail
      generalize w7.alloc (.cells #[.int .i64 c.who, .int .i64 c.seen, .slice (some ⟨g2, 0, none⟩) c.base.length c.base.length, .slice (some ⟨h2, 0, none⟩) c.wait.length c.wait.length, .int .i64 c.done, .int .i64 c.made] 33) = w8 at *
      generalize w7.heap.size = bx at *
      go_wp2_with fail
      refine (HE.out w8 L_8).mono ?_
      rintro _ w9 ⟨ge, rfl, hge0, E_9, bb⟩
      have hge : w6.heap.size ≤ ge := Nat.le_trans sv_8 hge0
      have hh8 : h2 < w8.heap.size := o_8.2.lt
      have s48 := sv_8
      have L_9 := below_step L_8 bb L_8.size
      have A_9 := A_8.below bb A_8.lt
      have B_9 := B_8.below bb B_8.lt
      have V_9 := V_8.below (bb.mono sv_8)
      have sv_9 := Nat.le_trans sv_8 bb.size
      have o_9 := OwnP.below o_8 bb
      have X_9 := X_8.below bb X_8.lt
      clear L_8 A_8 B_8 V_8 sv_8 o_8 X_8 bb
      obtain ⟨x0, x1, x2, x3, x4, x5⟩ := X_9.cli
      go_wp2_with fail
      refine (HI.out g2 h2 ge w9 o_9 E_9 L_9).mono ?_
      rintro _ w10 ⟨ga, gb, ha, hb, rfl, G_10, _, bb⟩
      clear x0 x1 x2 x3 x4 x5
      have hg2q : g2 < w9.heap.size := o_9.1.lt
      have hh2q : h2 < w9.heap.size := o_9.2.lt
      have hgeq : ge < w9.heap.size := E_9.lt
      have svq : w6.heap.size ≤ w9.heap.size := sv_9
      have sq_10 : w9.heap.size ≤ w10.heap.size := bb.size
      have L_10 := below_step L_9 bb L_9.size
      have A_10 := A_9.below bb A_9.lt
      have B_10 := B_9.below bb B_9.lt
      have V_10 := V_9.below (bb.mono sv_9)
      have sv_10 := Nat.le_trans sv_9 bb.size
      have o_10 := OwnP.below o_9 bb
      have X_10 := X_9.below bb X_9.lt
      have E_10 := E_9.below bb E_9.lt
      clear L_9 A_9 B_9 V_9 sv_9 o_9 X_9 E_9 bb
      have al := (Below.refl w10.heap.size w10).alloc (Nat.le_refl _) (.cells #[.int .i64 rs.who, .int .i64 rs.seen, .slice ga rs.base.length gb, .slice ha rs.wait.length hb, .int .i64 rs.done, .int .i64 rs.made] 33)
      have Q_11 := Bx.new w10 33 #[.int .i64 rs.who, .int .i64 rs.seen, .slice ga rs.base.length gb, .slice ha rs.wait.length hb, .int .i64 rs.done, .int .i64 rs.made]
      have L_11 := below_step L_10 al L_10.size
      have A_11 := A_10.below al A_10.lt
      have B_11 := B_10.below al B_10.lt
      have V_11 := V_10.below (al.mono sv_10)
      have sv_11 := Nat.le_trans sv_10 al.size
      have o_11 := OwnP.below o_10 al
      have X_11 := X_10.below al X_10.lt
      have E_11 := E_10.below al E_10.lt
      have G_11 := G_10.below al (Nat.le_refl _)
      have sq_11 := Nat.le_trans sq_10 al.size
      clear L_10 A_10 B_10 V_10 sv_10 o_10 X_10 E_10 G_10 sq_10 al
      go_upto_region 12 with fail
      generalize w10.alloc (.cells #[.int .i64 rs.who, .int .i64 rs.seen, .slice ga rs.base.length gb, .slice ha rs.wait.length hb, .int .i64 rs.done, .int .i64 rs.made] 33) = w11 at *
      generalize w10.heap.size = bg at *
      generalize w9.heap.size = q6 at *
      generalize w6.heap.size = s4 at *
      obtain ⟨x0, x1, x2, x3, x4, x5⟩ := Q_11.cli
      obtain ⟨y0, y1, y2, y3, y4, y5⟩ := B_11.cli
      go_wp2_with fail
      refine (eqClient_same rs _ _ _ _ _ _ _ _ _ G_11.at_ (V_11.mono sv_11) (by omega) (by omega)).mono ?_
      rintro _ w12 ⟨rfl, bb⟩
      clear x0 x1 x2 x3 x4 x5 y0 y1 y2 y3 y4 y5
      have L_12 := below_step L_11 bb L_11.size
      have A_12 := A_11.below bb A_11.lt
      have B_12 := B_11.below bb B_11.lt
      have V_12 := V_11.below (bb.mono sv_11)
      have sv_12 := Nat.le_trans sv_11 bb.size
      have o_12 := OwnP.below o_11 bb
      have X_12 := X_11.below bb X_11.lt
      have E_12 := E_11.below bb E_11.lt
      have G_12 := G_11.below bb (Nat.le_refl _)
      have sq_12 := Nat.le_trans sq_11 bb.size
      have Q_12 := Q_11.below bb Q_11.lt
      clear L_11 A_11 B_11 V_11 sv_11 o_11 X_11 E_11 G_11 sq_11 Q_11 bb
      go_upto_region 14 with fail
      have Ld := L_12.drew
      have Xd := X_12.drew
      have od := OwnP.below o_12 ((Below.refl w12.heap.size w12).drew)
      obtain ⟨x0, x1, x2, x3, x4, x5⟩ := A_12.cli
      obtain ⟨y0, y1, y2, y3, y4, y5⟩ := X_12.cli
      go_cut [62] (fun p wx => p = .bool false ∧ Below w12.heap.size w12 wx)
      case first =>
        go_region_with (first
          | (go_at_call 8; refine (HT.out _ Ld).mono ?_; rintro _ wa' ⟨g3, h3, rfl, hg3, hh3, o3, e3, ba'⟩; have Xa := Xd.below ba' Xd.lt; have oa := OwnP.below od ba'; obtain ⟨p0, p1, p2, p3, p4, p5⟩ := Xa.cli)
          | (go_at_call 11; refine (eqClient_same c _ _ _ _ _ _ _ _ _ (cliAt_own oa.1 oa.2 hl) (cliAt_own o3 e3 hl) (by omega) (by omega)).mono ?_; rintro _ wb ⟨rfl, bb⟩; have bab := below_step ((Below.refl w12.heap.size w12).drew.trans ba') bb ba'.size))
        all_goals
          go_wp2
          go_meet
          exact ⟨rfl, bab⟩
      case rest =>
        obtain ⟨rfl, bcc⟩ := hcut
        clear Ld Xd od x0 x1 x2 x3 x4 x5 y0 y1 y2 y3 y4 y5
        generalize hwc : wc = w13 at *
        clear hwc
        have L_13 := below_step L_12 bcc L_12.size
        have A_13 := A_12.below bcc A_12.lt
        have B_13 := B_12.below bcc B_12.lt
        have V_13 := V_12.below (bcc.mono sv_12)
        have sv_13 := Nat.le_trans sv_12 bcc.size
        have o_13 := OwnP.below o_12 bcc
        have X_13 := X_12.below bcc X_12.lt
        have E_13 := E_12.below bcc E_12.lt
        have G_13 := G_12.below bcc (Nat.le_refl _)
        have sq_13 := Nat.le_trans sq_12 bcc.size
        have Q_13 := Q_12.below bcc Q_12.lt
        clear L_12 A_12 B_12 V_12 sv_12 o_12 X_12 E_12 G_12 sq_12 Q_12 bcc
        go_wp2_with fail
        refine (HE.out w13 L_13).mono ?_
        rintro _ w14 ⟨g5, rfl, _, N_14, bb⟩
        have L_14 := below_step L_13 bb L_13.size
        have A_14 := A_13.below bb A_13.lt
        have B_14 := B_13.below bb B_13.lt
        have V_14 := V_13.below (bb.mono sv_13)
        have sv_14 := Nat.le_trans sv_13 bb.size
        have o_14 := OwnP.below o_13 bb
        have X_14 := X_13.below bb X_13.lt
        have E_14 := E_13.below bb E_13.lt
        have G_14 := G_13.below bb (Nat.le_refl _)
        have sq_14 := Nat.le_trans sq_13 bb.size
        have Q_14 := Q_13.below bb Q_13.lt
        clear L_13 A_13 B_13 V_13 sv_13 o_13 X_13 E_13 G_13 sq_13 Q_13 bb
        go_wp2_with fail
        refine (eqEntryS_same w14.heap.size _ _ _ _ l _ (Nat.le_refl _) E_14.atS N_14.atS hll).mono ?_
        rintro _ w15 ⟨rfl, bb⟩
        clear N_14
        have L_15 := below_step L_14 bb L_14.size
        have A_15 := A_14.below bb A_14.lt
        have B_15 := B_14.below bb B_14.lt
        have V_15 := V_14.below (bb.mono sv_14)
        have sv_15 := Nat.le_trans sv_14 bb.size
        have o_15 := OwnP.below o_14 bb
        have X_15 := X_14.below bb X_14.lt
        have E_15 := E_14.below bb E_14.lt
        have G_15 := G_14.below bb (Nat.le_refl _)
        have sq_15 := Nat.le_trans sq_14 bb.size
        have Q_15 := Q_14.below bb Q_14.lt
        clear L_14 A_14 B_14 V_14 sv_14 o_14 X_14 E_14 G_14 sq_14 Q_14 bb
        obtain ⟨x0, x1, x2, x3, x4, x5⟩ := X_15.cli
        go_wp2_with fail
        refine (markClient_any s4 c _ _ _ _ _ sv_15 (.inr ⟨g2, _, rfl, hg2, o_15.1⟩) (.inr ⟨h2, _, rfl, hh2, o_15.2⟩) hl).mono ?_
        rintro _ w16 ⟨rfl, md⟩
        clear x0 x1 x2 x3 x4 x5
        have L_16 := L_15.trans (md.low.mono hws)
        have A_16 := md.box _ _ _ (by decide) (by decide) A_15
        have V_16 := V_15.below md.low
        have B_16 := md.box _ _ _ (by decide) (by decide) B_15
        have Q_16 := md.box _ _ _ (by decide) (by decide) Q_15
        have G_16 : CliGot q6 w16 rs ga gb ha hb := ⟨md.rows q6 _ _ (.inr fun g' e => by cases e; exact hg2q) G_15.rows, md.ents q6 _ _ (.inr fun g' e => by cases e; exact hh2q) G_15.ents, G_15.bl, G_15.bm, G_15.wl, G_15.wm⟩
        have E_16 : GotE s4 w16 (some ⟨ge, 0, none⟩) l := (md.ents w8.heap.size _ _ (.inr fun g' e => by cases e; exact hh8) (.inr ⟨ge, _, rfl, hge0, E_15⟩)).base s48
        have sv_16 := Nat.le_trans sv_15 md.size
        have sq_16 := Nat.le_trans sq_15 md.size
        clear L_15 A_15 X_15 V_15 B_15 Q_15 G_15 E_15 o_15 sv_15 sq_15 md
        have HMK := Lib.hid (markEntryS_outS (c.wait.length * 7 + (c.base.length * 3 + 1)) (by omega) s4 (some ⟨ge, 0, none⟩) l.length l (by omega) w16 sv_16 E_16 hll)
        rw [show ((c.wait.length * 7 + (c.base.length * 3 + 1) : Nat) : Int) = (c.wait.length : Int) * 7 + ((c.base.length : Int) * 3 + 1) by omega] at HMK
        clear E_16
        go_wp2_with fail
        refine HMK.out.mono ?_
        rintro _ w17 ⟨rfl, md⟩
        have L_17 := L_16.trans (md.low.mono hws)
        have A_17 := md.box _ _ _ (by decide) A_16
        have V_17 := V_16.below md.low
        have B_17 := md.box _ _ _ (by decide) B_16
        have Q_17 := md.box _ _ _ (by decide) Q_16
        have G_17 : CliGot q6 w17 rs ga gb ha hb := ⟨md.rows q6 _ _ G_16.rows, md.ents q6 _ _ (.inr fun g' e => by cases e; exact hgeq) G_16.ents, G_16.bl, G_16.bm, G_16.wl, G_16.wm⟩
        have sv_17 := Nat.le_trans sv_16 md.size
        have sq_17 := Nat.le_trans sq_16 md.size
        have hk1 : ¬ ((l.length : Int) * 7 + ((c.wait.length : Int) * 7 + ((c.base.length : Int) * 3 + 1)) < 0) := by omega
        clear L_16 A_16 V_16 B_16 Q_16 G_16 sv_16 sq_16 md HMK
        obtain ⟨x0, x1, x2, x3, x4, x5⟩ := Q_17.cli
        obtain ⟨y0, y1, y2, y3, y4, y5⟩ := B_17.cli
        go_wp2_with fail
        refine (eqClient_same rs _ _ _ _ _ _ _ _ _ G_17.at_ (V_17.mono sv_17) (by omega) (by omega)).mono ?_
        rintro _ w18 ⟨rfl, bb⟩
        clear x0 x1 x2 x3 x4 x5 y0 y1 y2 y3 y4 y5
        have L_18 := below_step L_17 bb L_17.size
        have A_18 := A_17.below bb A_17.lt
        have B_18 := B_17.below bb B_17.lt
        have V_18 := V_17.below (bb.mono sv_17)
        have sv_18 := Nat.le_trans sv_17 bb.size
        have G_18 := G_17.below bb (Nat.le_refl _)
        have sq_18 := Nat.le_trans sq_17 bb.size
        have Q_18 := Q_17.below bb Q_17.lt
        clear L_17 A_17 B_17 V_17 sv_17 G_17 sq_17 Q_17 bb
        obtain ⟨x0, x1, x2, x3, x4, x5⟩ := Q_18.cli
        go_wp2_with fail
        refine (markClient_any q6 rs _ _ _ _ _ sq_18 G_18.rows G_18.ents hrl).mono ?_
        rintro _ w19 ⟨rfl, mf⟩
        clear x0 x1 x2 x3 x4 x5
        have L_19 := L_18.trans (mf.low.mono (Nat.le_trans hws svq))
        have A_19 := mf.box _ _ _ (by decide) (by decide) A_18
        have V_19 := V_18.below (mf.low.mono svq)
        have B_19 := mf.box _ _ _ (by decide) (by decide) B_18
        have Q_19 := mf.box _ _ _ (by decide) (by decide) Q_18
        have MR_19 := mf.gotR
        have ME_19 := mf.gotE
        have sv_19 := Nat.le_trans sv_18 mf.size
        have sq_19 := Nat.le_trans sq_18 mf.size
        have hq1 : ¬ ((rs.wait.length : Int) * 7 + ((rs.base.length : Int) * 3 + 1) < 0) := by omega
        clear L_18 A_18 V_18 B_18 Q_18 G_18 sv_18 sq_18 mf
        obtain ⟨x0, x1, x2, x3, x4, x5⟩ := Q_19.cli
        go_wp2_with fail
        refine (heldClient_any _ _ _ _ _ _ _ _ rs.base.length rs.wait.length _ MR_19.rows ME_19.ents hrl).mono ?_
        rintro _ w20 ⟨rfl, bb⟩
        clear x0 x1 x2 x3 x4 x5
        have L_20 := below_step L_19 bb L_19.size
        have A_20 := A_19.below bb A_19.lt
        have B_20 := B_19.below bb B_19.lt
        have V_20 := V_19.below (bb.mono sv_19)
        have sv_20 := Nat.le_trans sv_19 bb.size
        have sq_20 := Nat.le_trans sq_19 bb.size
        have Q_20 := Q_19.below bb Q_19.lt
        have MR_20 := MR_19.below bb (Nat.le_refl _)
        have ME_20 := ME_19.below bb (Nat.le_refl _)
        clear L_19 A_19 B_19 V_19 sv_19 sq_19 Q_19 MR_19 ME_19 bb
        obtain ⟨x0, x1, x2, x3, x4, x5⟩ := A_20.cli
        go_wp2_with fail
        refine (HT.out w20 L_20).mono ?_
        rintro _ w21 ⟨g6, h6, rfl, _, _, oa, ob, bb⟩
        clear x0 x1 x2 x3 x4 x5
        have o_21 : OwnP c g6 h6 w21 := ⟨oa, ob⟩
        clear oa ob
        have L_21 := below_step L_20 bb L_20.size
        have A_21 := A_20.below bb A_20.lt
        have B_21 := B_20.below bb B_20.lt
        have V_21 := V_20.below (bb.mono sv_20)
        have sv_21 := Nat.le_trans sv_20 bb.size
        have sq_21 := Nat.le_trans sq_20 bb.size
        have Q_21 := Q_20.below bb Q_20.lt
        have MR_21 := MR_20.below bb (Nat.le_refl _)
        have ME_21 := ME_20.below bb (Nat.le_refl _)
        clear L_20 A_20 B_20 V_20 sv_20 sq_20 Q_20 MR_20 ME_20 bb
        go_wp2_with fail
        refine (HE.out w21 L_21).mono ?_
        rintro _ w22 ⟨ge6, rfl, _, E_22, bb⟩
        have L_22 := below_step L_21 bb L_21.size
        have A_22 := A_21.below bb A_21.lt
        have B_22 := B_21.below bb B_21.lt
        have V_22 := V_21.below (bb.mono sv_21)
        have sv_22 := Nat.le_trans sv_21 bb.size
        have sq_22 := Nat.le_trans sq_21 bb.size
        have Q_22 := Q_21.below bb Q_21.lt
        have MR_22 := MR_21.below bb (Nat.le_refl _)
        have ME_22 := ME_21.below bb (Nat.le_refl _)
        have o_22 := OwnP.below o_21 bb
        clear L_21 A_21 B_21 V_21 sv_21 sq_21 Q_21 MR_21 ME_21 o_21 bb
        go_wp2_with fail
        refine (HI.out g6 h6 ge6 w22 o_22 E_22 L_22).mono ?_
        rintro _ w23 ⟨ia, ib, ja, jb, rfl, H23, _, bb⟩
        clear o_22 E_22
        have L_23 := below_step L_22 bb L_22.size
        have A_23 := A_22.below bb A_22.lt
        have B_23 := B_22.below bb B_22.lt
        have V_23 := V_22.below (bb.mono sv_22)
        have sv_23 := Nat.le_trans sv_22 bb.size
        have sq_23 := Nat.le_trans sq_22 bb.size
        have Q_23 := Q_22.below bb Q_22.lt
        have MR_23 := MR_22.below bb (Nat.le_refl _)
        have ME_23 := ME_22.below bb (Nat.le_refl _)
        clear L_22 A_22 B_22 V_22 sv_22 sq_22 Q_22 MR_22 ME_22 bb
        have al := (Below.refl w23.heap.size w23).alloc (Nat.le_refl _) (.cells #[.int .i64 rs.who, .int .i64 rs.seen, .slice ia rs.base.length ib, .slice ja rs.wait.length jb, .int .i64 rs.done, .int .i64 rs.made] 33)
        have P_24 := Bx.new w23 33 #[.int .i64 rs.who, .int .i64 rs.seen, .slice ia rs.base.length ib, .slice ja rs.wait.length jb, .int .i64 rs.done, .int .i64 rs.made]
        have H_24 := (H23.below al (Nat.le_refl _)).at_
        clear H23
        have L_24 := below_step L_23 al L_23.size
        have A_24 := A_23.below al A_23.lt
        have B_24 := B_23.below al B_23.lt
        have V_24 := V_23.below (al.mono sv_23)
        have sv_24 := Nat.le_trans sv_23 al.size
        have sq_24 := Nat.le_trans sq_23 al.size
        have Q_24 := Q_23.below al Q_23.lt
        have MR_24 := MR_23.below al (Nat.le_refl _)
        have ME_24 := ME_23.below al (Nat.le_refl _)
        clear L_23 A_23 B_23 V_23 sv_23 sq_23 Q_23 MR_23 ME_23 al
        go_upto_region 32 with fail
        generalize w23.alloc (.cells #[.int .i64 rs.who, .int .i64 rs.seen, .slice ia rs.base.length ib, .slice ja rs.wait.length jb, .int .i64 rs.done, .int .i64 rs.made] 33) = w24 at *
        generalize w23.heap.size = bi at *
        obtain ⟨x0, x1, x2, x3, x4, x5⟩ := P_24.cli
        obtain ⟨y0, y1, y2, y3, y4, y5⟩ := B_24.cli
        go_wp2_with fail
        refine (eqClient_same rs _ _ _ _ _ _ _ _ _ H_24 (V_24.mono sv_24) (by omega) (by omega)).mono ?_
        rintro _ w25 ⟨rfl, bb⟩
        clear P_24 H_24 x0 x1 x2 x3 x4 x5 y0 y1 y2 y3 y4 y5
        have L_25 := below_step L_24 bb L_24.size
        have A_25 := A_24.below bb A_24.lt
        have B_25 := B_24.below bb B_24.lt
        have V_25 := V_24.below (bb.mono sv_24)
        have sv_25 := Nat.le_trans sv_24 bb.size
        have sq_25 := Nat.le_trans sq_24 bb.size
        have Q_25 := Q_24.below bb Q_24.lt
        have MR_25 := MR_24.below bb (Nat.le_refl _)
        have ME_25 := ME_24.below bb (Nat.le_refl _)
        clear L_24 A_24 B_24 V_24 sv_24 sq_24 Q_24 MR_24 ME_24 bb
        obtain ⟨x0, x1, x2, x3, x4, x5⟩ := Q_25.cli
        go_wp2_with fail
        refine (heldClient_any _ _ _ _ _ _ _ _ rs.base.length rs.wait.length _ MR_25.rows ME_25.ents hrl).mono ?_
        rintro _ w26 ⟨rfl, bb⟩
        clear x0 x1 x2 x3 x4 x5
        have L_26 := below_step L_25 bb L_25.size
        have A_26 := A_25.below bb A_25.lt
        have B_26 := B_25.below bb B_25.lt
        have V_26 := V_25.below (bb.mono sv_25)
        have sv_26 := Nat.le_trans sv_25 bb.size
        have sq_26 := Nat.le_trans sq_25 bb.size
        have Q_26 := Q_25.below bb Q_25.lt
        have MR_26 := MR_25.below bb (Nat.le_refl _)
        have ME_26 := ME_25.below bb (Nat.le_refl _)
        clear L_25 A_25 B_25 V_25 sv_25 sq_25 Q_25 MR_25 ME_25 bb
        go_wp2
        go_ret
        exact ⟨rfl, L_26⟩
end Go.Proofs.YtogafpfgdonlmaaDoor
