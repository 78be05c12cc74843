/-
  The walk of the law FnExactClientShow out of the contracts. Conditions: the argument reads as a client; the table 'creators' holds what its initialiser lays.
-/
import Derived.Test.YtcpmahchagjhkaaDoorJLClientOk
import Derived.Test.YtcpmahchagjhkaaDoorJCliShow
namespace Go.Proofs.YtcpmahchagjhkaaDoor
open Go.ChangeShapes Go.WideShapes Go.ChangeAt Go.RowKit Go.Joins Go.Deep

set_option maxRecDepth 100000 in
set_option maxHeartbeats 8000000 in
theorem fnExactClientShow_walk (w : World) (ht : Tab w) (c : CliD) (ba wa : Option Addr) (bc wc : Nat) (h : CliAt w.heap.size w c ba bc wa wc) (hf : CliFitW c) :
    Calls Tryd.prog 5 #[.agg #[.int .i64 c.who, .int .i64 c.seen, .slice ba c.base.length bc, .slice wa c.wait.length wc, .int .i64 c.done, .int .i64 c.made]] w fun e w' => e = .returned (.bool true) ∧ Below w.heap.size w w' := by
  have hz := ht.pos
  have al := (Below.refl w.heap.size w).alloc (Nat.le_refl _) (.cells #[.int .i64 c.who, .int .i64 c.seen, .slice ba c.base.length bc, .slice wa c.wait.length wc, .int .i64 c.done, .int .i64 c.made] 25)
  have A0 := Bx.new w 25 #[.int .i64 c.who, .int .i64 c.seen, .slice ba c.base.length bc, .slice wa c.wait.length wc, .int .i64 c.done, .int .i64 c.made]
  go_enter Tryd.func5, Tryd.ntmps5
  go_upto_region 1 with fail
  generalize w.alloc (.cells #[.int .i64 c.who, .int .i64 c.seen, .slice ba c.base.length bc, .slice wa c.wait.length wc, .int .i64 c.done, .int .i64 c.made] 25) = w0 at *
  obtain ⟨x0, x1, x2, x3, x4, x5⟩ := A0.cli
  go_wp2_with fail
  refine (szClient_any c ba wa bc wc w0 (h.on al al.size) hf).mono ?_
  rintro _ w1 ⟨z, rfl, hz', b1⟩
  have L1 := below_step al b1 al.size
  have A1 := A0.below b1 A0.lt
  clear al A0 b1 x0 x1 x2 x3 x4 x5
  rcases hz' with hneg | ⟨hpos, hz1, hl⟩
  · go_wp2
    go_ret
    exact ⟨rfl, L1⟩
  · have HF := Lib.hid (cliFit_of hf hl)
    have HT : Hid (∀ x, Below w.heap.size w x → Calls Tryd.prog 10 #[.agg #[.int .i64 c.who, .int .i64 c.seen, .slice ba c.base.length bc, .slice wa c.wait.length wc, .int .i64 c.done, .int .i64 c.made]] x (RetToCli c x)) := fun x hx => toClient_any c ba wa bc wc x (h.on hx hx.size) (by omega) (by omega)
    have HS : Hid (∀ (g h : Nat) (x : World), OwnC x g (c.base.length * 3) c.base → OwnEC x h (c.wait.length * 7) c.wait → Calls Tryd.prog 19 #[.agg #[.int .i64 c.who, .int .i64 c.seen, .slice (some ⟨g, 0, none⟩) c.base.length c.base.length, .slice (some ⟨h, 0, none⟩) c.wait.length c.wait.length, .int .i64 c.done, .int .i64 c.made]] x (RetOwn (cliShow c) x)) := fun g h x h1 h2 => specClientShow_any c _ _ _ _ x (cliAt_own h1 h2 hl) HF.out
    have HI : Hid (∀ (g h : Nat) (x : World), OwnC x g (c.base.length * 3) c.base → OwnEC x h (c.wait.length * 7) c.wait → Below w.heap.size w x → Calls Tryd.prog 20 #[.agg #[.int .i64 c.who, .int .i64 c.seen, .slice (some ⟨g, 0, none⟩) c.base.length c.base.length, .slice (some ⟨h, 0, none⟩) c.wait.length c.wait.length, .int .i64 c.done, .int .i64 c.made]] x (RetGot x.heap.size (cliShow c) x)) := fun g h x h1 h2 h3 => implClientShow_any c _ _ _ _ x (cliAt_own h1 h2 hl) HF.out (ht.below h3 hz)
    have hrl : (cliShow c).length ≤ 1048576 := Nat.le_trans (show_len c) (by omega)
    generalize cliShow c = rs at *
    obtain ⟨x0, x1, x2, x3, x4, x5⟩ := A1.cli
    go_wp2_with fail
    refine (HT.out w1 L1).mono ?_
    rintro _ w2 ⟨g1, h1, rfl, hg1, hh1, o2, e2, b2⟩
    have L2 := below_step L1 b2 L1.size
    have A2 := A1.below b2 A1.lt
    clear L1 A1 b2 x0 x1 x2 x3 x4 x5
    go_wp2_with fail
    refine (HS.out g1 h1 w2 o2 e2).mono ?_
    rintro _ w4 ⟨va, vc, rfl, own4, hvc, b4⟩
    have V4 := rowsAt_own own4
    have L4 := below_step L2 b4 L2.size
    have A4 := A2.below b4 A2.lt
    have sv : w4.heap.size ≤ w4.heap.size := Nat.le_refl _
    have hws : w.heap.size ≤ w4.heap.size := L4.size
    clear L2 A2 b4 o2 e2 hg1 hh1 own4 HS
    obtain ⟨x0, x1, x2, x3, x4, x5⟩ := A4.cli
    go_wp2_with fail
    refine (HT.out w4 L4).mono ?_
    rintro _ w5 ⟨g2, h2, rfl, hg2, hh2, o5, e5, b5⟩
    have L5 := below_step L4 b5 L4.size
    have A5 := A4.below b5 A4.lt
    have V5 := V4.below b5
    have s5 := b5.size
    clear L4 A4 V4 b5 sv x0 x1 x2 x3 x4 x5
    have X6 := Bx.new w5 31 #[.int .i64 c.who, .int .i64 c.seen, .slice (some ⟨g2, 0, none⟩) c.base.length c.base.length, .slice (some ⟨h2, 0, none⟩) c.wait.length c.wait.length, .int .i64 c.done, .int .i64 c.made]
    have al5 := (Below.refl w5.heap.size w5).alloc (Nat.le_refl _) (.cells #[.int .i64 c.who, .int .i64 c.seen, .slice (some ⟨g2, 0, none⟩) c.base.length c.base.length, .slice (some ⟨h2, 0, none⟩) c.wait.length c.wait.length, .int .i64 c.done, .int .i64 c.made] 31)
    have L6 := below_step L5 al5 L5.size
    have A6 := A5.below al5 A5.lt
    have o6 := o5.below al5 o5.lt
    have e6 := e5.below al5 e5.lt
    have V6 := V5.below (al5.mono s5)
    have s6 := Nat.le_trans s5 al5.size
    clear L5 A5 o5 e5 V5 al5
    go_upto_region 7 with fail
    generalize w5.alloc (.cells #[.int .i64 c.who, .int .i64 c.seen, .slice (some ⟨g2, 0, none⟩) c.base.length c.base.length, .slice (some ⟨h2, 0, none⟩) c.wait.length c.wait.length, .int .i64 c.done, .int .i64 c.made] 31) = w6 at *
    generalize w5.heap.size = bx at *
    obtain ⟨x0, x1, x2, x3, x4, x5⟩ := X6.cli
    go_wp2_with fail
    refine (HI.out g2 h2 w6 o6 e6 L6).mono ?_
    rintro _ w8 ⟨ga, gc, rfl, G8, hgc1, hgc2, b8⟩
    have hgq : g2 < w6.heap.size := o6.lt
    have hhq : h2 < w6.heap.size := e6.lt
    have hxq : bx < w6.heap.size := X6.lt
    have haq : w.heap.size < w6.heap.size := A6.lt
    have L8 := below_step L6 b8 L6.size
    have A8 := A6.below b8 A6.lt
    have X8 := X6.below b8 X6.lt
    have o8 := o6.below b8 o6.lt
    have e8 := e6.below b8 e6.lt
    have V8 := V6.below (b8.mono s6)
    have s8 := Nat.le_trans s6 b8.size
    have sq : w6.heap.size ≤ w8.heap.size := b8.size
    have sqv : w4.heap.size ≤ w6.heap.size := s6
    clear L6 A6 X6 o6 e6 V6 b8 s6 s5 x0 x1 x2 x3 x4 x5
    generalize w6.heap.size = q6 at *
    generalize w4.heap.size = s4 at *
    go_wp2_with fail
    refine (eqRowS_same w8.heap.size ga va gc vc rs _ (Nat.le_refl _) G8.rows (V8.mono s8) hrl).mono ?_
    rintro _ w9 ⟨rfl, b9⟩
    have L9 := below_step L8 b9 L8.size
    have A9 := A8.below b9 A8.lt
    have X9 := X8.below b9 X8.lt
    have o9 := o8.below b9 o8.lt
    have e9 := e8.below b9 e8.lt
    have V9 := V8.below (b9.mono s8)
    have G9 := G8.below b9 (Nat.le_refl _)
    have s9 := Nat.le_trans s8 b9.size
    have sq9 := Nat.le_trans sq b9.size
    clear L8 A8 X8 o8 e8 V8 G8 b9 s8 sq
    go_upto_region 10 with fail
    have Ld := L9.drew
    have Xd := X9.drew
    have od := o9.below ((Below.refl w9.heap.size w9).drew) o9.lt
    have ed := e9.below ((Below.refl w9.heap.size w9).drew) e9.lt
    obtain ⟨x0, x1, x2, x3, x4, x5⟩ := A9.cli
    obtain ⟨y0, y1, y2, y3, y4, y5⟩ := X9.cli
    go_cut [31] (fun p wx => p = .bool false ∧ Below w9.heap.size w9 wx)
    case first =>
      go_region_with (first
        | (go_at_call 10; refine (HT.out _ Ld).mono ?_; rintro _ wa' ⟨g3, h3, rfl, hg3, hh3, o3, e3, ba'⟩; have Xa := Xd.below ba' Xd.lt; have oa := od.below ba' od.lt; have ea := ed.below ba' ed.lt; obtain ⟨p0, p1, p2, p3, p4, p5⟩ := Xa.cli)
        | (go_at_call 12; refine (eqClient_same c _ _ _ _ _ _ _ _ _ (cliAt_own oa ea hl) (cliAt_own o3 e3 hl) (by omega) (by omega)).mono ?_; rintro _ wb ⟨rfl, bb⟩; have bab := below_step ((Below.refl w9.heap.size w9).drew.trans ba') bb ba'.size))
      all_goals
        go_wp2
        go_meet
        exact ⟨rfl, bab⟩
    case rest =>
      obtain ⟨rfl, bc'⟩ := hcut
      clear Ld Xd od ed x0 x1 x2 x3 x4 x5 y0 y1 y2 y3 y4 y5
      have La := below_step L9 bc' L9.size
      have Aa := A9.below bc' A9.lt
      have Xa := X9.below bc' X9.lt
      have oa := o9.below bc' o9.lt
      have ea := e9.below bc' e9.lt
      have Va := V9.below (bc'.mono s9)
      have Ga := G9.below bc' (Nat.le_refl _)
      have sa := Nat.le_trans s9 bc'.size
      have sqa := Nat.le_trans sq9 bc'.size
      clear L9 A9 X9 o9 e9 V9 G9 s9 sq9 bc'
      obtain ⟨x0, x1, x2, x3, x4, x5⟩ := Xa.cli
      have hgs : s4 ≤ g2 := hg2
      have hhs : s4 ≤ h2 := hh2
      go_wp2_with fail
      refine (markClient_any s4 c _ _ _ _ _ sa (.inr ⟨g2, _, rfl, hgs, oa⟩) (.inr ⟨h2, _, rfl, hhs, ea⟩) hl).mono ?_
      rintro _ wb ⟨rfl, md⟩
      have Lb := La.trans (md.low.mono (by omega))
      have Ab := md.box _ _ _ (by decide) (by decide) Aa
      have Vb := Va.below md.low
      have Gb := md.rows q6 _ _ (.inr fun g' e => by cases e; exact hgq) Ga
      have sb := Nat.le_trans sa md.size
      have sqb := Nat.le_trans sqa md.size
      have hk1 : ¬ ((c.wait.length : Int) * 7 + ((c.base.length : Int) * 3 + 1) < 0) := by omega
      clear La Aa Xa oa ea Va Ga sa sqa md x0 x1 x2 x3 x4 x5
      go_wp2_with fail
      refine (eqRowS_same _ ga va gc vc rs _ (Nat.le_refl _) Gb.rows (Vb.mono sb) hrl).mono ?_
      rintro _ wd ⟨rfl, bd⟩
      have Ld := below_step Lb bd Lb.size
      have Ad := Ab.below bd Ab.lt
      have Vd := Vb.below (bd.mono sb)
      have Gd := Gb.below bd (Nat.le_refl _)
      have sd := Nat.le_trans sb bd.size
      have sqd := Nat.le_trans sqb bd.size
      clear Lb Ab Vb Gb sb sqb bd
      go_wp2_with fail
      refine (markRowS_got q6 ga gc rs wd sqd Gd hrl).mono ?_
      rintro _ we ⟨rfl, Ge, be⟩
      have Le := Ld.trans (be.mono (by omega))
      have Ae := Ad.below be haq
      have Ve := Vd.below (be.mono sqv)
      have sze : wd.heap.size ≤ we.heap.size := be.size
      have se := Nat.le_trans sd sze
      have sqe := Nat.le_trans sqd sze
      have hq1 : ¬ ((rs.length : Int) * 3 + 1 < 0) := by omega
      clear Ld Ad Vd Gd sd sqd be sze
      go_wp2_with fail
      refine (heldRowS_ex _ ga gc rs.length we (Nat.le_refl _) Ge.rows hrl).mono ?_
      rintro _ wf ⟨rfl, bf⟩
      have Lf := below_step Le bf Le.size
      have Af := Ae.below bf Ae.lt
      have Vf := Ve.below (bf.mono se)
      have Gf := Ge.below bf (Nat.le_refl _)
      have sf := Nat.le_trans se bf.size
      clear Le Ae Ve Ge se bf
      obtain ⟨x0, x1, x2, x3, x4, x5⟩ := Af.cli
      go_wp2_with fail
      refine (HT.out _ Lf).mono ?_
      rintro _ wg ⟨g4, h4, rfl, hg4, hh4, og, eg, bg⟩
      have Lg := below_step Lf bg Lf.size
      have Vg := Vf.below (bg.mono sf)
      have Gg := Gf.below bg (Nat.le_refl _)
      have sg := Nat.le_trans sf bg.size
      clear Lf Af Vf Gf sf bg x0 x1 x2 x3 x4 x5
      go_wp2_with fail
      refine (HI.out g4 h4 wg og eg Lg).mono ?_
      rintro _ wh ⟨ha, hc, rfl, Hh, hh1', hh2', bh⟩
      have Lh := below_step Lg bh Lg.size
      have Vh := Vg.below (bh.mono sg)
      have Gh := Gg.below bh (Nat.le_refl _)
      have sh := Nat.le_trans sg bh.size
      clear Lg Vg Gg sg bh og eg hg4 hh4
      go_wp2_with fail
      refine (eqRowS_same _ ha va hc vc rs wh (Nat.le_refl _) Hh.rows (Vh.mono sh) hrl).mono ?_
      rintro _ wi ⟨rfl, bi⟩
      have Li := below_step Lh bi Lh.size
      have Gi := Gh.below bi (Nat.le_refl _)
      clear Lh Vh Gh Hh bi
      go_wp2_with fail
      refine (heldRowS_ex _ ga gc rs.length wi (Nat.le_refl _) Gi.rows hrl).mono ?_
      rintro _ wj ⟨rfl, bj⟩
      have Lj := below_step Li bj Li.size
      clear Li Gi bj
      go_wp2
      go_ret
      exact ⟨rfl, Lj⟩
end Go.Proofs.YtcpmahchagjhkaaDoor
