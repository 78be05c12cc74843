/-
  Contract of the program's ClientDo. Conditions: as each theorem says.
-/
import Derived.Test.YtogafpfgdonlmaaDoorJDesk3
namespace Go.Proofs.YtogafpfgdonlmaaDoor
open Go.ChangeShapes Go.WideShapes Go.ChangeAt Go.RowKit Go.Joins Go.Deep

theorem Got.neN {base g r : Nat} {w : World} {rs : List RowD} (h : Got base w (some ⟨g, 0, none⟩) rs) (hr : r < base) (hn : rs.length ≠ 0) : g ≠ r := by
  rcases h with q | ⟨g', C, e, hg, _⟩
  · exact absurd q hn
  · cases e; omega
theorem Got.putN {base B j : Nat} {w : World} {a : Option Addr} {rs : List RowD} (h : Got base w a rs) (hB : B < base) (v : Value) : Got base (w.setCell ⟨B, j, none⟩ v) a rs := by
  by_cases hn : rs.length = 0
  · exact .inl hn
  · exact h.put (fun g e => by subst e; exact h.neN hB hn) v
theorem retCliB_gen {w w3 : World} {c : CliD} {told : Bool} {ba wa : Option Addr} {bc wc b1 b2 r : Nat} (hG : Got b1 w3 ba c.base) (hE : GotE b2 w3 wa c.wait) (h1 : c.base.length ≤ bc) (h2 : bc ≤ maxLen) (h3 : c.wait.length ≤ wc) (h4 : wc ≤ maxLen) (hb1 : w.heap.size ≤ b1) (hb2 : w.heap.size ≤ b2) (hr : w.heap.size ≤ r) (hr1 : r < b1) (hr2 : r < b2) (hL : Below w.heap.size w w3) (v0 v1 v2 v3 v4 v5 : Value) :
    RetCliB c false told w (.returned (.tuple #[.agg #[.int .i64 c.who, .int .i64 c.seen, .slice ba c.base.length bc, .slice wa c.wait.length wc, .int .i64 c.done, .int .i64 c.made], .bool told])) ((((((w3.setCell ⟨r, 0, none⟩ v0).setCell ⟨r, 1, none⟩ v1).setCell ⟨r, 2, none⟩ v2).setCell ⟨r, 3, none⟩ v3).setCell ⟨r, 4, none⟩ v4).setCell ⟨r, 5, none⟩ v5) :=
  ⟨ba, bc, wa, wc, rfl, ⟨((((((hG.putN (j := 0) hr1 v0).putN (j := 1) hr1 v1).putN (j := 2) hr1 v2).putN (j := 3) hr1 v3).putN (j := 4) hr1 v4).putN (j := 5) hr1 v5).base hb1, ((((((hE.putN (j := 0) hr2 v0).putN (j := 1) hr2 v1).putN (j := 2) hr2 v2).putN (j := 3) hr2 v3).putN (j := 4) hr2 v4).putN (j := 5) hr2 v5).base hb2, h1, h2, h3, h4⟩, (fun q => by cases q), below_given6 hL hr v0 v1 v2 v3 v4 v5⟩
set_option maxRecDepth 100000 in
set_option maxHeartbeats 4000000 in
theorem implClientDo_any (c : CliD) (o : OpD) (ba wa : Option Addr) (bc wc : Nat) (w : World) (h : CliAt w.heap.size w c ba bc wa wc) (hf : CliFit c) (ho : OpFit o) (ht : Tab w) :
    Calls Tryd.prog 10 #[.agg #[.int .i64 c.who, .int .i64 c.seen, .slice ba c.base.length bc, .slice wa c.wait.length wc, .int .i64 c.done, .int .i64 c.made], .agg #[.int .i64 o.kind, .int .i64 o.id, .int .i64 o.up, .int .i64 o.at_, .string o.txt]] w (RetCliB (cliDo c o) false (cliDoB c o) w) := by
  have hz := ht.pos
  have L0 : Below w.heap.size w (((w.alloc (.cells #[.int .i64 c.who, .int .i64 c.seen, .slice ba c.base.length bc, .slice wa c.wait.length wc, .int .i64 c.done, .int .i64 c.made] 33)).alloc (.cells #[.int .i64 o.kind, .int .i64 o.id, .int .i64 o.up, .int .i64 o.at_, .string o.txt] 37)).alloc (.cells #[.int .i64 0, .int .i64 0, .slice none 0 0, .slice none 0 0, .int .i64 0, .int .i64 0] 33)) := (((Below.refl _ _).alloc (Nat.le_refl _) _).alloc (by simp) _).alloc (by simp; omega) _
  have X0 : Bx (((w.alloc (.cells #[.int .i64 c.who, .int .i64 c.seen, .slice ba c.base.length bc, .slice wa c.wait.length wc, .int .i64 c.done, .int .i64 c.made] 33)).alloc (.cells #[.int .i64 o.kind, .int .i64 o.id, .int .i64 o.up, .int .i64 o.at_, .string o.txt] 37)).alloc (.cells #[.int .i64 0, .int .i64 0, .slice none 0 0, .slice none 0 0, .int .i64 0, .int .i64 0] 33)) w.heap.size 33 #[.int .i64 c.who, .int .i64 c.seen, .slice ba c.base.length bc, .slice wa c.wait.length wc, .int .i64 c.done, .int .i64 c.made] := ((Bx.new w _ _).alloc _).alloc _
  have O0 : Bx (((w.alloc (.cells #[.int .i64 c.who, .int .i64 c.seen, .slice ba c.base.length bc, .slice wa c.wait.length wc, .int .i64 c.done, .int .i64 c.made] 33)).alloc (.cells #[.int .i64 o.kind, .int .i64 o.id, .int .i64 o.up, .int .i64 o.at_, .string o.txt] 37)).alloc (.cells #[.int .i64 0, .int .i64 0, .slice none 0 0, .slice none 0 0, .int .i64 0, .int .i64 0] 33)) (w.heap.size + 1) 37 #[.int .i64 o.kind, .int .i64 o.id, .int .i64 o.up, .int .i64 o.at_, .string o.txt] := by
    have q := (Bx.new (w.alloc (.cells #[.int .i64 c.who, .int .i64 c.seen, .slice ba c.base.length bc, .slice wa c.wait.length wc, .int .i64 c.done, .int .i64 c.made] 33)) 37 #[.int .i64 o.kind, .int .i64 o.id, .int .i64 o.up, .int .i64 o.at_, .string o.txt]).alloc (.cells #[.int .i64 0, .int .i64 0, .slice none 0 0, .slice none 0 0, .int .i64 0, .int .i64 0] 33)
    rw [World.size_alloc] at q
    exact q
  have Y0 : Bx (((w.alloc (.cells #[.int .i64 c.who, .int .i64 c.seen, .slice ba c.base.length bc, .slice wa c.wait.length wc, .int .i64 c.done, .int .i64 c.made] 33)).alloc (.cells #[.int .i64 o.kind, .int .i64 o.id, .int .i64 o.up, .int .i64 o.at_, .string o.txt] 37)).alloc (.cells #[.int .i64 0, .int .i64 0, .slice none 0 0, .slice none 0 0, .int .i64 0, .int .i64 0] 33)) (w.heap.size + 2) 33 #[.int .i64 0, .int .i64 0, .slice none 0 0, .slice none 0 0, .int .i64 0, .int .i64 0] := by
    have q := Bx.new ((w.alloc (.cells #[.int .i64 c.who, .int .i64 c.seen, .slice ba c.base.length bc, .slice wa c.wait.length wc, .int .i64 c.done, .int .i64 c.made] 33)).alloc (.cells #[.int .i64 o.kind, .int .i64 o.id, .int .i64 o.up, .int .i64 o.at_, .string o.txt] 37)) 33 #[.int .i64 0, .int .i64 0, .slice none 0 0, .slice none 0 0, .int .i64 0, .int .i64 0]
    rw [World.size_alloc, World.size_alloc] at q
    exact q
  go_enter Tryd.func10, Tryd.ntmps10
  go_upto_region 1 with fail
  generalize (((w.alloc (.cells #[.int .i64 c.who, .int .i64 c.seen, .slice ba c.base.length bc, .slice wa c.wait.length wc, .int .i64 c.done, .int .i64 c.made] 33)).alloc (.cells #[.int .i64 o.kind, .int .i64 o.id, .int .i64 o.up, .int .i64 o.at_, .string o.txt] 37)).alloc (.cells #[.int .i64 0, .int .i64 0, .slice none 0 0, .slice none 0 0, .int .i64 0, .int .i64 0] 33)) = w1 at *
  obtain ⟨x0, x1, x2, x3, x4, x5⟩ := X0.cli
  have hw1 := Y0.lt
  go_wp2_with fail
  refine (deskOf_any c ba wa bc wc w1 (h.on L0 L0.size) hf (ht.below L0 hz)).mono ?_
  rintro _ w2 ⟨b2, h2⟩
  have O2 := O0.below b2 O0.lt
  have Y2 := Y0.below b2 Y0.lt
  have L2 := L0.trans (b2.mono L0.size)
  have s1 := L0.size
  have hw2 := Y2.lt
  clear X0 O0 Y0 L0 b2 x0 x1 x2 x3 x4 x5
  have D2 := Bx.new w2 60 Tryd.zeroCells60
  have L3 := L2.alloc L2.size (.cells Tryd.zeroCells60 60)
  rcases h2 with ⟨hok, rfl⟩ | ⟨hok, cs, ga, gc, rfl, hV, G2, q1, q2⟩
  · have hst := @run_storeDesk w2.heap.size Tryd.zeroCells60 Tryd.zeroCells60 _ D2 Tryd.zeroCells60_size Tryd.zeroCells60_size zero_mem
    have HZ := Lib.hid (do_no (o := o) hok)
    have L4 := below_setRow L3 L2.size Tryd.zeroCells60
    have Y4 := (Y2.alloc (.cells Tryd.zeroCells60 60)).otherRow (cs' := Tryd.zeroCells60) (B' := w2.heap.size) (by omega)
    clear hok L3 D2 O2 Y2
    go_upto_region 2 with fail
    generalize (w2.alloc (.cells Tryd.zeroCells60 60)).setRow w2.heap.size Tryd.zeroCells60 = w3 at *
    obtain ⟨d0, d1, d2, d3, d4, d5⟩ := Y4.cli
    obtain ⟨y0, y1, y2, y3, y4, y5⟩ := Y4.cliF
    clear Y4 hst
    go_wp2
    exact bodyPost_ret (v := .tuple #[.agg #[.int .i64 0, .int .i64 0, .slice none 0 0, .slice none 0 0, .int .i64 0, .int .i64 0], .bool false]) (by simp [results, Tryd.results10, go_sem, d0, d1, d2, d3, d4, d5]) rfl (retCliB_zero (r := w.heap.size + 2) HZ.out rfl (by omega) L4 _ _ _ _ _ _)
  · have hst := @run_storeDesk w2.heap.size Tryd.zeroCells60 cs _ D2 Tryd.zeroCells60_size hV.size hV.plain
    have hcs := hV.size
    obtain ⟨e1, e2, e3, e4, e5, e6⟩ := head_iff.1 (cli_iff.1 hok).1
    have HSM := Lib.hid (cliSm_of hok)
    have HIS := Lib.hid (fun q => do_is (o := o) hok q)
    have HSA := Lib.hid (fun q => cdo_same (o := o) hok q)
    have Q3 := D2.row (cs' := cs)
    have L4 := below_setRow L3 L2.size cs
    have G3 : Got w1.heap.size ((w2.alloc (.cells Tryd.zeroCells60 60)).setRow w2.heap.size cs) ga c.base := (G2.below ((Below.refl w2.heap.size w2).alloc (Nat.le_refl _) _) (Nat.le_refl _)).rowB D2 (by decide) cs
    have Y3 := (Y2.alloc (.cells Tryd.zeroCells60 60)).otherRow (cs' := cs) (B' := w2.heap.size) (by omega)
    have O3 := (O2.alloc (.cells Tryd.zeroCells60 60)).otherRow (cs' := cs) (B' := w2.heap.size) (by omega)
    have hzB : 0 ≠ w2.heap.size := by have : 0 < w2.heap.size := Nat.lt_of_lt_of_le hz L2.size; show 0 ≠ _; omega
    clear L3 D2 G2 hok O2 Y2
    go_upto_region 4 with fail
    have hB2w : w.heap.size + 2 < w2.heap.size := hw2
    generalize (w2.alloc (.cells Tryd.zeroCells60 60)).setRow w2.heap.size cs = w3 at *
    generalize w2.heap.size = B2 at *
    clear hst
    have q0 := O3.cell 0 rfl
    have q1' := O3.cell 1 rfl
    have q2' := O3.cell 2 rfl
    have q3 := O3.cell 3 rfl
    have q4 := O3.cell 4 rfl
    have hfd : ((c.done.toNat + 1 : Nat) : Int) = c.done + 1 := by omega
    have HDD := Lib.hid (do_desk B2 cs c o (c.done.toNat + 1) (.slice ga c.base.length gc) w3 Q3 hV hfd HSM.out ho (ht.below L4 hz) hzB)
    go_wp2_with fail
    refine HDD.out.mono ?_
    rintro _ w4 ⟨b4, cs', Q4, h4⟩
    have Y4 := Y3.but b4 Y3.lt (by omega)
    have G4 := G3.butB Q3 (by decide) b4 (Nat.le_refl _)
    have L5 := L4.trans (b4.below (N := w.heap.size) (by omega) L4.size)
    clear HDD O3 Y3 Q3 G3 L4 q0 q1' q2' q3 q4 b4
    rcases h4 with ⟨hno, rfl, hV4⟩ | ⟨hyes, rfl, hV4⟩
    · have HZ := Lib.hid (HSA.out hno)
      have HCD := Lib.hid (client_desk B2 cs' c (c.done.toNat + 1) ga gc w4 Q4 hV4 (by omega) (by omega))
      clear HIS HSA hno
      go_wp2_with fail
      refine HCD.out.mono ?_
      rintro _ w5 ⟨va, vc, rfl, E5, k1, k2, b5⟩
      have Y5 := Y4.below b5 Y4.lt
      have G5 := G4.below b5 (Nat.le_refl _)
      have L6 := L5.trans (b5.mono L5.size)
      have hY4 := Y4.lt
      have HF := Lib.hid (fun v0 v1 v2 v3 v4 v5 => retCliB_gen (w := w) (told := false) (r := w.heap.size + 2) G5 E5 q1 q2 k1 k2 (by omega) L5.size (by omega) hw1 hY4 L6 v0 v1 v2 v3 v4 v5)
      obtain ⟨d0, d1, d2, d3, d4, d5⟩ := Y5.cli
      obtain ⟨y0, y1, y2, y3, y4, y5⟩ := Y5.cliF
      clear HCD Y4 G4 Y5 G5 E5 Q4 hV4 L5 b5
      go_wp2
      exact bodyPost_ret (v := .tuple #[.agg #[.int .i64 c.who, .int .i64 c.seen, .slice ga c.base.length gc, .slice va c.wait.length vc, .int .i64 c.done, .int .i64 c.made], .bool false]) (by simp [results, Tryd.results10, go_sem, d0, d1, d2, d3, d4, d5]) rfl (by rw [HZ.out.1, HZ.out.2]; exact HF.out _ _ _ _ _ _)
    · have HZ := Lib.hid (HIS.out hyes)
      have hlen : (c.wait ++ [cent c o]).length = c.wait.length + 1 := by simp
      generalize (if o.kind = 1 then c.made + 1 else c.made) = md at *
      have hls : c.wait.length + 1 ≤ 40 - c.done.toNat := by
        simp only [doOk, entB, Bool.and_eq_true] at hyes
        have := ((inB_iff _ _ _).1 hyes.1.1.1.2).2
        have h9 : c.done + c.wait.length + 1 ≤ 40 := this
        omega
      have HCD := Lib.hid (client_desk B2 cs' ⟨c.who, c.seen, c.base, c.wait ++ [cent c o], c.done, md⟩ (c.done.toNat + 1) ga gc w4 Q4 hV4 (by show _ + (c.wait ++ [cent c o]).length ≤ 41; rw [hlen]; omega) (by show _ = c.done; omega))
      clear HIS HSA hyes
      go_wp2_with fail
      refine HCD.out.mono ?_
      rintro _ w5 ⟨va, vc, rfl, E5, k1, k2, b5⟩
      have Y5 := Y4.below b5 Y4.lt
      have G5 := G4.below b5 (Nat.le_refl _)
      have L6 := L5.trans (b5.mono L5.size)
      have hY4 := Y4.lt
      have HF := Lib.hid (fun v0 v1 v2 v3 v4 v5 => retCliB_gen (w := w) (c := ⟨c.who, c.seen, c.base, c.wait ++ [cent c o], c.done, md⟩) (told := true) (r := w.heap.size + 2) G5 E5 q1 q2 k1 k2 (by omega) L5.size (by omega) hw1 hY4 L6 v0 v1 v2 v3 v4 v5)
      obtain ⟨d0, d1, d2, d3, d4, d5⟩ := Y5.cli
      obtain ⟨y0, y1, y2, y3, y4, y5⟩ := Y5.cliF
      clear HCD Y4 G4 Y5 G5 E5 Q4 hV4 L5 b5
      go_wp2
      exact bodyPost_ret (v := .tuple #[.agg #[.int .i64 c.who, .int .i64 c.seen, .slice ga c.base.length gc, .slice va (c.wait ++ [cent c o]).length vc, .int .i64 c.done, .int .i64 md], .bool true]) (by simp [results, Tryd.results10, go_sem, d0, d1, d2, d3, d4, d5]) rfl (by rw [HZ.out.1, HZ.out.2]; exact HF.out _ _ _ _ _ _)
end Go.Proofs.YtogafpfgdonlmaaDoor
