/-
  An argument that is a client, opened; the laws' own helpers szClient, eqClient, toClient. Conditions: as each theorem says.
-/
import Derived.Test.YtogafpfgdonlmaaDoorJCliA
import Derived.Test.YtogafpfgdonlmaaDoorJSzAt
import Derived.Test.YtogafpfgdonlmaaDoorGN
import Derived.Test.YtogafpfgdonlmaaDoorGM
import Derived.Test.YtogafpfgdonlmaaDoorJMarkE2
namespace Go.Proofs.YtogafpfgdonlmaaDoor
open Go.ChangeShapes Go.WideShapes Go.ChangeAt Go.RowKit Go.Joins Go.Deep

theorem array6 {α : Type} {a : Array α} (h : a.size = 6) : ∃ c0 c1 c2 c3 c4 c5, a = #[c0, c1, c2, c3, c4, c5] := by
  obtain ⟨l⟩ := a
  match l, h with
  | [c0, c1, c2, c3, c4, c5], _ => exact ⟨c0, c1, c2, c3, c4, c5, rfl⟩
theorem trod_struct6 {H : Type} {enc : TypeId × Value → H} {P : Program} {w : World} {base : Nat} {spare : Nat → Bool} {held : Bool} {t : TypeId} {f0 f1 f2 f3 f4 f5 : Field} {fuel : Nat} {cs : List Value} {x : DataW H × List MemPlace} (ht : P.underlying t = some (.struct #[f0, f1, f2, f3, f4, f5])) (h : DataW.trod enc P w base spare held fuel t cs = some x) :
    ∃ y0 y1 y2 y3 y4 y5 n, DataW.trod enc P w base spare held n f0.type ((cs.drop f0.offset).take (P.cellsOf f0.type)) = some y0 ∧
      DataW.trod enc P w base spare held n f1.type ((cs.drop f1.offset).take (P.cellsOf f1.type)) = some y1 ∧ DataW.trod enc P w base spare held n f2.type ((cs.drop f2.offset).take (P.cellsOf f2.type)) = some y2 ∧
      DataW.trod enc P w base spare held n f3.type ((cs.drop f3.offset).take (P.cellsOf f3.type)) = some y3 ∧ DataW.trod enc P w base spare held n f4.type ((cs.drop f4.offset).take (P.cellsOf f4.type)) = some y4 ∧
      DataW.trod enc P w base spare held n f5.type ((cs.drop f5.offset).take (P.cellsOf f5.type)) = some y5 := by
  obtain ⟨xs, n, _, rfl, hl, hlen, hf⟩ := DataW.trod_struct ht h
  match xs, hlen with
  | [y0, y1, y2, y3, y4, y5], _ => exact ⟨y0, y1, y2, y3, y4, y5, n, by simpa using hf 0 f0 rfl, by simpa using hf 1 f1 rfl, by simpa using hf 2 f2 rfl, by simpa using hf 3 f3 rfl, by simpa using hf 4 f4 rfl, by simpa using hf 5 f5 rfl⟩
theorem cellsCli : Tryd.prog.cellsOf 25 = 6 := by kernel_rfl
theorem cellsRowS1 : Tryd.prog.cellsOf 22 = 1 := by kernel_rfl
theorem cellsEntS1 : Tryd.prog.cellsOf 23 = 1 := by kernel_rfl
structure CliFitW (c : CliD) : Prop where
  who : I64 c.who
  seen : I64 c.seen
  done : I64 c.done
  made : I64 c.made
  base : FitW c.base
  wait : ∀ i, i < c.wait.length → EFit (eat c.wait i)
set_option maxRecDepth 100000 in
theorem cli_of {H : Type} {enc : TypeId × Value → H} {W : World} {r : Reach} {b0 : Nat} {spare : Nat → Bool} {held : Bool} {v : Value} {dd : DataW H} {p : List MemPlace} (hv : Value.okWide Tryd.prog W r b0 25 v) (h : DataW.Trod enc Tryd.prog W 0 spare held 25 v dd p) :
    ∃ (c : CliD) (ba : Option Addr) (bc : Nat) (wa : Option Addr) (wc : Nat), v = .agg #[.int .i64 c.who, .int .i64 c.seen, .slice ba c.base.length bc, .slice wa c.wait.length wc, .int .i64 c.done, .int .i64 c.made] ∧ CliAt W.heap.size W c ba bc wa wc ∧ CliFitW c := by
  obtain ⟨cs, rfl, hsz⟩ := okWide_struct Tryd.underlying25 hv
  obtain ⟨c0, c1, c2, c3, c4, c5, rfl⟩ := array6 (hsz.trans cellsCli)
  obtain ⟨fuel, hf⟩ := h
  obtain ⟨y0, y1, y2, y3, y4, y5, m, h0, h1, h2, h3, h4, h5⟩ := trod_struct6 Tryd.underlying25 (show DataW.trod enc Tryd.prog W 0 spare held fuel 25 [c0, c1, c2, c3, c4, c5] = some (dd, p) by simpa [Value.cells] using hf)
  simp only [cellsRowS1, cellsEntS1, cellsInt1, List.drop_zero, List.drop_succ_cons, List.take_succ_cons, List.take_zero] at h0 h1 h2 h3 h4 h5
  obtain ⟨n0, e0, _, w0⟩ := DataW.trod_int Tryd.underlying3 h0
  obtain ⟨n1, e1, _, w1⟩ := DataW.trod_int Tryd.underlying3 h1
  obtain ⟨n4, e4, _, w4⟩ := DataW.trod_int Tryd.underlying3 h4
  obtain ⟨n5, e5, _, w5⟩ := DataW.trod_int Tryd.underlying3 h5
  obtain ⟨a2, l2, p2, e2⟩ : ∃ a len cap, c2 = .slice a len cap := by
    rcases Go.Deep.open_slice Tryd.underlying22 h2 with ⟨hcs, _⟩ | ⟨x, l, c, m, n, D, Pl, hcs, _⟩
    · simp at hcs; exact ⟨_, _, _, hcs⟩
    · simp at hcs; exact ⟨_, _, _, hcs⟩
  obtain ⟨a3, l3, p3, e3⟩ : ∃ a len cap, c3 = .slice a len cap := by
    rcases Go.Deep.open_slice Tryd.underlying23 h3 with ⟨hcs, _⟩ | ⟨x, l, c, m, n, D, Pl, hcs, _⟩
    · simp at hcs; exact ⟨_, _, _, hcs⟩
    · simp at hcs; exact ⟨_, _, _, hcs⟩
  simp only [List.cons.injEq, and_true] at e0 e1 e4 e5
  subst e0 e1 e2 e3 e4 e5
  obtain ⟨rs, rfl, r1, r2, r3, r4⟩ := rows_of (d := y2.1) (p := y2.2) ⟨m, by simpa [Value.cells] using h2⟩
  obtain ⟨es, rfl, q1, q2, q3, q4⟩ := ents_of (d := y3.1) (p := y3.2) ⟨m, by simpa [Value.cells] using h3⟩
  exact ⟨⟨n0, n1, rs, es, n4, n5⟩, a2, p2, a3, p3, rfl, ⟨r3, q3, r1, r2, q1, q2⟩, ⟨i64_of_wf w0, i64_of_wf w1, i64_of_wf w4, i64_of_wf w5, r4, q4⟩⟩
def SizedC (c : CliD) (w : World) (e : Ending) (w' : World) : Prop := ∃ z : Int, e = .returned (.int .i64 z) ∧ (z < 0 ∨ (0 ≤ z ∧ z ≤ 1048576 ∧ c.base.length + c.wait.length ≤ 1048576)) ∧ Below w.heap.size w w'
theorem szClient_any (c : CliD) (ba wa : Option Addr) (bc wc : Nat) (w : World) (h : CliAt w.heap.size w c ba bc wa wc) (hf : CliFitW c) :
    Calls Tryd.prog 5 #[.agg #[.int .i64 c.who, .int .i64 c.seen, .slice ba c.base.length bc, .slice wa c.wait.length wc, .int .i64 c.done, .int .i64 c.made], .int .i64 1048576] w (SizedC c w) := by
  have hb0 : Below w.heap.size w (w.alloc (.cells #[.int .i64 c.who, .int .i64 c.seen, .slice ba c.base.length bc, .slice wa c.wait.length wc, .int .i64 c.done, .int .i64 c.made] 25)) := (Below.refl _ _).alloc (Nat.le_refl _) _
  have X0 := Bx.new w 25 #[.int .i64 c.who, .int .i64 c.seen, .slice ba c.base.length bc, .slice wa c.wait.length wc, .int .i64 c.done, .int .i64 c.made]
  go_enter Tryd.func5, Tryd.ntmps5
  go_upto_region 1 with fail
  generalize w.alloc (.cells #[.int .i64 c.who, .int .i64 c.seen, .slice ba c.base.length bc, .slice wa c.wait.length wc, .int .i64 c.done, .int .i64 c.made] 25) = w0 at *
  obtain ⟨x0, x1, x2, x3, x4, x5⟩ := X0.cli
  go_wp2_with fail
  refine (szRowS_left w.heap.size ba bc c.base _ hb0.size (h.rows.below hb0) hf.base (Nat.le_trans h.bl h.bm)).mono ?_
  rintro _ w1 ⟨z, rfl, hz, hb1⟩
  have hb2 := hb0.trans (hb1.mono hb0.size)
  have X1 := X0.below hb1 X0.lt
  clear X0 x0 x1 x2 x3 x4 x5 hb0 hb1
  rcases hz with hn | ⟨hz0, hz1⟩
  · go_wp2
    go_ret
    exact ⟨-1, rfl, .inl (by decide), hb2⟩
  · obtain ⟨x0, x1, x2, x3, x4, x5⟩ := X1.cli
    have hzn : ¬ z < 0 := by omega
    go_wp2_with fail
    refine (szEntryS_left z hz0 (by omega) w.heap.size wa wc c.wait _ hb2.size (h.ents.below hb2) hf.wait (Nat.le_trans h.wl h.wm)).mono ?_
    rintro _ w2 ⟨z2, rfl, hz2, hb3⟩
    have hb4 := hb2.trans (hb3.mono hb2.size)
    clear X1 x0 x1 x2 x3 x4 x5 hb3
    by_cases hn : z2 < 0
    · go_wp2
      go_ret
      exact ⟨-1, rfl, .inl (by decide), hb4⟩
    · have hz3 : 0 ≤ z2 ∧ z2 ≤ 1048576 ∧ c.base.length + c.wait.length ≤ 1048576 := by
        rcases hz2 with q | ⟨q1, q2, q3⟩
        · exact absurd q hn
        · exact ⟨q1, q2, by omega⟩
      have HZ3 := Lib.hid hz3
      clear hz3 hz2
      go_wp2
      go_ret
      exact ⟨z2, rfl, .inr HZ3.out, hb4⟩
set_option maxRecDepth 100000 in
set_option maxHeartbeats 2000000 in
theorem eqClient_same (c : CliD) (ba wa ba' wa' : Option Addr) (bc wc bc' wc' : Nat) (w : World) (h : CliAt w.heap.size w c ba bc wa wc) (h' : CliAt w.heap.size w c ba' bc' wa' wc') (hl1 : c.base.length ≤ 1048576) (hl2 : c.wait.length ≤ 1048576) :
    Calls Tryd.prog 11 #[.agg #[.int .i64 c.who, .int .i64 c.seen, .slice ba c.base.length bc, .slice wa c.wait.length wc, .int .i64 c.done, .int .i64 c.made], .agg #[.int .i64 c.who, .int .i64 c.seen, .slice ba' c.base.length bc', .slice wa' c.wait.length wc', .int .i64 c.done, .int .i64 c.made]] w (RetBelow (.bool true) w) := by
  have hb0 : Below w.heap.size w (w.alloc (.cells #[.int .i64 c.who, .int .i64 c.seen, .slice ba c.base.length bc, .slice wa c.wait.length wc, .int .i64 c.done, .int .i64 c.made] 33)) := (Below.refl _ _).alloc (Nat.le_refl _) _
  have X0 := (Bx.new w 33 #[.int .i64 c.who, .int .i64 c.seen, .slice ba c.base.length bc, .slice wa c.wait.length wc, .int .i64 c.done, .int .i64 c.made]).alloc (.cells #[.int .i64 c.who, .int .i64 c.seen, .slice ba' c.base.length bc', .slice wa' c.wait.length wc', .int .i64 c.done, .int .i64 c.made] 33)
  have Y0 := Bx.new (w.alloc (.cells #[.int .i64 c.who, .int .i64 c.seen, .slice ba c.base.length bc, .slice wa c.wait.length wc, .int .i64 c.done, .int .i64 c.made] 33)) 33 #[.int .i64 c.who, .int .i64 c.seen, .slice ba' c.base.length bc', .slice wa' c.wait.length wc', .int .i64 c.done, .int .i64 c.made]
  have hb1 := hb0.alloc hb0.size (.cells #[.int .i64 c.who, .int .i64 c.seen, .slice ba' c.base.length bc', .slice wa' c.wait.length wc', .int .i64 c.done, .int .i64 c.made] 33)
  have hs : (w.alloc (.cells #[.int .i64 c.who, .int .i64 c.seen, .slice ba c.base.length bc, .slice wa c.wait.length wc, .int .i64 c.done, .int .i64 c.made] 33)).heap.size = w.heap.size + 1 := by simp
  rw [hs] at Y0
  clear hb0 hs
  go_enter Tryd.func11, Tryd.ntmps11
  go_upto_region 1 with fail
  generalize (w.alloc (.cells #[.int .i64 c.who, .int .i64 c.seen, .slice ba c.base.length bc, .slice wa c.wait.length wc, .int .i64 c.done, .int .i64 c.made] 33)).alloc (.cells #[.int .i64 c.who, .int .i64 c.seen, .slice ba' c.base.length bc', .slice wa' c.wait.length wc', .int .i64 c.done, .int .i64 c.made] 33) = w1 at *
  obtain ⟨x0, x1, x2, x3, x4, x5⟩ := X0.cli
  obtain ⟨y0, y1, y2, y3, y4, y5⟩ := Y0.cli
  go_wp2_with fail
  refine (eqRowS_same w.heap.size ba ba' bc bc' c.base _ hb1.size (h.rows.below hb1) (h'.rows.below hb1) hl1).mono ?_
  rintro _ w2 ⟨rfl, b2⟩
  have X2 := X0.below b2 X0.lt
  have Y2 := Y0.below b2 Y0.lt
  have L2 := hb1.trans (b2.mono hb1.size)
  clear X0 Y0 hb1 b2 x0 x1 x2 x3 x4 x5 y0 y1 y2 y3 y4 y5
  obtain ⟨x0, x1, x2, x3, x4, x5⟩ := X2.cli
  obtain ⟨y0, y1, y2, y3, y4, y5⟩ := Y2.cli
  go_wp2_with fail
  refine (eqEntryS_same w.heap.size wa wa' wc wc' c.wait _ L2.size (h.ents.below L2) (h'.ents.below L2) hl2).mono ?_
  rintro _ w3 ⟨rfl, b3⟩
  have X3 := X2.below b3 X2.lt
  have Y3 := Y2.below b3 Y2.lt
  have L3 := L2.trans (b3.mono L2.size)
  clear X2 Y2 L2 b3 x0 x1 x2 x3 x4 x5 y0 y1 y2 y3 y4 y5
  obtain ⟨x0, x1, x2, x3, x4, x5⟩ := X3.cli
  obtain ⟨y0, y1, y2, y3, y4, y5⟩ := Y3.cli
  go_wp2
  go_ret
  exact ⟨rfl, L3⟩
theorem ownC_rows {w : World} {g : Nat} {rs : List RowD} (h : OwnRows w g rs) : OwnC w g (rs.length * 3) rs := by
  obtain ⟨f, h1, h2⟩ := h
  exact ⟨f, h1, Nat.le_refl _, h2⟩
theorem OwnC.put {w : World} {g C B j : Nat} {rs : List RowD} (h : OwnC w g C rs) (hne : g ≠ B) (v : Value) : OwnC (w.setCell ⟨B, j, none⟩ v) g C rs := by
  obtain ⟨f, h1, h2⟩ := h
  exact ⟨f, h1.of_block (Below.heap_setCell _ _ _ _ hne), h2⟩
theorem OwnEC.putC {w : World} {g C B j : Nat} {es : List EntD} (h : OwnEC w g C es) (hne : g ≠ B) (v : Value) : OwnEC (w.setCell ⟨B, j, none⟩ v) g C es := by
  obtain ⟨f, h1, h2⟩ := h
  exact ⟨f, h1.of_block (Below.heap_setCell _ _ _ _ hne), h2⟩
def RetToCli (c : CliD) (w : World) (r : Ending) (w' : World) : Prop := ∃ g h2, r = .returned (.agg #[.int .i64 c.who, .int .i64 c.seen, .slice (some ⟨g, 0, none⟩) c.base.length c.base.length, .slice (some ⟨h2, 0, none⟩) c.wait.length c.wait.length, .int .i64 c.done, .int .i64 c.made]) ∧ w.heap.size ≤ g ∧ w.heap.size ≤ h2 ∧ OwnC w' g (c.base.length * 3) c.base ∧ OwnEC w' h2 (c.wait.length * 7) c.wait ∧ Below w.heap.size w w'
set_option maxRecDepth 100000 in
set_option maxHeartbeats 4000000 in
theorem toClient_any (c : CliD) (ba wa : Option Addr) (bc wc : Nat) (w : World) (h : CliAt w.heap.size w c ba bc wa wc) (hl1 : c.base.length ≤ 1048576) (hl2 : c.wait.length ≤ 1048576) :
    Calls Tryd.prog 8 #[.agg #[.int .i64 c.who, .int .i64 c.seen, .slice ba c.base.length bc, .slice wa c.wait.length wc, .int .i64 c.done, .int .i64 c.made]] w (RetToCli c w) := by
  have hb0 : Below w.heap.size w (((w.alloc (.cells #[.int .i64 c.who, .int .i64 c.seen, .slice ba c.base.length bc, .slice wa c.wait.length wc, .int .i64 c.done, .int .i64 c.made] 25)).alloc (.cells #[.int .i64 0, .int .i64 0, .slice none 0 0, .slice none 0 0, .int .i64 0, .int .i64 0] 33)).alloc (.cells #[.int .i64 0, .int .i64 0, .slice none 0 0, .slice none 0 0, .int .i64 0, .int .i64 0] 33)) := (((Below.refl _ _).alloc (Nat.le_refl _) _).alloc (by simp) _).alloc (by simp; omega) _
  have X0 := ((Bx.new w 25 #[.int .i64 c.who, .int .i64 c.seen, .slice ba c.base.length bc, .slice wa c.wait.length wc, .int .i64 c.done, .int .i64 c.made]).alloc (.cells #[.int .i64 0, .int .i64 0, .slice none 0 0, .slice none 0 0, .int .i64 0, .int .i64 0] 33)).alloc (.cells #[.int .i64 0, .int .i64 0, .slice none 0 0, .slice none 0 0, .int .i64 0, .int .i64 0] 33)
  have Y0 := (Bx.new (w.alloc (.cells #[.int .i64 c.who, .int .i64 c.seen, .slice ba c.base.length bc, .slice wa c.wait.length wc, .int .i64 c.done, .int .i64 c.made] 25)) 33 #[.int .i64 0, .int .i64 0, .slice none 0 0, .slice none 0 0, .int .i64 0, .int .i64 0]).alloc (.cells #[.int .i64 0, .int .i64 0, .slice none 0 0, .slice none 0 0, .int .i64 0, .int .i64 0] 33)
  have Z0 := Bx.new ((w.alloc (.cells #[.int .i64 c.who, .int .i64 c.seen, .slice ba c.base.length bc, .slice wa c.wait.length wc, .int .i64 c.done, .int .i64 c.made] 25)).alloc (.cells #[.int .i64 0, .int .i64 0, .slice none 0 0, .slice none 0 0, .int .i64 0, .int .i64 0] 33)) 33 #[.int .i64 0, .int .i64 0, .slice none 0 0, .slice none 0 0, .int .i64 0, .int .i64 0]
  have hs1 : (w.alloc (.cells #[.int .i64 c.who, .int .i64 c.seen, .slice ba c.base.length bc, .slice wa c.wait.length wc, .int .i64 c.done, .int .i64 c.made] 25)).heap.size = w.heap.size + 1 := by simp
  have hs2 : ((w.alloc (.cells #[.int .i64 c.who, .int .i64 c.seen, .slice ba c.base.length bc, .slice wa c.wait.length wc, .int .i64 c.done, .int .i64 c.made] 25)).alloc (.cells #[.int .i64 0, .int .i64 0, .slice none 0 0, .slice none 0 0, .int .i64 0, .int .i64 0] 33)).heap.size = w.heap.size + 1 + 1 := by simp
  rw [hs1] at Y0
  rw [hs2] at Z0
  clear hs1 hs2
  go_enter Tryd.func8, Tryd.ntmps8
  go_upto_region 2 with fail
  generalize (((w.alloc (.cells #[.int .i64 c.who, .int .i64 c.seen, .slice ba c.base.length bc, .slice wa c.wait.length wc, .int .i64 c.done, .int .i64 c.made] 25)).alloc (.cells #[.int .i64 0, .int .i64 0, .slice none 0 0, .slice none 0 0, .int .i64 0, .int .i64 0] 33)).alloc (.cells #[.int .i64 0, .int .i64 0, .slice none 0 0, .slice none 0 0, .int .i64 0, .int .i64 0] 33)) = w1 at *
  obtain ⟨x0, x1, x2, x3, x4, x5⟩ := X0.cli
  obtain ⟨f0, f1, f2, f3, f4, f5⟩ := Z0.cliF
  obtain ⟨z0, z1, z2, z3, z4, z5⟩ := Z0.cli
  have Z1 : Bx ((w1.setCell ⟨w.heap.size + 1 + 1, 0, none⟩ (.int .i64 c.who)).setCell ⟨w.heap.size + 1 + 1, 1, none⟩ (.int .i64 c.seen)) (w.heap.size + 1 + 1) 33 #[.int .i64 c.who, .int .i64 c.seen, .slice none 0 0, .slice none 0 0, .int .i64 0, .int .i64 0] := (Z0.put 0 _).put 1 _
  have X1 : Bx ((w1.setCell ⟨w.heap.size + 1 + 1, 0, none⟩ (.int .i64 c.who)).setCell ⟨w.heap.size + 1 + 1, 1, none⟩ (.int .i64 c.seen)) w.heap.size 25 #[.int .i64 c.who, .int .i64 c.seen, .slice ba c.base.length bc, .slice wa c.wait.length wc, .int .i64 c.done, .int .i64 c.made] := (X0.other (by omega) _).other (by omega) _
  have Y1 : Bx ((w1.setCell ⟨w.heap.size + 1 + 1, 0, none⟩ (.int .i64 c.who)).setCell ⟨w.heap.size + 1 + 1, 1, none⟩ (.int .i64 c.seen)) (w.heap.size + 1) 33 #[.int .i64 0, .int .i64 0, .slice none 0 0, .slice none 0 0, .int .i64 0, .int .i64 0] := (Y0.other (by omega) _).other (by omega) _
  have L1 : Below w.heap.size w ((w1.setCell ⟨w.heap.size + 1 + 1, 0, none⟩ (.int .i64 c.who)).setCell ⟨w.heap.size + 1 + 1, 1, none⟩ (.int .i64 c.seen)) := Below.setCell (Below.setCell hb0 (p := ⟨w.heap.size + 1 + 1, 0, none⟩) (by show w.heap.size ≤ w.heap.size + 1 + 1; omega) _) (p := ⟨w.heap.size + 1 + 1, 1, none⟩) (by show w.heap.size ≤ w.heap.size + 1 + 1; omega) _
  go_upto_region 4 with fail
  generalize ((w1.setCell ⟨w.heap.size + 1 + 1, 0, none⟩ (.int .i64 c.who)).setCell ⟨w.heap.size + 1 + 1, 1, none⟩ (.int .i64 c.seen)) = w2 at *
  clear X0 Y0 Z0 hb0 x0 x1 x2 x3 x4 x5 f0 f1 f2 f3 f4 f5 z0 z1 z2 z3 z4 z5
  obtain ⟨x0, x1, x2, x3, x4, x5⟩ := X1.cli
  go_wp2_with fail
  refine (toRowS_any w.heap.size ba bc c.base w2 L1.size (h.rows.below L1) hl1).mono ?_
  rintro _ w3 ⟨g, rfl, hg, O3, b3⟩
  have O3' : OwnC w3 g (c.base.length * 3) c.base := ownC_rows O3
  have X3 := X1.below b3 X1.lt
  have Y3 := Y1.below b3 Y1.lt
  have Z3 := Z1.below b3 Z1.lt
  have L3 := L1.trans (b3.mono L1.size)
  have hzl : w.heap.size + 1 + 1 < w2.heap.size := Z1.lt
  clear X1 Y1 Z1 L1 b3 O3 x0 x1 x2 x3 x4 x5
  obtain ⟨x0, x1, x2, x3, x4, x5⟩ := X3.cli
  have f2 := Z3.frozen 2
  have z2 := Z3.cell 2 rfl
  have Z4 : Bx (w3.setCell ⟨w.heap.size + 1 + 1, 2, none⟩ (.slice (some ⟨g, 0, none⟩) c.base.length c.base.length)) (w.heap.size + 1 + 1) 33 #[.int .i64 c.who, .int .i64 c.seen, .slice (some ⟨g, 0, none⟩) c.base.length c.base.length, .slice none 0 0, .int .i64 0, .int .i64 0] := Z3.put 2 _
  have X4 := X3.other (B' := w.heap.size + 1 + 1) (j := 2) (by omega) (.slice (some ⟨g, 0, none⟩) c.base.length c.base.length)
  have Y4 := Y3.other (B' := w.heap.size + 1 + 1) (j := 2) (by omega) (.slice (some ⟨g, 0, none⟩) c.base.length c.base.length)
  have O4 := O3'.put (B := w.heap.size + 1 + 1) (j := 2) (by omega) (.slice (some ⟨g, 0, none⟩) c.base.length c.base.length)
  have L4 := L3.setCell (p := ⟨w.heap.size + 1 + 1, 2, none⟩) (by show w.heap.size ≤ w.heap.size + 1 + 1; omega) (.slice (some ⟨g, 0, none⟩) c.base.length c.base.length)
  go_upto_region 5 with fail
  generalize w3.setCell ⟨w.heap.size + 1 + 1, 2, none⟩ (.slice (some ⟨g, 0, none⟩) c.base.length c.base.length) = w4 at *
  clear X3 Y3 Z3 L3 O3' x0 x1 x2 x3 x4 x5 f2 z2
  obtain ⟨x0, x1, x2, x3, x4, x5⟩ := X4.cli
  go_wp2_with fail
  refine (toEntryS_any w.heap.size wa wc c.wait w4 L4.size (h.ents.below L4) hl2).mono ?_
  rintro _ w5 ⟨h2, rfl, hh2, E5, b5⟩
  have X5 := X4.below b5 X4.lt
  have Y5 := Y4.below b5 Y4.lt
  have Z5 := Z4.below b5 Z4.lt
  have O5 := O4.below b5 O4.lt
  have L5 := L4.trans (b5.mono L4.size)
  have hzl2 : w.heap.size + 1 + 1 < w4.heap.size := Z4.lt
  clear X4 Y4 Z4 L4 O4 b5 x0 x1 x2 x3 x4 x5
  obtain ⟨x0, x1, x2, x3, x4, x5⟩ := X5.cli
  obtain ⟨f0, f1, f2, f3, f4, f5⟩ := Z5.cliF
  obtain ⟨z0, z1, z2, z3, z4, z5⟩ := Z5.cli
  have Z6 : Bx (((w5.setCell ⟨w.heap.size + 1 + 1, 3, none⟩ (.slice (some ⟨h2, 0, none⟩) c.wait.length c.wait.length)).setCell ⟨w.heap.size + 1 + 1, 4, none⟩ (.int .i64 c.done)).setCell ⟨w.heap.size + 1 + 1, 5, none⟩ (.int .i64 c.made)) (w.heap.size + 1 + 1) 33 #[.int .i64 c.who, .int .i64 c.seen, .slice (some ⟨g, 0, none⟩) c.base.length c.base.length, .slice (some ⟨h2, 0, none⟩) c.wait.length c.wait.length, .int .i64 c.done, .int .i64 c.made] := ((Z5.put 3 _).put 4 _).put 5 _
  have Y6 : Bx (((w5.setCell ⟨w.heap.size + 1 + 1, 3, none⟩ (.slice (some ⟨h2, 0, none⟩) c.wait.length c.wait.length)).setCell ⟨w.heap.size + 1 + 1, 4, none⟩ (.int .i64 c.done)).setCell ⟨w.heap.size + 1 + 1, 5, none⟩ (.int .i64 c.made)) (w.heap.size + 1) 33 #[.int .i64 0, .int .i64 0, .slice none 0 0, .slice none 0 0, .int .i64 0, .int .i64 0] := ((Y5.other (by omega) _).other (by omega) _).other (by omega) _
  have O6 : OwnC (((w5.setCell ⟨w.heap.size + 1 + 1, 3, none⟩ (.slice (some ⟨h2, 0, none⟩) c.wait.length c.wait.length)).setCell ⟨w.heap.size + 1 + 1, 4, none⟩ (.int .i64 c.done)).setCell ⟨w.heap.size + 1 + 1, 5, none⟩ (.int .i64 c.made)) g (c.base.length * 3) c.base := ((O5.put (by omega) _).put (by omega) _).put (by omega) _
  have E6 : OwnEC (((w5.setCell ⟨w.heap.size + 1 + 1, 3, none⟩ (.slice (some ⟨h2, 0, none⟩) c.wait.length c.wait.length)).setCell ⟨w.heap.size + 1 + 1, 4, none⟩ (.int .i64 c.done)).setCell ⟨w.heap.size + 1 + 1, 5, none⟩ (.int .i64 c.made)) h2 (c.wait.length * 7) c.wait := ((E5.putC (by omega) _).putC (by omega) _).putC (by omega) _
  have L6 : Below w.heap.size w (((w5.setCell ⟨w.heap.size + 1 + 1, 3, none⟩ (.slice (some ⟨h2, 0, none⟩) c.wait.length c.wait.length)).setCell ⟨w.heap.size + 1 + 1, 4, none⟩ (.int .i64 c.done)).setCell ⟨w.heap.size + 1 + 1, 5, none⟩ (.int .i64 c.made)) := Below.setCell (Below.setCell (Below.setCell L5 (p := ⟨w.heap.size + 1 + 1, 3, none⟩) (by show w.heap.size ≤ w.heap.size + 1 + 1; omega) _) (p := ⟨w.heap.size + 1 + 1, 4, none⟩) (by show w.heap.size ≤ w.heap.size + 1 + 1; omega) _) (p := ⟨w.heap.size + 1 + 1, 5, none⟩) (by show w.heap.size ≤ w.heap.size + 1 + 1; omega) _
  go_upto_region 8 with fail
  generalize (((w5.setCell ⟨w.heap.size + 1 + 1, 3, none⟩ (.slice (some ⟨h2, 0, none⟩) c.wait.length c.wait.length)).setCell ⟨w.heap.size + 1 + 1, 4, none⟩ (.int .i64 c.done)).setCell ⟨w.heap.size + 1 + 1, 5, none⟩ (.int .i64 c.made)) = w6 at *
  clear X5 Y5 Z5 O5 E5 L5 x0 x1 x2 x3 x4 x5 f0 f1 f2 f3 f4 f5 z0 z1 z2 z3 z4 z5
  obtain ⟨z0, z1, z2, z3, z4, z5⟩ := Z6.cli
  obtain ⟨d0, d1, d2, d3, d4, d5⟩ := Y6.cli
  obtain ⟨y0, y1, y2, y3, y4, y5⟩ := Y6.cliF
  have O7 : ∀ v0 v1 v2 v3 v4 v5, OwnC ((((((w6.setCell ⟨w.heap.size + 1, 0, none⟩ v0).setCell ⟨w.heap.size + 1, 1, none⟩ v1).setCell ⟨w.heap.size + 1, 2, none⟩ v2).setCell ⟨w.heap.size + 1, 3, none⟩ v3).setCell ⟨w.heap.size + 1, 4, none⟩ v4).setCell ⟨w.heap.size + 1, 5, none⟩ v5) g (c.base.length * 3) c.base := fun v0 v1 v2 v3 v4 v5 => (((((O6.put (by omega) v0).put (by omega) v1).put (by omega) v2).put (by omega) v3).put (by omega) v4).put (by omega) v5
  have E7 : ∀ v0 v1 v2 v3 v4 v5, OwnEC ((((((w6.setCell ⟨w.heap.size + 1, 0, none⟩ v0).setCell ⟨w.heap.size + 1, 1, none⟩ v1).setCell ⟨w.heap.size + 1, 2, none⟩ v2).setCell ⟨w.heap.size + 1, 3, none⟩ v3).setCell ⟨w.heap.size + 1, 4, none⟩ v4).setCell ⟨w.heap.size + 1, 5, none⟩ v5) h2 (c.wait.length * 7) c.wait := fun v0 v1 v2 v3 v4 v5 => (((((E6.putC (by omega) v0).putC (by omega) v1).putC (by omega) v2).putC (by omega) v3).putC (by omega) v4).putC (by omega) v5
  have HO := Lib.hid O7
  have HE := Lib.hid E7
  have hg1 : w.heap.size ≤ g := by omega
  have hg2 : w.heap.size ≤ h2 := by omega
  clear Y6 Z6 O6 E6 O7 E7
  go_wp2
  exact bodyPost_ret (v := .agg #[.int .i64 c.who, .int .i64 c.seen, .slice (some ⟨g, 0, none⟩) c.base.length c.base.length, .slice (some ⟨h2, 0, none⟩) c.wait.length c.wait.length, .int .i64 c.done, .int .i64 c.made]) (by simp [results, Tryd.results8, go_sem, d0, d1, d2, d3, d4, d5]) rfl ⟨g, h2, rfl, hg1, hg2, HO.out _ _ _ _ _ _, HE.out _ _ _ _ _ _, below_given6 L6 (by omega) _ _ _ _ _ _⟩
end Go.Proofs.YtogafpfgdonlmaaDoor
