/-
  An argument that is a client, opened; the laws' own helpers szClient, eqClient, toClient. Conditions: as each theorem says.
-/
import Derived.Test.YtcpmahchagjhkaaJCliA
import Derived.Test.YtcpmahchagjhkaaJSzAt
import Derived.Test.YtcpmahchagjhkaaGN
import Derived.Test.YtcpmahchagjhkaaGM
import Derived.Test.YtcpmahchagjhkaaJMarkE2
namespace Go.Proofs.Ytcpmahchagjhkaa
open Go.ChangeShapes Go.WideShapes Go.ChangeAt Go.RowKit Go.Joins Go.Deep

theorem array6 {α : Type} {a : Array α} (h : a.size = 6) : ∃ c0 c1 c2 c3 c4 c5, a = #[c0, c1, c2, c3, c4, c5] := by
  obtain ⟨l⟩ := a
  match l, h with
  | [c0, c1, c2, c3, c4, c5], _ => exact ⟨c0, c1, c2, c3, c4, c5, rfl⟩
theorem trod_struct6 {H : Type} {enc : TypeId × Value → H} {P : Program} {w : World} {base : Nat} {spare : Nat → Bool} {held : Bool} {t : TypeId} {f0 f1 f2 f3 f4 f5 : Field} {fuel : Nat} {cs : List Value} {x : DataW H × List MemPlace} (ht : P.underlying t = some (.struct #[f0, f1, f2, f3, f4, f5])) (h : DataW.trod enc P w base spare held fuel t cs = some x) :
    ∃ y0 y1 y2 y3 y4 y5 n, DataW.trod enc P w base spare held n f0.type ((cs.drop f0.offset).take (P.cellsOf f0.type)) = some y0 ∧
      DataW.trod enc P w base spare held n f1.type ((cs.drop f1.offset).take (P.cellsOf f1.type)) = some y1 ∧ DataW.trod enc P w base spare held n f2.type ((cs.drop f2.offset).take (P.cellsOf f2.type)) = some y2 ∧
      DataW.trod enc P w base spare held n f3.type ((cs.drop f3.offset).take (P.cellsOf f3.type)) = some y3 ∧ DataW.trod enc P w base spare held n f4.type ((cs.drop f4.offset).take (P.cellsOf f4.type)) = some y4 ∧
      DataW.trod enc P w base spare held n f5.type ((cs.drop f5.offset).take (P.cellsOf f5.type)) = some y5 := by
  obtain ⟨xs, n, _, rfl, hl, hlen, hf⟩ := DataW.trod_struct ht h
  match xs, hlen with
  | [y0, y1, y2, y3, y4, y5], _ => exact ⟨y0, y1, y2, y3, y4, y5, n, by simpa using hf 0 f0 rfl, by simpa using hf 1 f1 rfl, by simpa using hf 2 f2 rfl, by simpa using hf 3 f3 rfl, by simpa using hf 4 f4 rfl, by simpa using hf 5 f5 rfl⟩
structure CliFitW (c : CliD) : Prop where
  who : I64 c.who
  seen : I64 c.seen
  done : I64 c.done
  made : I64 c.made
  base : FitW c.base
  wait : ∀ i, i < c.wait.length → EFit (eat c.wait i)
def SizedC (c : CliD) (w : World) (e : Ending) (w' : World) : Prop := ∃ z : Int, e = .returned (.int .i64 z) ∧ (z < 0 ∨ (0 ≤ z ∧ z ≤ 1048576 ∧ c.base.length + c.wait.length ≤ 1048576)) ∧ Below w.heap.size w w'
set_option maxRecDepth 100000 in
set_option maxHeartbeats 2000000 in
theorem eqClient_same (c : CliD) (ba wa ba' wa' : Option Addr) (bc wc bc' wc' : Nat) (w : World) (h : CliAt w.heap.size w c ba bc wa wc) (h' : CliAt w.heap.size w c ba' bc' wa' wc') (hl1 : c.base.length ≤ 1048576) (hl2 : c.wait.length ≤ 1048576) :
    Calls Try.prog 6 #[.agg #[.int .i64 c.who, .int .i64 c.seen, .slice ba c.base.length bc, .slice wa c.wait.length wc, .int .i64 c.done, .int .i64 c.made], .agg #[.int .i64 c.who, .int .i64 c.seen, .slice ba' c.base.length bc', .slice wa' c.wait.length wc', .int .i64 c.done, .int .i64 c.made]] w (RetBelow (.bool true) w) := by
  have hb0 : Below w.heap.size w (w.alloc (.cells #[.int .i64 c.who, .int .i64 c.seen, .slice ba c.base.length bc, .slice wa c.wait.length wc, .int .i64 c.done, .int .i64 c.made] 25)) := (Below.refl _ _).alloc (Nat.le_refl _) _
  have X0 := (Bx.new w 25 #[.int .i64 c.who, .int .i64 c.seen, .slice ba c.base.length bc, .slice wa c.wait.length wc, .int .i64 c.done, .int .i64 c.made]).alloc (.cells #[.int .i64 c.who, .int .i64 c.seen, .slice ba' c.base.length bc', .slice wa' c.wait.length wc', .int .i64 c.done, .int .i64 c.made] 25)
  have Y0 := Bx.new (w.alloc (.cells #[.int .i64 c.who, .int .i64 c.seen, .slice ba c.base.length bc, .slice wa c.wait.length wc, .int .i64 c.done, .int .i64 c.made] 25)) 25 #[.int .i64 c.who, .int .i64 c.seen, .slice ba' c.base.length bc', .slice wa' c.wait.length wc', .int .i64 c.done, .int .i64 c.made]
  have hb1 := hb0.alloc hb0.size (.cells #[.int .i64 c.who, .int .i64 c.seen, .slice ba' c.base.length bc', .slice wa' c.wait.length wc', .int .i64 c.done, .int .i64 c.made] 25)
  have hs : (w.alloc (.cells #[.int .i64 c.who, .int .i64 c.seen, .slice ba c.base.length bc, .slice wa c.wait.length wc, .int .i64 c.done, .int .i64 c.made] 25)).heap.size = w.heap.size + 1 := by simp
  rw [hs] at Y0
  clear hb0 hs
  go_enter Try.func6, Try.ntmps6
  go_upto_region 1 with fail
  generalize (w.alloc (.cells #[.int .i64 c.who, .int .i64 c.seen, .slice ba c.base.length bc, .slice wa c.wait.length wc, .int .i64 c.done, .int .i64 c.made] 25)).alloc (.cells #[.int .i64 c.who, .int .i64 c.seen, .slice ba' c.base.length bc', .slice wa' c.wait.length wc', .int .i64 c.done, .int .i64 c.made] 25) = w1 at *
  obtain ⟨x0, x1, x2, x3, x4, x5⟩ := X0.cli
  obtain ⟨y0, y1, y2, y3, y4, y5⟩ := Y0.cli
  go_wp2_with fail
  refine (eqRowS_same w.heap.size ba ba' bc bc' c.base _ hb1.size (h.rows.below hb1) (h'.rows.below hb1) hl1).mono ?_
  rintro _ w2 ⟨rfl, b2⟩
  have X2 := X0.below b2 X0.lt
  have Y2 := Y0.below b2 Y0.lt
  have L2 := hb1.trans (b2.mono hb1.size)
  clear X0 Y0 hb1 b2 x0 x1 x2 x3 x4 x5 y0 y1 y2 y3 y4 y5
  obtain ⟨x0, x1, x2, x3, x4, x5⟩ := X2.cli
  obtain ⟨y0, y1, y2, y3, y4, y5⟩ := Y2.cli
  go_wp2_with fail
  refine (eqEntryS_same w.heap.size wa wa' wc wc' c.wait _ L2.size (h.ents.below L2) (h'.ents.below L2) hl2).mono ?_
  rintro _ w3 ⟨rfl, b3⟩
  have X3 := X2.below b3 X2.lt
  have Y3 := Y2.below b3 Y2.lt
  have L3 := L2.trans (b3.mono L2.size)
  clear X2 Y2 L2 b3 x0 x1 x2 x3 x4 x5 y0 y1 y2 y3 y4 y5
  obtain ⟨x0, x1, x2, x3, x4, x5⟩ := X3.cli
  obtain ⟨y0, y1, y2, y3, y4, y5⟩ := Y3.cli
  go_wp2
  go_ret
  exact ⟨rfl, L3⟩
theorem ownC_rows {w : World} {g : Nat} {rs : List RowD} (h : OwnRows w g rs) : OwnC w g (rs.length * 3) rs := by
  obtain ⟨f, h1, h2⟩ := h
  exact ⟨f, h1, Nat.le_refl _, h2⟩
theorem OwnC.put {w : World} {g C B j : Nat} {rs : List RowD} (h : OwnC w g C rs) (hne : g ≠ B) (v : Value) : OwnC (w.setCell ⟨B, j, none⟩ v) g C rs := by
  obtain ⟨f, h1, h2⟩ := h
  exact ⟨f, h1.of_block (Below.heap_setCell _ _ _ _ hne), h2⟩
theorem OwnEC.putC {w : World} {g C B j : Nat} {es : List EntD} (h : OwnEC w g C es) (hne : g ≠ B) (v : Value) : OwnEC (w.setCell ⟨B, j, none⟩ v) g C es := by
  obtain ⟨f, h1, h2⟩ := h
  exact ⟨f, h1.of_block (Below.heap_setCell _ _ _ _ hne), h2⟩
def RetToCli (c : CliD) (w : World) (r : Ending) (w' : World) : Prop := ∃ g h2, r = .returned (.agg #[.int .i64 c.who, .int .i64 c.seen, .slice (some ⟨g, 0, none⟩) c.base.length c.base.length, .slice (some ⟨h2, 0, none⟩) c.wait.length c.wait.length, .int .i64 c.done, .int .i64 c.made]) ∧ w.heap.size ≤ g ∧ w.heap.size ≤ h2 ∧ OwnC w' g (c.base.length * 3) c.base ∧ OwnEC w' h2 (c.wait.length * 7) c.wait ∧ Below w.heap.size w w'
end Go.Proofs.Ytcpmahchagjhkaa
