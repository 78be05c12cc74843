/-
  Joined texts, each with its own head: what it holds, and its conditions.
-/
import Derived.Test.YtcpmahchagjhkaaDoorGS
import Derived.Test.YtcpmahchagjhkaaDoorGN
import Derived.Test.YtcpmahchagjhkaaDoorGT

/-
  An argument that is a server, opened; the laws' own helpers szServer, toServer, eqServer, markServer, heldServer. Conditions: as each theorem says.
-/
namespace Go.Proofs.YtcpmahchagjhkaaDoor
open Go.ChangeShapes Go.WideShapes Go.ChangeAt Go.RowKit Go.Joins Go.Deep

theorem cellsEntS : Tryd.prog.cellsOf 23 = 1 := by kernel_rfl
theorem cellsBool1 : Tryd.prog.cellsOf 4 = 1 := by kernel_rfl
theorem cellsSrv : Tryd.prog.cellsOf 54 = 3 := by kernel_rfl
set_option maxRecDepth 100000 in
theorem srv_of {H : Type} {enc : TypeId × Value → H} {W : World} {r : Reach} {b0 : Nat} {spare : Nat → Bool} {held : Bool} {v : Value} {dd : DataW H} {p : List MemPlace} (hv : Value.okWide Tryd.prog W r b0 54 v) (h : DataW.Trod enc Tryd.prog W 0 spare held 54 v dd p) :
    ∃ (a : Option Addr) (cap : Nat) (es : List EntD) (sf : Int) (up : Bool), v = .agg #[.slice a es.length cap, .int .i64 sf, .bool up] ∧ es.length ≤ cap ∧ cap ≤ maxLen ∧ EntsAt W.heap.size W a es ∧ (∀ i, i < es.length → EFit (eat es i)) ∧ I64 sf := by
  obtain ⟨cs, rfl, hsz⟩ := okWide_struct Tryd.underlying54 hv
  obtain ⟨fuel, hf⟩ := h
  have hl : cs.toList.length = 3 := by simpa using hsz.trans cellsSrv
  obtain ⟨y0, y1, y2, m, _, _, h0, h1, h2⟩ := Go.Deep.trod_struct3 Tryd.underlying54 (show DataW.trod enc Tryd.prog W 0 spare held fuel 54 cs.toList = some (dd, p) by simpa [Value.cells] using hf)
  obtain ⟨l⟩ := cs
  simp only at h0 h1 h2 hl
  match l, hl with
  | [c0, c1, c2], _ =>
    simp only [cellsEntS, cellsInt1, cellsBool1, List.drop_zero, List.drop_succ_cons, List.take_succ_cons, List.take_zero] at h0 h1 h2
    obtain ⟨i, e1, _, w1⟩ := DataW.trod_int Tryd.underlying3 h1
    obtain ⟨b, e2, _⟩ := DataW.trod_bool Tryd.underlying4 h2
    obtain ⟨a, len, cap, e0⟩ : ∃ a len cap, c0 = .slice a len cap := by
      rcases Go.Deep.open_slice Tryd.underlying23 h0 with ⟨hcs, _⟩ | ⟨x, l, c, m, n, D, Pl, hcs, _⟩
      · simp at hcs; exact ⟨_, _, _, hcs⟩
      · simp at hcs; exact ⟨_, _, _, hcs⟩
    simp only [List.cons.injEq, and_true] at e1 e2
    subst e0 e1 e2
    obtain ⟨es, rfl, q1, q2, q3, q4⟩ := ents_of (d := y0.1) (p := y0.2) ⟨m, by simpa [Value.cells] using h0⟩
    exact ⟨a, cap, es, i, b, rfl, q1, q2, q3, q4, i64_of_wf w1⟩
theorem szServer_any (B : Nat) (a : Option Addr) (cap : Nat) (es : List EntD) (sf : Int) (up : Bool) (w : World) (hB : B ≤ w.heap.size) (h : EntsAt B w a es) (hf : ∀ i, i < es.length → EFit (eat es i)) (hl : es.length ≤ maxLen) :
    Calls Tryd.prog 30 #[.agg #[.slice a es.length cap, .int .i64 sf, .bool up], .int .i64 1048576] w (SizedE es w) := by
  have hb0 : Below w.heap.size w (w.alloc (.cells #[.slice a es.length cap, .int .i64 sf, .bool up] 54)) := (Below.refl _ _).alloc (Nat.le_refl _) _
  go_enter Tryd.func30, Tryd.ntmps30
  go_wp2_with fail
  refine (szEntryS_any B a cap es _ (Nat.le_trans hB hb0.size) (h.below (hb0.mono hB)) hf hl).mono ?_
  rintro _ w1 ⟨z, rfl, hz, hb1⟩
  have hb2 := hb0.trans (hb1.mono hb0.size)
  by_cases hn : z < 0
  · go_wp2
    go_ret
    exact ⟨-1, rfl, .inl (by decide), hb2⟩
  · go_wp2
    go_ret
    exact ⟨z, rfl, hz, hb2⟩
/-- A server of the call's own, its log as long as its room. -/
def RetToSrv (es : List EntD) (sf : Int) (up : Bool) (w : World) (e : Ending) (w' : World) : Prop := ∃ g, e = .returned (.agg #[.slice (some ⟨g, 0, none⟩) es.length es.length, .int .i64 sf, .bool up]) ∧ w.heap.size ≤ g ∧ OwnEC w' g (es.length * 7) es ∧ Below w.heap.size w w'
theorem OwnEC.put {w : World} {g C B j : Nat} {es : List EntD} (h : OwnEC w g C es) (hne : g ≠ B) (v : Value) : OwnEC (w.setCell ⟨B, j, none⟩ v) g C es := by
  obtain ⟨f, h1, h2⟩ := h
  exact ⟨f, h1.of_block (Below.heap_setCell _ _ _ _ hne), h2⟩
theorem OwnEC.but {w w' : World} {g C b n : Nat} {es : List EntD} (h : OwnEC w g C es) (hb : But b n w w') (hg : g < n) (hne : g ≠ b) : OwnEC w' g C es := by
  obtain ⟨f, h1, h2⟩ := h
  exact ⟨f, h1.of_block (hb.block g hg hne), h2⟩
theorem eqServer_same (B : Nat) (a a' : Option Addr) (cap cap' : Nat) (es : List EntD) (sf : Int) (up : Bool) (w : World) (hB : B ≤ w.heap.size) (h : EntsAt B w a es) (h' : EntsAt B w a' es) (hl : es.length ≤ 1048576) :
    Calls Tryd.prog 36 #[.agg #[.slice a es.length cap, .int .i64 sf, .bool up], .agg #[.slice a' es.length cap', .int .i64 sf, .bool up]] w (RetBelow (.bool true) w) := by
  have hb0 : Below w.heap.size w (w.alloc (.cells #[.slice a es.length cap, .int .i64 sf, .bool up] 60)) := (Below.refl _ _).alloc (Nat.le_refl _) _
  have X0 := Bx.new w 60 #[.slice a es.length cap, .int .i64 sf, .bool up]
  have al := (Below.refl (w.alloc (.cells #[.slice a es.length cap, .int .i64 sf, .bool up] 60)).heap.size (w.alloc (.cells #[.slice a es.length cap, .int .i64 sf, .bool up] 60))).alloc (Nat.le_refl _) (.cells #[.slice a' es.length cap', .int .i64 sf, .bool up] 60)
  have X1 := X0.below al X0.lt
  have Y1 := Bx.new (w.alloc (.cells #[.slice a es.length cap, .int .i64 sf, .bool up] 60)) 60 #[.slice a' es.length cap', .int .i64 sf, .bool up]
  have hb1 := hb0.trans (al.mono hb0.size)
  have hs : (w.alloc (.cells #[.slice a es.length cap, .int .i64 sf, .bool up] 60)).heap.size = w.heap.size + 1 := by simp
  rw [hs] at Y1
  have HE := Lib.hid (eqEntryS_same B a a' cap cap' es _ (Nat.le_trans hB hb1.size) (h.below (hb1.mono hB)) (h'.below (hb1.mono hB)) hl)
  clear hb0 al X0 hs
  go_enter Tryd.func36, Tryd.ntmps36
  go_wp2_with fail
  refine HE.out.mono ?_
  rintro _ V ⟨rfl, hb2⟩
  have hV := hb1.trans (hb2.mono hb1.size)
  obtain ⟨x0, x1, x2⟩ := (X1.below hb2 X1.lt).srv
  obtain ⟨y0, y1, y2⟩ := (Y1.below hb2 Y1.lt).srv
  clear X1 Y1 HE hb1 hb2
  cases up
  · go_wp2
    go_ret
    exact ⟨rfl, hV⟩
  · go_wp2
    go_ret
    exact ⟨rfl, hV⟩
end Go.Proofs.YtcpmahchagjhkaaDoor
/-
  The laws' own helpers toServer, markServer, heldServer. Conditions: as each theorem says.
-/
namespace Go.Proofs.YtcpmahchagjhkaaDoor
open Go.ChangeShapes Go.WideShapes Go.ChangeAt Go.RowKit Go.Joins Go.Deep

theorem OwnEC.given3 {g C r : Nat} {w' : World} {es : List EntD} (h : OwnEC w' g C es) (hne : g ≠ r) (v0 v1 v2 : Value) : OwnEC (((w'.setCell ⟨r, 0, none⟩ v0).setCell ⟨r, 1, none⟩ v1).setCell ⟨r, 2, none⟩ v2) g C es := (((h.put hne v0).put hne v1).put hne v2)
set_option maxRecDepth 100000 in
set_option maxHeartbeats 2000000 in
theorem toServer_any (B : Nat) (a : Option Addr) (cap : Nat) (es : List EntD) (sf : Int) (up : Bool) (w : World) (hB : B ≤ w.heap.size) (h : EntsAt B w a es) (hl : es.length ≤ 1048576) :
    Calls Tryd.prog 33 #[.agg #[.slice a es.length cap, .int .i64 sf, .bool up]] w (RetToSrv es sf up w) := by
  have hb0 : Below w.heap.size w (((w.alloc (.cells #[.slice a es.length cap, .int .i64 sf, .bool up] 54)).alloc (.cells #[.slice none 0 0, .int .i64 0, .bool false] 60)).alloc (.cells #[.slice none 0 0, .int .i64 0, .bool false] 60)) := (((Below.refl _ _).alloc (Nat.le_refl _) _).alloc (by simp) _).alloc (by simp; omega) _
  have X0 := ((Bx.new w 54 #[.slice a es.length cap, .int .i64 sf, .bool up]).alloc (.cells #[.slice none 0 0, .int .i64 0, .bool false] 60)).alloc (.cells #[.slice none 0 0, .int .i64 0, .bool false] 60)
  have Y0 := (Bx.new (w.alloc (.cells #[.slice a es.length cap, .int .i64 sf, .bool up] 54)) 60 #[.slice none 0 0, .int .i64 0, .bool false]).alloc (.cells #[.slice none 0 0, .int .i64 0, .bool false] 60)
  have Z0 := Bx.new ((w.alloc (.cells #[.slice a es.length cap, .int .i64 sf, .bool up] 54)).alloc (.cells #[.slice none 0 0, .int .i64 0, .bool false] 60)) 60 #[.slice none 0 0, .int .i64 0, .bool false]
  have hs1 : (w.alloc (.cells #[.slice a es.length cap, .int .i64 sf, .bool up] 54)).heap.size = w.heap.size + 1 := by simp
  have hs2 : ((w.alloc (.cells #[.slice a es.length cap, .int .i64 sf, .bool up] 54)).alloc (.cells #[.slice none 0 0, .int .i64 0, .bool false] 60)).heap.size = w.heap.size + 1 + 1 := by simp
  rw [hs1] at Y0
  rw [hs2] at Z0
  have h0 := h.below (hb0.mono hB)
  clear hs1 hs2
  go_enter Tryd.func33, Tryd.ntmps33
  go_upto_region 2 with fail
  generalize (((w.alloc (.cells #[.slice a es.length cap, .int .i64 sf, .bool up] 54)).alloc (.cells #[.slice none 0 0, .int .i64 0, .bool false] 60)).alloc (.cells #[.slice none 0 0, .int .i64 0, .bool false] 60)) = w1 at *
  obtain ⟨x0, x1, x2⟩ := X0.srv
  go_wp2_with fail
  refine (toEntryS_any B a cap es w1 (Nat.le_trans hB hb0.size) h0 hl).mono ?_
  rintro _ w2 ⟨g, rfl, hg, O2, b2⟩
  have X2 := X0.below b2 X0.lt
  have Y2 := Y0.below b2 Y0.lt
  have Z2 := Z0.below b2 Z0.lt
  have L2 := hb0.trans (b2.mono hb0.size)
  have hz1 : w.heap.size + 1 + 1 < w1.heap.size := Z0.lt
  clear X0 Y0 Z0 b2 x0 x1 x2 h0
  obtain ⟨x0, x1, x2⟩ := X2.srv
  obtain ⟨z0, z1, z2⟩ := Z2.srv
  have f0 := Z2.frozen 0
  have f1 := Z2.frozen 1
  have f2 := Z2.frozen 2
  have Z3' : Bx (((w2.setCell ⟨w.heap.size + 1 + 1, 0, none⟩ (.slice (some ⟨g, 0, none⟩) es.length es.length)).setCell ⟨w.heap.size + 1 + 1, 1, none⟩ (.int .i64 sf)).setCell ⟨w.heap.size + 1 + 1, 2, none⟩ (.bool up)) (w.heap.size + 1 + 1) 60 #[.slice (some ⟨g, 0, none⟩) es.length es.length, .int .i64 sf, .bool up] := ((Z2.put 0 _).put 1 _).put 2 _
  have Y3 := Y2.given3 (r := w.heap.size + 1 + 1) (by omega) (.slice (some ⟨g, 0, none⟩) es.length es.length) (.int .i64 sf) (.bool up)
  have O3 := O2.given3 (r := w.heap.size + 1 + 1) (by omega) (.slice (some ⟨g, 0, none⟩) es.length es.length) (.int .i64 sf) (.bool up)
  have L3 := below_given3 (r := w.heap.size + 1 + 1) L2 (by omega) (.slice (some ⟨g, 0, none⟩) es.length es.length) (.int .i64 sf) (.bool up)
  clear X2 Y2 Z2 O2 L2
  go_upto_region 5 with fail
  generalize (((w2.setCell ⟨w.heap.size + 1 + 1, 0, none⟩ (.slice (some ⟨g, 0, none⟩) es.length es.length)).setCell ⟨w.heap.size + 1 + 1, 1, none⟩ (.int .i64 sf)).setCell ⟨w.heap.size + 1 + 1, 2, none⟩ (.bool up)) = w3 at *
  clear x0 x1 x2 z0 z1 z2 f0 f1 f2
  obtain ⟨z0, z1, z2⟩ := Z3'.srv
  have d0 := Y3.cell 0 rfl
  have d1 := Y3.cell 1 rfl
  have d2 := Y3.cell 2 rfl
  have y0 := Y3.frozen 0
  have y1 := Y3.frozen 1
  have y2 := Y3.frozen 2
  have O4 : ∀ v0 v1 v2, OwnEC (((w3.setCell ⟨w.heap.size + 1, 0, none⟩ v0).setCell ⟨w.heap.size + 1, 1, none⟩ v1).setCell ⟨w.heap.size + 1, 2, none⟩ v2) g (es.length * 7) es := fun v0 v1 v2 => O3.given3 (by omega) v0 v1 v2
  have hgw : w.heap.size ≤ g := by omega
  clear Y3 Z3' O3
  go_wp2
  exact bodyPost_ret (v := .agg #[.slice (some ⟨g, 0, none⟩) es.length es.length, .int .i64 sf, .bool up]) (by simp [results, Tryd.results33, go_sem, d0, d1, d2]) rfl ⟨g, rfl, hgw, O4 _ _ _, below_given3 L3 (by omega) _ _ _⟩
/-- What marking a server's log does: that log is marked; boxes of other types, and entries that lie above, stay. -/
structure MarkOut (base : Nat) (a : Option Addr) (n : Nat) (w w' : World) : Prop where
  got : GotE base w' a (ments n)
  low : Below base w w'
  box : ∀ B t cs, t ≠ 65 → Bx w B t cs → Bx w' B t cs
  ents : ∀ base' a' es', (n = 0 ∨ ∀ g, a = some ⟨g, 0, none⟩ → g < base') → GotE base' w a' es' → GotE base' w' a' es'
  size : w.heap.size ≤ w'.heap.size
theorem markEntryS_out (base : Nat) (a : Option Addr) (cap : Nat) (es : List EntD) (w : World) (hb : base ≤ w.heap.size) (h : GotE base w a es) (hl : es.length ≤ 1048576) :
    Calls Tryd.prog 29 #[.slice a es.length cap, .int .i64 1] w (fun e w' => e = .returned (.int .i64 ((es.length : Int) * 7 + 1)) ∧ MarkOut base a es.length w w') := by
  by_cases h0 : es.length = 0
  · rw [h0]
    refine (markEntryS_nil a cap w).mono ?_
    rintro e w' ⟨rfl, rfl⟩
    exact ⟨rfl, .inl rfl, Below.refl _ _, fun _ _ _ _ h => h, fun _ _ _ _ h => h, Nat.le_refl _⟩
  rcases h with h | ⟨g, C, rfl, hg, ho⟩
  · exact absurd h h0
  · have ho' := ho
    refine (markEntryS_exC g C cap es w ho hl).mono ?_
    rintro e w' ⟨rfl, h1, h2⟩
    refine ⟨rfl, .inr ⟨g, C, rfl, hg, h1⟩, h2.below hg hb, fun B t cs ht hB => ?_, fun base' a' es' hlt hG => ?_, h2.size⟩
    · refine hB.but h2 hB.lt (fun q => ?_)
      subst q
      obtain ⟨f, ⟨c, hc, _⟩, _⟩ := ho'
      have hB' : w.heap[B]? = some (.cells cs t (0, 0)) := hB
      rw [hc] at hB'
      cases hB'
      exact ht rfl
    · rcases hlt with q | hlt
      · exact absurd q h0
      · exact hG.but h2 (Nat.le_refl _) (hlt g rfl)
def RetMk (base : Nat) (a : Option Addr) (n : Nat) (w : World) (r : Ending) (w' : World) : Prop := r = .returned (.int .i64 ((n : Int) * 7 + 1)) ∧ MarkOut base a n w w'
theorem MarkOut.after {base n : Nat} {a : Option Addr} {w w1 w' : World} (h : MarkOut base a n w1 w') (hb : Below w.heap.size w w1) (hB : base ≤ w.heap.size) : MarkOut base a n w w' :=
  ⟨h.got, (hb.mono hB).trans h.low, fun B t cs ht hx => h.box B t cs ht (hx.below hb hx.lt), fun base' a' es' hlt hG => h.ents base' a' es' hlt (hG.below hb (Nat.le_refl _)), Nat.le_trans hb.size h.size⟩
theorem markServer_any (base : Nat) (a : Option Addr) (cap : Nat) (es : List EntD) (sf : Int) (up : Bool) (w : World) (hb : base ≤ w.heap.size) (h : GotE base w a es) (hl : es.length ≤ 1048576) :
    Calls Tryd.prog 37 #[.agg #[.slice a es.length cap, .int .i64 sf, .bool up], .int .i64 1] w (RetMk base a es.length w) := by
  have al := (Below.refl w.heap.size w).alloc (Nat.le_refl _) (.cells #[.slice a es.length cap, .int .i64 sf, .bool up] 60)
  have HM := Lib.hid (markEntryS_out base a cap es _ (Nat.le_trans hb al.size) (h.below al (Nat.le_refl _)) hl)
  go_enter Tryd.func37, Tryd.ntmps37
  go_wp2_with fail
  refine HM.out.mono ?_
  rintro _ w1 ⟨rfl, hm⟩
  have hm' := hm.after al hb
  clear hm HM al
  go_wp2
  go_ret
  exact ⟨rfl, hm'⟩
theorem heldServer_any (a : Option Addr) (cap n : Nat) (sf : Int) (up : Bool) (w : World) (h : EntsAt w.heap.size w a (ments n)) (hl : n ≤ 1048576) :
    Calls Tryd.prog 38 #[.agg #[.slice a n cap, .int .i64 sf, .bool up], .int .i64 1] w (RetHeldE n w) := by
  have al := (Below.refl w.heap.size w).alloc (Nat.le_refl _) (.cells #[.slice a n cap, .int .i64 sf, .bool up] 60)
  have HM := Lib.hid (heldEntryS_ex w.heap.size a cap n _ al.size (h.below al) hl)
  have hq1 : ¬ ((n : Int) * 7 + 1 < 0) := by omega
  go_enter Tryd.func38, Tryd.ntmps38
  go_wp2_with fail
  refine HM.out.mono ?_
  rintro _ w1 ⟨rfl, hb1⟩
  have hL := al.trans (hb1.mono al.size)
  clear HM al
  go_wp2
  go_ret
  exact ⟨rfl, hL⟩
end Go.Proofs.YtcpmahchagjhkaaDoor
