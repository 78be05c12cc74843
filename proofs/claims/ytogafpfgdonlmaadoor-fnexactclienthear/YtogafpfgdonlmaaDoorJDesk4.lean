/-
  Contract of the program's (*desk).hear. Conditions: as each theorem says.
-/
import Derived.Test.YtogafpfgdonlmaaDoorJCliI3
import Derived.BigQuiet
namespace Go.Proofs.YtogafpfgdonlmaaDoor
open Go.ChangeShapes Go.WideShapes Go.ChangeAt Go.RowKit Go.Joins Go.Deep


set_option linter.unusedVariables false
/-- Somebody behind one entry more. -/
def hear1 (c : CliD) (e : EntD) : CliD := ⟨c.who, c.seen + 1, doR c.base e.op, if e.who = c.who then c.wait.drop 1 else c.wait, if e.who = c.who then c.done + 1 else c.done, c.made⟩
def okH (c : CliD) (e : EntD) : Bool := !(e.who == c.who) || (decide (0 < c.wait.length) && sameB (eat c.wait 0) e)
/-- What hearing leaves of a desk. -/
def RetH (B base : Nat) (c : CliD) (e : EntD) (w : World) (r : Ending) (w' : World) : Prop :=
  But B w.heap.size w w' ∧ ((okH c e = false ∧ r = .returned (.bool false)) ∨ (okH c e = true ∧ r = .returned (.bool true) ∧ ∃ cs' f' ya yc, Bx w' B 60 cs' ∧ DeskV cs' (hear1 c e) (.slice ya (hear1 c e).base.length yc) f' ∧ (f' : Int) - 1 = (hear1 c e).done ∧ f' + (hear1 c e).wait.length ≤ 41 ∧ Got base w' ya (hear1 c e).base ∧ (hear1 c e).base.length ≤ yc ∧ yc ≤ maxLen))
theorem Got.drew' {base : Nat} {w : World} {a : Option Addr} {rs : List RowD} (h : Got base w a rs) : Got base w.drew a rs := h.below ((Below.refl w.heap.size w).drew) (Nat.le_refl _)
set_option maxRecDepth 100000 in
set_option maxHeartbeats 4000000 in
theorem hear_other (B base : Nat) (cs : Array Value) (c : CliD) (e : EntD) (f : Nat) (xa : Option Addr) (xc : Nat) (w : World) (h : Bx w B 60 cs) (hd : DeskV cs c (.slice xa c.base.length xc) f) (hf : f + c.wait.length ≤ 41) (hfd : (f : Int) - 1 = c.done) (hs : 0 ≤ c.seen ∧ c.seen ≤ 1000) (hG : Got base w xa c.base) (hb : base ≤ w.heap.size) (htr : treeB c.base = true) (hop : opokB e.op = true) (ho : OpFit e.op) (ht : Tab w) (hB0 : 0 ≠ B) (hw : ¬ e.who = c.who) :
    Calls Tryd.prog 54 #[.pointer (some ⟨B, 0, none⟩), .agg #[.int .i64 e.who, .int .i64 e.seq, .int .i64 e.op.kind, .int .i64 e.op.id, .int .i64 e.op.up, .int .i64 e.op.at_, .string e.op.txt]] w (RetH B base c e w) := by
  have hz := ht.pos
  have hBl := h.lt
  have al := (But.refl B w.heap.size w).alloc (Nat.le_refl _) (.cells #[.int .i64 e.who, .int .i64 e.seq, .int .i64 e.op.kind, .int .i64 e.op.id, .int .i64 e.op.up, .int .i64 e.op.at_, .string e.op.txt] 55)
  have E0 := Bx.new w 55 #[.int .i64 e.who, .int .i64 e.seq, .int .i64 e.op.kind, .int .i64 e.op.id, .int .i64 e.op.up, .int .i64 e.op.at_, .string e.op.txt]
  have H0 := h.alloc (.cells #[.int .i64 e.who, .int .i64 e.seq, .int .i64 e.op.kind, .int .i64 e.op.id, .int .i64 e.op.up, .int .i64 e.op.at_, .string e.op.txt] 55)
  have G0 := hG.below ((Below.refl w.heap.size w).alloc (Nat.le_refl _) (.cells #[.int .i64 e.who, .int .i64 e.seq, .int .i64 e.op.kind, .int .i64 e.op.id, .int .i64 e.op.up, .int .i64 e.op.at_, .string e.op.txt] 55)) (Nat.le_refl _)
  have lE := E0.lt
  have lB := H0.lt
  clear h hG
  go_enter Tryd.func54, Tryd.ntmps54
  go_upto_region 1 with fail
  generalize w.alloc (.cells #[.int .i64 e.who, .int .i64 e.seq, .int .i64 e.op.kind, .int .i64 e.op.id, .int .i64 e.op.up, .int .i64 e.op.at_, .string e.op.txt] 55) = w1 at *
  have e0 := E0.cell 0 rfl
  have x0 := H0.cell 0 hd.who
  have hw2 : (e.who == c.who) = false := beq_eq_false_iff_ne.2 hw
  have HOK : Hid (okH c e = true) := by unfold Hid okH; rw [hw2]; rfl
  have HH : Hid (hear1 c e = ⟨c.who, c.seen + 1, doR c.base e.op, c.wait, c.done, c.made⟩) := by unfold Hid hear1; rw [if_neg hw, if_neg hw]
  go_region
  all_goals
    have E1 := E0.drew
    have H1 := H0.drew
    have G1 := G0.drew'
    have A1 := al.drew
    clear E0 H0 G0 al e0 x0
    generalize w1.drew = w2 at *
    have f0 := E1.cell 0 rfl
    have f1 := E1.cell 1 rfl
    have f2 := E1.cell 2 rfl
    have f3 := E1.cell 3 rfl
    have f4 := E1.cell 4 rfl
    have f5 := E1.cell 5 rfl
    have f6 := E1.cell 6 rfl
    have htw : Tab w2.drew := fun i hi => by rw [A1.drew.cell (p := ⟨0, i, none⟩) hz hB0]; exact ht i hi
    have sz := A1.size
    have HA := Lib.hid (apply_any B 2 xa xc c.base e w2.drew (H1.drew.cell 2 hd.rows) (H1.drew.frozen 2) H1.drew.lt G1.drew'.rows (tree_fits htr) ho htw)
    rw [doT_ok htr hop] at HA
    generalize hR : doR c.base e.op = R at *
    have HR := Lib.hid hR
    clear hR
    go_upto_region 5 with fail
    go_region_with ((go_at_call 74; (refine HA.out.mono ?_); rintro _ w8 ⟨rfl, za, zc, w7, rfl, own7, hz1, hz2, b7⟩))
    all_goals
      have H7 := H1.drew.below b7 H1.drew.lt
      have H8 : Bx (w7.setCell ⟨B, 2, none⟩ (.slice za R.length zc)) B 60 (cs.setIfInBounds 2 (.slice za R.length zc)) := H7.put 2 _
      have G8 : Got base (w7.setCell ⟨B, 2, none⟩ (.slice za R.length zc)) za R := ((got_own own7).base (Nat.le_trans hb sz)).putB H7 (by decide) _
      have A8 : But B w.heap.size w (w7.setCell ⟨B, 2, none⟩ (.slice za R.length zc)) := (A1.drew.trans (But.of_below (b7.mono sz))).setCell _ _
      have V8 := (hd).rowsSet (.slice za R.length zc) rfl R
      clear HA f0 f1 f2 f3 f4 f5 f6 htw H7 own7 b7
      generalize w7.setCell ⟨B, 2, none⟩ (.slice za R.length zc) = w9 at *
      have s1 := H8.cell 1 V8.seen
      have s2 := H8.frozen 1
      have H9 : Bx (w9.setCell ⟨B, 1, none⟩ (.int .i64 (c.seen + 1))) B 60 ((cs.setIfInBounds 2 (.slice za R.length zc)).setIfInBounds 1 (.int .i64 (c.seen + 1))) := H8.put 1 _
      have V9 := V8.seenSet (c.seen + 1)
      have G9 : Got base (w9.setCell ⟨B, 1, none⟩ (.int .i64 (c.seen + 1))) za R := G8.putB H8 (by decide) _
      have A9 := A8.setCell 1 (.int .i64 (c.seen + 1))
      have HF : Hid (RetH B base c e w (.returned (.bool true)) (w9.setCell ⟨B, 1, none⟩ (.int .i64 (c.seen + 1)))) := by
        refine ⟨A9, .inr ⟨HOK.out, rfl, _, f, za, zc, H9, ?_⟩⟩
        rw [HH.out]; exact ⟨V9, hfd, hf, G9, hz1, hz2⟩
      clear H8 H9 V8 V9 G8 G9 A8 A9
      go_wp2
      go_ret
      exact HF.out
set_option maxRecDepth 100000 in
set_option maxHeartbeats 4000000 in
theorem hear_none (B base : Nat) (cs : Array Value) (c : CliD) (e : EntD) (f : Nat) (xa : Option Addr) (xc : Nat) (w : World) (h : Bx w B 60 cs) (hd : DeskV cs c (.slice xa c.base.length xc) f) (hf : f + c.wait.length ≤ 41) (hfd : (f : Int) - 1 = c.done) (hs : 0 ≤ c.seen ∧ c.seen ≤ 1000) (hG : Got base w xa c.base) (hb : base ≤ w.heap.size) (htr : treeB c.base = true) (hop : opokB e.op = true) (ho : OpFit e.op) (ht : Tab w) (hB0 : 0 ≠ B) (hw : e.who = c.who) (hl : c.wait.length = 0) :
    Calls Tryd.prog 54 #[.pointer (some ⟨B, 0, none⟩), .agg #[.int .i64 e.who, .int .i64 e.seq, .int .i64 e.op.kind, .int .i64 e.op.id, .int .i64 e.op.up, .int .i64 e.op.at_, .string e.op.txt]] w (RetH B base c e w) := by
  have hw2 : (e.who == c.who) = true := by simp [hw]
  have HOK : Hid (okH c e = false) := by unfold Hid okH; rw [hw2, hl]; rfl
  clear hw
  have hz := ht.pos
  have hBl := h.lt
  have al := (But.refl B w.heap.size w).alloc (Nat.le_refl _) (.cells #[.int .i64 e.who, .int .i64 e.seq, .int .i64 e.op.kind, .int .i64 e.op.id, .int .i64 e.op.up, .int .i64 e.op.at_, .string e.op.txt] 55)
  have E0 := Bx.new w 55 #[.int .i64 e.who, .int .i64 e.seq, .int .i64 e.op.kind, .int .i64 e.op.id, .int .i64 e.op.up, .int .i64 e.op.at_, .string e.op.txt]
  have H0 := h.alloc (.cells #[.int .i64 e.who, .int .i64 e.seq, .int .i64 e.op.kind, .int .i64 e.op.id, .int .i64 e.op.up, .int .i64 e.op.at_, .string e.op.txt] 55)
  have G0 := hG.below ((Below.refl w.heap.size w).alloc (Nat.le_refl _) (.cells #[.int .i64 e.who, .int .i64 e.seq, .int .i64 e.op.kind, .int .i64 e.op.id, .int .i64 e.op.up, .int .i64 e.op.at_, .string e.op.txt] 55)) (Nat.le_refl _)
  have lE := E0.lt
  have lB := H0.lt
  clear h hG
  go_enter Tryd.func54, Tryd.ntmps54
  go_upto_region 1 with fail
  generalize w.alloc (.cells #[.int .i64 e.who, .int .i64 e.seq, .int .i64 e.op.kind, .int .i64 e.op.id, .int .i64 e.op.up, .int .i64 e.op.at_, .string e.op.txt] 55) = w1 at *
  have e0 := E0.cell 0 rfl
  have x0 := H0.cell 0 hd.who
  have HT := Lib.hid (take_ring_none B cs c (.slice xa c.base.length xc) f w1.drew H0.drew hd hl)
  go_region
  all_goals
    have A1 := al.drew
    have sz := A1.size
    clear E0 H0 G0 al e0 x0
    go_wp2_with fail
    refine HT.out.mono ?_
    rintro _ w3 (⟨_, rfl, b3⟩ | ⟨q, _⟩)
    · have A3 := A1.trans (But.of_below (b3.mono sz))
      have A4 := A3.alloc A3.size (.cells #[.int .i64 0, .int .i64 0, .int .i64 0, .int .i64 0, .int .i64 0, .int .i64 0, .string ⟨#[]⟩] 55)
      have HF : Hid (RetH B base c e w (.returned (.bool false)) (w3.alloc (.cells #[.int .i64 0, .int .i64 0, .int .i64 0, .int .i64 0, .int .i64 0, .int .i64 0, .string ⟨#[]⟩] 55))) := ⟨A4, .inl ⟨HOK.out, rfl⟩⟩
      clear A1 A3 A4 b3 HT
      go_wp2
      go_ret
      exact HF.out
    · exact absurd hl (by omega)
set_option maxRecDepth 100000 in
set_option maxHeartbeats 4000000 in
theorem hear_diff (B base : Nat) (cs : Array Value) (c : CliD) (e : EntD) (f : Nat) (xa : Option Addr) (xc : Nat) (w : World) (h : Bx w B 60 cs) (hd : DeskV cs c (.slice xa c.base.length xc) f) (hf : f + c.wait.length ≤ 41) (hfd : (f : Int) - 1 = c.done) (hs : 0 ≤ c.seen ∧ c.seen ≤ 1000) (hG : Got base w xa c.base) (hb : base ≤ w.heap.size) (htr : treeB c.base = true) (hop : opokB e.op = true) (ho : OpFit e.op) (ht : Tab w) (hB0 : 0 ≠ B) (hw : e.who = c.who) (hl : 0 < c.wait.length) (hsm0 : sameB (eat c.wait 0) e = false) :
    Calls Tryd.prog 54 #[.pointer (some ⟨B, 0, none⟩), .agg #[.int .i64 e.who, .int .i64 e.seq, .int .i64 e.op.kind, .int .i64 e.op.id, .int .i64 e.op.up, .int .i64 e.op.at_, .string e.op.txt]] w (RetH B base c e w) := by
  have hw2 : (e.who == c.who) = true := by simp [hw]
  have HOK : Hid (okH c e = false) := by unfold Hid okH; rw [hw2, hsm0]; simp
  clear hw
  have HSM := Lib.hid hsm0
  clear hsm0
  have hz := ht.pos
  have hBl := h.lt
  have al := (But.refl B w.heap.size w).alloc (Nat.le_refl _) (.cells #[.int .i64 e.who, .int .i64 e.seq, .int .i64 e.op.kind, .int .i64 e.op.id, .int .i64 e.op.up, .int .i64 e.op.at_, .string e.op.txt] 55)
  have E0 := Bx.new w 55 #[.int .i64 e.who, .int .i64 e.seq, .int .i64 e.op.kind, .int .i64 e.op.id, .int .i64 e.op.up, .int .i64 e.op.at_, .string e.op.txt]
  have H0 := h.alloc (.cells #[.int .i64 e.who, .int .i64 e.seq, .int .i64 e.op.kind, .int .i64 e.op.id, .int .i64 e.op.up, .int .i64 e.op.at_, .string e.op.txt] 55)
  have G0 := hG.below ((Below.refl w.heap.size w).alloc (Nat.le_refl _) (.cells #[.int .i64 e.who, .int .i64 e.seq, .int .i64 e.op.kind, .int .i64 e.op.id, .int .i64 e.op.up, .int .i64 e.op.at_, .string e.op.txt] 55)) (Nat.le_refl _)
  have lE := E0.lt
  have lB := H0.lt
  clear h hG
  go_enter Tryd.func54, Tryd.ntmps54
  go_upto_region 1 with fail
  generalize w.alloc (.cells #[.int .i64 e.who, .int .i64 e.seq, .int .i64 e.op.kind, .int .i64 e.op.id, .int .i64 e.op.up, .int .i64 e.op.at_, .string e.op.txt] 55) = w1 at *
  have e0 := E0.cell 0 rfl
  have x0 := H0.cell 0 hd.who
  have HT := Lib.hid (take_ring_some B cs c (.slice xa c.base.length xc) f w1.drew H0.drew hd hl hf)
  go_region
  all_goals
    have A1 := al.drew
    have sz := A1.size
    have E1 := E0.drew
    have G1 := G0.drew'
    have H1 := H0.drew
    clear E0 H0 G0 al e0 x0
    go_wp2_with fail
    refine HT.out.mono ?_
    rintro _ w3 (⟨q, _⟩ | ⟨_, rfl, ⟨cs3, H3, V3⟩, b3⟩)
    · exact absurd hl (by omega)
    · have A3 := A1.trans (b3.mono sz)
      have E3 := E1.but b3 E1.lt (by omega)
      have G3 := G1.butB H1 (by decide) b3 (Nat.le_refl _)
      clear HT E1 G1 H1 A1 b3
      generalize hdd : eat c.wait 0 = d at *
      have HDD := Lib.hid hdd
      clear hdd
      have A4 := A3.alloc A3.size (.cells #[.int .i64 d.who, .int .i64 d.seq, .int .i64 d.op.kind, .int .i64 d.op.id, .int .i64 d.op.up, .int .i64 d.op.at_, .string d.op.txt] 55)
      have E4 := E3.alloc (.cells #[.int .i64 d.who, .int .i64 d.seq, .int .i64 d.op.kind, .int .i64 d.op.id, .int .i64 d.op.up, .int .i64 d.op.at_, .string d.op.txt] 55)
      have G4 := G3.below ((Below.refl w3.heap.size w3).alloc (Nat.le_refl _) (.cells #[.int .i64 d.who, .int .i64 d.seq, .int .i64 d.op.kind, .int .i64 d.op.id, .int .i64 d.op.up, .int .i64 d.op.at_, .string d.op.txt] 55)) (Nat.le_refl _)
      have H4 := H3.alloc (.cells #[.int .i64 d.who, .int .i64 d.seq, .int .i64 d.op.kind, .int .i64 d.op.id, .int .i64 d.op.up, .int .i64 d.op.at_, .string d.op.txt] 55)
      have D4 := Bx.new w3 55 #[.int .i64 d.who, .int .i64 d.seq, .int .i64 d.op.kind, .int .i64 d.op.id, .int .i64 d.op.up, .int .i64 d.op.at_, .string d.op.txt]
      clear A3 E3 G3 H3
      go_upto_region 3 with fail
      generalize w3.alloc (.cells #[.int .i64 d.who, .int .i64 d.seq, .int .i64 d.op.kind, .int .i64 d.op.id, .int .i64 d.op.up, .int .i64 d.op.at_, .string d.op.txt] 55) = w4 at *
      generalize w3.heap.size = n3 at *
      have e0 := E4.cell 0 rfl
      have e1 := E4.cell 1 rfl
      have e2 := E4.cell 2 rfl
      have e3 := E4.cell 3 rfl
      have e4 := E4.cell 4 rfl
      have e5 := E4.cell 5 rfl
      have e6 := E4.cell 6 rfl
      have g0 := D4.cell 0 rfl
      have g1 := D4.cell 1 rfl
      have g2 := D4.cell 2 rfl
      have g3 := D4.cell 3 rfl
      have g4 := D4.cell 4 rfl
      have g5 := D4.cell 5 rfl
      have g6 := D4.cell 6 rfl
      have hsm : sameB d e = false := HSM.out
      clear HSM
      have hp := ent_parts hsm
      have HF : Hid (RetH B base c e w (.returned (.bool false)) w4) := ⟨A4, .inl ⟨HOK.out, rfl⟩⟩
      clear hsm A4 E4 G4 H4 D4 V3 HDD HOK
      rcases hp with h1 | ⟨h1, h2⟩ | ⟨h1, h2, h3⟩ | ⟨h1, h2, h3, h4⟩ | ⟨h1, h2, h3, h4, h5⟩ | ⟨h1, h2, h3, h4, h5, h6⟩ | ⟨h1, h2, h3, h4, h5, h6, h7⟩
      all_goals
        go_wp2
        go_ret
        exact HF.out
set_option maxRecDepth 100000 in
set_option maxHeartbeats 4000000 in
theorem hear_own (B base : Nat) (cs : Array Value) (c : CliD) (e : EntD) (f : Nat) (xa : Option Addr) (xc : Nat) (w : World) (h : Bx w B 60 cs) (hd : DeskV cs c (.slice xa c.base.length xc) f) (hf : f + c.wait.length ≤ 41) (hfd : (f : Int) - 1 = c.done) (hs : 0 ≤ c.seen ∧ c.seen ≤ 1000) (hG : Got base w xa c.base) (hb : base ≤ w.heap.size) (htr : treeB c.base = true) (hop : opokB e.op = true) (ho : OpFit e.op) (ht : Tab w) (hB0 : 0 ≠ B) (hw : e.who = c.who) (hl : 0 < c.wait.length) (hsm0 : eat c.wait 0 = e) :
    Calls Tryd.prog 54 #[.pointer (some ⟨B, 0, none⟩), .agg #[.int .i64 e.who, .int .i64 e.seq, .int .i64 e.op.kind, .int .i64 e.op.id, .int .i64 e.op.up, .int .i64 e.op.at_, .string e.op.txt]] w (RetH B base c e w) := by
  have hw2 : (e.who == c.who) = true := by simp [hw]
  have HOK : Hid (okH c e = true) := by unfold Hid okH; rw [hw2, hsm0, sameB_iff.2 rfl]; simp [hl]
  have HH : Hid (hear1 c e = ⟨c.who, c.seen + 1, doR c.base e.op, c.wait.drop 1, c.done + 1, c.made⟩) := by unfold Hid hear1; rw [if_pos hw, if_pos hw]
  clear hw
  have HSM := Lib.hid hsm0
  clear hsm0
  have hz := ht.pos
  have hBl := h.lt
  have al := (But.refl B w.heap.size w).alloc (Nat.le_refl _) (.cells #[.int .i64 e.who, .int .i64 e.seq, .int .i64 e.op.kind, .int .i64 e.op.id, .int .i64 e.op.up, .int .i64 e.op.at_, .string e.op.txt] 55)
  have E0 := Bx.new w 55 #[.int .i64 e.who, .int .i64 e.seq, .int .i64 e.op.kind, .int .i64 e.op.id, .int .i64 e.op.up, .int .i64 e.op.at_, .string e.op.txt]
  have H0 := h.alloc (.cells #[.int .i64 e.who, .int .i64 e.seq, .int .i64 e.op.kind, .int .i64 e.op.id, .int .i64 e.op.up, .int .i64 e.op.at_, .string e.op.txt] 55)
  have G0 := hG.below ((Below.refl w.heap.size w).alloc (Nat.le_refl _) (.cells #[.int .i64 e.who, .int .i64 e.seq, .int .i64 e.op.kind, .int .i64 e.op.id, .int .i64 e.op.up, .int .i64 e.op.at_, .string e.op.txt] 55)) (Nat.le_refl _)
  have lE := E0.lt
  have lB := H0.lt
  clear h hG
  go_enter Tryd.func54, Tryd.ntmps54
  go_upto_region 1 with fail
  generalize w.alloc (.cells #[.int .i64 e.who, .int .i64 e.seq, .int .i64 e.op.kind, .int .i64 e.op.id, .int .i64 e.op.up, .int .i64 e.op.at_, .string e.op.txt] 55) = w1 at *
  have e0 := E0.cell 0 rfl
  have x0 := H0.cell 0 hd.who
  have HT := Lib.hid (take_ring_some B cs c (.slice xa c.base.length xc) f w1.drew H0.drew hd hl hf)
  go_region
  all_goals
    have A1 := al.drew
    have sz := A1.size
    have E1 := E0.drew
    have G1 := G0.drew'
    have H1 := H0.drew
    clear E0 H0 G0 al e0 x0
    go_wp2_with fail
    refine HT.out.mono ?_
    rintro _ w3 (⟨q, _⟩ | ⟨_, rfl, ⟨cs3, H3, V3⟩, b3⟩)
    · exact absurd hl (by omega)
    · have A3 := A1.trans (b3.mono sz)
      have E3 := E1.but b3 E1.lt (by omega)
      have G3 := G1.butB H1 (by decide) b3 (Nat.le_refl _)
      clear HT E1 G1 H1 A1 b3
      generalize hdd : eat c.wait 0 = d at *
      have HDD := Lib.hid hdd
      clear hdd
      have A4 := A3.alloc A3.size (.cells #[.int .i64 d.who, .int .i64 d.seq, .int .i64 d.op.kind, .int .i64 d.op.id, .int .i64 d.op.up, .int .i64 d.op.at_, .string d.op.txt] 55)
      have E4 := E3.alloc (.cells #[.int .i64 d.who, .int .i64 d.seq, .int .i64 d.op.kind, .int .i64 d.op.id, .int .i64 d.op.up, .int .i64 d.op.at_, .string d.op.txt] 55)
      have G4 := G3.below ((Below.refl w3.heap.size w3).alloc (Nat.le_refl _) (.cells #[.int .i64 d.who, .int .i64 d.seq, .int .i64 d.op.kind, .int .i64 d.op.id, .int .i64 d.op.up, .int .i64 d.op.at_, .string d.op.txt] 55)) (Nat.le_refl _)
      have H4 := H3.alloc (.cells #[.int .i64 d.who, .int .i64 d.seq, .int .i64 d.op.kind, .int .i64 d.op.id, .int .i64 d.op.up, .int .i64 d.op.at_, .string d.op.txt] 55)
      have D4 := Bx.new w3 55 #[.int .i64 d.who, .int .i64 d.seq, .int .i64 d.op.kind, .int .i64 d.op.id, .int .i64 d.op.up, .int .i64 d.op.at_, .string d.op.txt]
      clear A3 E3 G3 H3
      go_upto_region 3 with fail
      generalize w3.alloc (.cells #[.int .i64 d.who, .int .i64 d.seq, .int .i64 d.op.kind, .int .i64 d.op.id, .int .i64 d.op.up, .int .i64 d.op.at_, .string d.op.txt] 55) = w4 at *
      generalize w3.heap.size = n3 at *
      have e0 := E4.cell 0 rfl
      have e1 := E4.cell 1 rfl
      have e2 := E4.cell 2 rfl
      have e3 := E4.cell 3 rfl
      have e4 := E4.cell 4 rfl
      have e5 := E4.cell 5 rfl
      have e6 := E4.cell 6 rfl
      have g0 := D4.cell 0 rfl
      have g1 := D4.cell 1 rfl
      have g2 := D4.cell 2 rfl
      have g3 := D4.cell 3 rfl
      have g4 := D4.cell 4 rfl
      have g5 := D4.cell 5 rfl
      have g6 := D4.cell 6 rfl
      have hde : e = d := HSM.out.symm
      clear HSM HDD
      subst hde
      go_upto_region 5 with fail
      clear e0 e1 e2 e3 e4 e5 e6 g0 g1 g2 g3 g4 g5 g6 D4
      have f0 := E4.cell 0 rfl
      have f1 := E4.cell 1 rfl
      have f2 := E4.cell 2 rfl
      have f3 := E4.cell 3 rfl
      have f4 := E4.cell 4 rfl
      have f5 := E4.cell 5 rfl
      have f6 := E4.cell 6 rfl
      have htw : Tab w4.drew := fun i hi => by rw [A4.drew.cell (p := ⟨0, i, none⟩) hz hB0]; exact ht i hi
      have sz := A4.size
      have HA := Lib.hid (apply_any B 2 xa xc c.base e w4.drew (H4.drew.cell 2 V3.rows) (H4.drew.frozen 2) H4.drew.lt G4.drew'.rows (tree_fits htr) ho htw)
      rw [doT_ok htr hop] at HA
      generalize hR : doR c.base e.op = R at *
      have HR := Lib.hid hR
      clear hR
      go_upto_region 5 with fail
      go_region_with ((go_at_call 74; (refine HA.out.mono ?_); rintro _ w8 ⟨rfl, za, zc, w7, rfl, own7, hz1, hz2, b7⟩))
      all_goals
        have H7 := H4.drew.below b7 H4.drew.lt
        have H8 : Bx (w7.setCell ⟨B, 2, none⟩ (.slice za R.length zc)) B 60 (cs3.setIfInBounds 2 (.slice za R.length zc)) := H7.put 2 _
        have G8 : Got base (w7.setCell ⟨B, 2, none⟩ (.slice za R.length zc)) za R := ((got_own own7).base (Nat.le_trans hb sz)).putB H7 (by decide) _
        have A8 : But B w.heap.size w (w7.setCell ⟨B, 2, none⟩ (.slice za R.length zc)) := (A4.drew.trans (But.of_below (b7.mono sz))).setCell _ _
        have V8 := (V3).rowsSet (.slice za R.length zc) rfl R
        clear HA f0 f1 f2 f3 f4 f5 f6 htw H7 own7 b7
        generalize w7.setCell ⟨B, 2, none⟩ (.slice za R.length zc) = w9 at *
        have s1 := H8.cell 1 V8.seen
        have s2 := H8.frozen 1
        have H9 : Bx (w9.setCell ⟨B, 1, none⟩ (.int .i64 (c.seen + 1))) B 60 ((cs3.setIfInBounds 2 (.slice za R.length zc)).setIfInBounds 1 (.int .i64 (c.seen + 1))) := H8.put 1 _
        have V9 := V8.seenSet (c.seen + 1)
        have G9 : Got base (w9.setCell ⟨B, 1, none⟩ (.int .i64 (c.seen + 1))) za R := G8.putB H8 (by decide) _
        have A9 := A8.setCell 1 (.int .i64 (c.seen + 1))
        have HF : Hid (RetH B base c e w (.returned (.bool true)) (w9.setCell ⟨B, 1, none⟩ (.int .i64 (c.seen + 1)))) := by
          refine ⟨A9, .inr ⟨HOK.out, rfl, _, (f + 1), za, zc, H9, ?_⟩⟩
          rw [HH.out]; exact ⟨V9, by show ((f + 1 : Nat) : Int) - 1 = c.done + 1; omega, by show f + 1 + (c.wait.drop 1).length ≤ 41; rw [List.length_drop]; omega, G9, hz1, hz2⟩
        clear H8 H9 V8 V9 G8 G9 A8 A9
        go_wp2
        go_ret
        exact HF.out
theorem hear_desk (B base : Nat) (cs : Array Value) (c : CliD) (e : EntD) (f : Nat) (xa : Option Addr) (xc : Nat) (w : World) (h : Bx w B 60 cs) (hd : DeskV cs c (.slice xa c.base.length xc) f) (hf : f + c.wait.length ≤ 41) (hfd : (f : Int) - 1 = c.done) (hs : 0 ≤ c.seen ∧ c.seen ≤ 1000) (hG : Got base w xa c.base) (hb : base ≤ w.heap.size) (htr : treeB c.base = true) (hop : opokB e.op = true) (ho : OpFit e.op) (ht : Tab w) (hB0 : 0 ≠ B) :
    Calls Tryd.prog 54 #[.pointer (some ⟨B, 0, none⟩), .agg #[.int .i64 e.who, .int .i64 e.seq, .int .i64 e.op.kind, .int .i64 e.op.id, .int .i64 e.op.up, .int .i64 e.op.at_, .string e.op.txt]] w (RetH B base c e w) := by
  by_cases hw : e.who = c.who
  · by_cases hl : 0 < c.wait.length
    · cases hsm : sameB (eat c.wait 0) e
      · exact hear_diff B base cs c e f xa xc w h hd hf hfd hs hG hb htr hop ho ht hB0 hw hl hsm
      · exact hear_own B base cs c e f xa xc w h hd hf hfd hs hG hb htr hop ho ht hB0 hw hl (sameB_iff.1 hsm)
    · exact hear_none B base cs c e f xa xc w h hd hf hfd hs hG hb htr hop ho ht hB0 hw (by omega)
  · exact hear_other B base cs c e f xa xc w h hd hf hfd hs hG hb htr hop ho ht hB0 hw
end Go.Proofs.YtogafpfgdonlmaaDoor
