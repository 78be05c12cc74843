/-
  Contract of the program's (*ring).take. Conditions: as each theorem says.
-/
import Derived.Test.YtogafpfgdonlmaaDoorJRing
namespace Go.Proofs.YtogafpfgdonlmaaDoor
open Go.ChangeShapes Go.WideShapes Go.ChangeAt Go.RowKit Go.Joins

theorem below_given7 {N r : Nat} {w w' : World} (h : Below N w w') (hr : N ≤ r) (v0 v1 v2 v3 v4 v5 v6 : Value) : Below N w (((((((w'.setCell ⟨r, 0, none⟩ v0).setCell ⟨r, 1, none⟩ v1).setCell ⟨r, 2, none⟩ v2).setCell ⟨r, 3, none⟩ v3).setCell ⟨r, 4, none⟩ v4).setCell ⟨r, 5, none⟩ v5).setCell ⟨r, 6, none⟩ v6) := Below.setCell (Below.setCell (Below.setCell (Below.setCell (Below.setCell (Below.setCell (Below.setCell h (p := ⟨r, 0, none⟩) hr v0) (p := ⟨r, 1, none⟩) hr v1) (p := ⟨r, 2, none⟩) hr v2) (p := ⟨r, 3, none⟩) hr v3) (p := ⟨r, 4, none⟩) hr v4) (p := ⟨r, 5, none⟩) hr v5) (p := ⟨r, 6, none⟩) hr v6
def RetTake (B : Nat) (c : CliD) (v : Value) (f : Nat) (w : World) (r : Ending) (w' : World) : Prop :=
  (c.wait.length = 0 ∧ r = .returned (.tuple #[.agg #[.int .i64 0, .int .i64 0, .int .i64 0, .int .i64 0, .int .i64 0, .int .i64 0, .string ⟨#[]⟩], .bool false]) ∧ Below w.heap.size w w') ∨
  (0 < c.wait.length ∧ r = .returned (.tuple #[.agg #[.int .i64 (eat c.wait 0).who, .int .i64 (eat c.wait 0).seq, .int .i64 (eat c.wait 0).op.kind, .int .i64 (eat c.wait 0).op.id, .int .i64 (eat c.wait 0).op.up, .int .i64 (eat c.wait 0).op.at_, .string (eat c.wait 0).op.txt], .bool true]) ∧ (∃ cs', Bx w' B 60 cs' ∧ DeskV cs' ⟨c.who, c.seen, c.base, c.wait.drop 1, c.done + 1, c.made⟩ v (f + 1)) ∧ But B w.heap.size w w')
set_option maxRecDepth 100000 in
set_option maxHeartbeats 4000000 in
theorem take_ring_none (B : Nat) (cs : Array Value) (c : CliD) (v : Value) (f : Nat) (w : World) (h : Bx w B 60 cs) (hd : DeskV cs c v f) (hl : c.wait.length = 0) :
    Calls Tryd.prog 73 #[.pointer (some ⟨B, 3, none⟩)] w (RetTake B c v f w) := by
  have HL := Lib.hid hl
  have H1 := h.alloc (.cells #[.int .i64 0, .int .i64 0, .int .i64 0, .int .i64 0, .int .i64 0, .int .i64 0, .string ⟨#[]⟩] 55)
  have R0 := Bx.new w 55 #[.int .i64 0, .int .i64 0, .int .i64 0, .int .i64 0, .int .i64 0, .int .i64 0, .string ⟨#[]⟩]
  have al := (Below.refl w.heap.size w).alloc (Nat.le_refl _) (.cells #[.int .i64 0, .int .i64 0, .int .i64 0, .int .i64 0, .int .i64 0, .int .i64 0, .string ⟨#[]⟩] 55)
  have x1 := H1.cell 283 hd.first
  have hend := hd.end_
  rw [hl, Nat.add_zero] at hend
  have x2 := H1.cell 284 hend
  clear h hl hend H1
  go_enter Tryd.func73, Tryd.ntmps73
  go_upto_region 1 with fail
  generalize w.alloc (.cells #[.int .i64 0, .int .i64 0, .int .i64 0, .int .i64 0, .int .i64 0, .int .i64 0, .string ⟨#[]⟩] 55) = w1 at *
  go_region
  all_goals
    have R1 := R0.drew
    have al1 := al.drew
    generalize w1.drew = w2 at *
    have d0 := R1.cell 0 rfl
    have d1 := R1.cell 1 rfl
    have d2 := R1.cell 2 rfl
    have d3 := R1.cell 3 rfl
    have d4 := R1.cell 4 rfl
    have d5 := R1.cell 5 rfl
    have d6 := R1.cell 6 rfl
    have y0 := R1.frozen 0
    have y1 := R1.frozen 1
    have y2 := R1.frozen 2
    have y3 := R1.frozen 3
    have y4 := R1.frozen 4
    have y5 := R1.frozen 5
    have y6 := R1.frozen 6
    clear R0 R1 al x1 x2
    go_wp2
    exact bodyPost_ret (v := .tuple #[.agg #[.int .i64 0, .int .i64 0, .int .i64 0, .int .i64 0, .int .i64 0, .int .i64 0, .string ⟨#[]⟩], .bool false]) (by simp [results, Tryd.results73, go_sem, d0, d1, d2, d3, d4, d5, d6]) rfl (.inl ⟨HL.out, rfl, below_given7 al1 (Nat.le_refl _) _ _ _ _ _ _ _⟩)
set_option maxRecDepth 100000 in
set_option maxHeartbeats 4000000 in
theorem take_ring_some (B : Nat) (cs : Array Value) (c : CliD) (v : Value) (f : Nat) (w : World) (h : Bx w B 60 cs) (hd : DeskV cs c v f) (hl : 0 < c.wait.length) (hf : f + c.wait.length ≤ 41) :
    Calls Tryd.prog 73 #[.pointer (some ⟨B, 3, none⟩)] w (RetTake B c v f w) := by
  have HL := Lib.hid hl
  have HD0 := hd.take hl
  rw [show ((f + 1 : Nat) : Int) = (f : Int) + 1 by omega] at HD0
  have HD := Lib.hid HD0
  clear HD0
  have H1 := h.alloc (.cells #[.int .i64 0, .int .i64 0, .int .i64 0, .int .i64 0, .int .i64 0, .int .i64 0, .string ⟨#[]⟩] 55)
  have R0 := Bx.new w 55 #[.int .i64 0, .int .i64 0, .int .i64 0, .int .i64 0, .int .i64 0, .int .i64 0, .string ⟨#[]⟩]
  have al : But B w.heap.size w (w.alloc (.cells #[.int .i64 0, .int .i64 0, .int .i64 0, .int .i64 0, .int .i64 0, .int .i64 0, .string ⟨#[]⟩] 55)) := (But.refl B w.heap.size w).alloc (Nat.le_refl _) _
  have x1 := H1.cell 283 hd.first
  have x2 := H1.cell 284 hd.end_
  have hrng : ∀ j, j < 7 → cs[slotAt f + j]? = some (ecell (eat c.wait 0) j) := fun j hj => hd.ring 0 hl j hj
  have hlt := h.lt
  have hne : ¬ (f : Int) = ((f + c.wait.length : Nat) : Int) := by omega
  have hs : f ≤ 1000 := by omega
  have i1 : (f : Int) ≤ 41 := by omega
  generalize f + c.wait.length = s at *
  generalize he0 : eat c.wait 0 = e at *
  have HE0 := Lib.hid he0
  clear he0
  go_enter Tryd.func73, Tryd.ntmps73
  go_upto_region 1 with fail
  generalize w.alloc (.cells #[.int .i64 0, .int .i64 0, .int .i64 0, .int .i64 0, .int .i64 0, .int .i64 0, .string ⟨#[]⟩] 55) = w1 at *
  go_region
  all_goals
    have H2 := H1.drew
    have R2 := R0.drew
    have al2 := al.drew
    generalize w1.drew = w2 at *
    clear x1 x2 H1 R0 al
    have x1 := H2.cell 283 hd.first
    have r0 : w2.cell? ⟨B, slotAt f, none⟩ = some (.int .i64 e.who) := H2.cell (slotAt f) (hrng 0 (by decide))
    have r1 : w2.cell? ⟨B, slotAt f + 1, none⟩ = some (.int .i64 e.seq) := H2.cell (slotAt f + 1) (hrng 1 (by decide))
    have r2 : w2.cell? ⟨B, slotAt f + 2, none⟩ = some (.int .i64 e.op.kind) := H2.cell (slotAt f + 2) (hrng 2 (by decide))
    have r3 : w2.cell? ⟨B, slotAt f + 3, none⟩ = some (.int .i64 e.op.id) := H2.cell (slotAt f + 3) (hrng 3 (by decide))
    have r4 : w2.cell? ⟨B, slotAt f + 4, none⟩ = some (.int .i64 e.op.up) := H2.cell (slotAt f + 4) (hrng 4 (by decide))
    have r5 : w2.cell? ⟨B, slotAt f + 5, none⟩ = some (.int .i64 e.op.at_) := H2.cell (slotAt f + 5) (hrng 5 (by decide))
    have r6 : w2.cell? ⟨B, slotAt f + 6, none⟩ = some (.string e.op.txt) := H2.cell (slotAt f + 6) (hrng 6 (by decide))
    have HR := Lib.hid hrng
    clear hrng
    have H3 := H2.alloc (.cells #[.int .i64 e.who, .int .i64 e.seq, .int .i64 e.op.kind, .int .i64 e.op.id, .int .i64 e.op.up, .int .i64 e.op.at_, .string e.op.txt] 55)
    have R3 := R2.alloc (.cells #[.int .i64 e.who, .int .i64 e.seq, .int .i64 e.op.kind, .int .i64 e.op.id, .int .i64 e.op.up, .int .i64 e.op.at_, .string e.op.txt] 55)
    have E3 := Bx.new w2 55 #[.int .i64 e.who, .int .i64 e.seq, .int .i64 e.op.kind, .int .i64 e.op.id, .int .i64 e.op.up, .int .i64 e.op.at_, .string e.op.txt]
    have al3 := al2.alloc al2.size (.cells #[.int .i64 e.who, .int .i64 e.seq, .int .i64 e.op.kind, .int .i64 e.op.id, .int .i64 e.op.up, .int .i64 e.op.at_, .string e.op.txt] 55)
    have hle := al2.size
    have hlt2 := H2.lt
    have hr2 := R2.lt
    go_upto_region 4 with ((go_at_call 61; refine (slot_any B f _ hs).mono ?_; rintro _ _ ⟨rfl, rfl⟩))
    generalize w2.alloc (.cells #[.int .i64 e.who, .int .i64 e.seq, .int .i64 e.op.kind, .int .i64 e.op.id, .int .i64 e.op.up, .int .i64 e.op.at_, .string e.op.txt] 55) = w3 at *
    generalize w2.heap.size = n2 at *
    clear x1 H2 R2 al2 r0 r1 r2 r3 r4 r5 r6
    have x1 := H3.cell 283 hd.first
    have z1 := H3.frozen 283
    have H4 : Bx (w3.setCell ⟨B, 283, none⟩ (.int .i64 ((f : Int) + 1))) B 60 (cs.setIfInBounds 283 (.int .i64 ((f : Int) + 1))) := H3.put _ _
    have E4 : Bx (w3.setCell ⟨B, 283, none⟩ (.int .i64 ((f : Int) + 1))) n2 55 #[.int .i64 e.who, .int .i64 e.seq, .int .i64 e.op.kind, .int .i64 e.op.id, .int .i64 e.op.up, .int .i64 e.op.at_, .string e.op.txt] := E3.other (by omega) _
    have R4 : Bx (w3.setCell ⟨B, 283, none⟩ (.int .i64 ((f : Int) + 1))) w.heap.size 55 #[.int .i64 0, .int .i64 0, .int .i64 0, .int .i64 0, .int .i64 0, .int .i64 0, .string ⟨#[]⟩] := R3.other (by omega) _
    have al4 : But B w.heap.size w (w3.setCell ⟨B, 283, none⟩ (.int .i64 ((f : Int) + 1))) := al3.setCell _ _
    go_upto_region 5 with fail
    generalize w3.setCell ⟨B, 283, none⟩ (.int .i64 ((f : Int) + 1)) = w4 at *
    clear x1 z1 H3 E3 R3 al3
    have e0 := E4.cell 0 rfl
    have e1 := E4.cell 1 rfl
    have e2 := E4.cell 2 rfl
    have e3 := E4.cell 3 rfl
    have e4 := E4.cell 4 rfl
    have e5 := E4.cell 5 rfl
    have e6 := E4.cell 6 rfl
    have d0 := R4.cell 0 rfl
    have d1 := R4.cell 1 rfl
    have d2 := R4.cell 2 rfl
    have d3 := R4.cell 3 rfl
    have d4 := R4.cell 4 rfl
    have d5 := R4.cell 5 rfl
    have d6 := R4.cell 6 rfl
    have y0 := R4.frozen 0
    have y1 := R4.frozen 1
    have y2 := R4.frozen 2
    have y3 := R4.frozen 3
    have y4 := R4.frozen 4
    have y5 := R4.frozen 5
    have y6 := R4.frozen 6
    have H5 : ∀ v0 v1 v2 v3 v4 v5 v6, Bx (((((((w4.setCell ⟨w.heap.size, 0, none⟩ v0).setCell ⟨w.heap.size, 1, none⟩ v1).setCell ⟨w.heap.size, 2, none⟩ v2).setCell ⟨w.heap.size, 3, none⟩ v3).setCell ⟨w.heap.size, 4, none⟩ v4).setCell ⟨w.heap.size, 5, none⟩ v5).setCell ⟨w.heap.size, 6, none⟩ v6) B 60 (cs.setIfInBounds 283 (.int .i64 ((f : Int) + 1))) := fun v0 v1 v2 v3 v4 v5 v6 =>
      ((((((H4.other (by omega) v0).other (by omega) v1).other (by omega) v2).other (by omega) v3).other (by omega) v4).other (by omega) v5).other (by omega) v6
    have al5 : ∀ v0 v1 v2 v3 v4 v5 v6, But B w.heap.size w (((((((w4.setCell ⟨w.heap.size, 0, none⟩ v0).setCell ⟨w.heap.size, 1, none⟩ v1).setCell ⟨w.heap.size, 2, none⟩ v2).setCell ⟨w.heap.size, 3, none⟩ v3).setCell ⟨w.heap.size, 4, none⟩ v4).setCell ⟨w.heap.size, 5, none⟩ v5).setCell ⟨w.heap.size, 6, none⟩ v6) := fun v0 v1 v2 v3 v4 v5 v6 =>
      ((((((al4.setNew (p := ⟨_, 0, none⟩) (Nat.le_refl _) v0).setNew (p := ⟨_, 1, none⟩) (Nat.le_refl _) v1).setNew (p := ⟨_, 2, none⟩) (Nat.le_refl _) v2).setNew (p := ⟨_, 3, none⟩) (Nat.le_refl _) v3).setNew (p := ⟨_, 4, none⟩) (Nat.le_refl _) v4).setNew (p := ⟨_, 5, none⟩) (Nat.le_refl _) v5).setNew (p := ⟨_, 6, none⟩) (Nat.le_refl _) v6
    have H6 := Lib.hid H5
    have al6 := Lib.hid al5
    have HRT : Hid (∀ w', (Bx w' B 60 (cs.setIfInBounds 283 (.int .i64 ((f : Int) + 1)))) → But B w.heap.size w w' → RetTake B c v f w (.returned (.tuple #[.agg #[.int .i64 e.who, .int .i64 e.seq, .int .i64 e.op.kind, .int .i64 e.op.id, .int .i64 e.op.up, .int .i64 e.op.at_, .string e.op.txt], .bool true])) w') := fun w' q1 q2 => .inr ⟨HL.out, by rw [HE0.out], ⟨_, q1, HD.out⟩, q2⟩
    clear H4 E4 R4 al4 H5 al5 HR
    go_wp2
    exact bodyPost_ret (v := .tuple #[.agg #[.int .i64 e.who, .int .i64 e.seq, .int .i64 e.op.kind, .int .i64 e.op.id, .int .i64 e.op.up, .int .i64 e.op.at_, .string e.op.txt], .bool true]) (by simp [results, Tryd.results73, go_sem, d0, d1, d2, d3, d4, d5, d6]) rfl (HRT.out _ (H6.out _ _ _ _ _ _ _) (al6.out _ _ _ _ _ _ _))
theorem take_ring (B : Nat) (cs : Array Value) (c : CliD) (v : Value) (f : Nat) (w : World) (h : Bx w B 60 cs) (hd : DeskV cs c v f) (hf : f + c.wait.length ≤ 41) :
    Calls Tryd.prog 73 #[.pointer (some ⟨B, 3, none⟩)] w (RetTake B c v f w) := by
  rcases Nat.eq_zero_or_pos c.wait.length with q | q
  · exact take_ring_none B cs c v f w h hd q
  · exact take_ring_some B cs c v f w h hd q hf
end Go.Proofs.YtogafpfgdonlmaaDoor
