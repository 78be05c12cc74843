/-
  Contracts of the program's ring: slot, put, take, each. Conditions: as each theorem says.
-/
import Derived.Test.YtogafpfgdonlmaaDoorJDeskM
namespace Go.Proofs.YtogafpfgdonlmaaDoor
open Go.ChangeShapes Go.WideShapes Go.ChangeAt Go.RowKit Go.Joins

theorem slot_any (B s : Nat) (w : World) (hs : s ≤ 1000) :
    Calls Tryd.prog 61 #[.pointer (some ⟨B, 3, none⟩), .int .i64 (s : Int)] w (fun e w' => e = .returned (.pointer (some ⟨B, slotAt s, none⟩)) ∧ w = w') := by
  have h1 : (0 : Int) ≤ (s : Int) % 40 := by omega
  have h2 : (s : Int) % 40 < 40 := by omega
  have h3 : ((s : Int) % 40).toNat = s % 40 := by omega
  have h0 : (0 : Int) ≤ (s : Int) := by omega
  have HS : Hid (slotAt s = 3 + s % 40 * 7) := rfl
  have HB : Hid (((s : Int) % 40).toNat = s % 40) := h3
  clear h3
  go_enter Tryd.func61, Tryd.ntmps61
  go_wp2
  go_ret
  refine ⟨?_, rfl⟩
  rw [HS.out, ← HB.out]; rfl
def RetRPut (B : Nat) (c : CliD) (v : Value) (f : Nat) (e : EntD) (w : World) (r : Ending) (w' : World) : Prop :=
  r = .returned (.tuple #[]) ∧ ∃ cs', Bx w' B 60 cs' ∧ DeskV cs' ⟨c.who, c.seen, c.base, c.wait ++ [e], c.done, c.made⟩ v f ∧ But B w.heap.size w w'
set_option maxRecDepth 100000 in
set_option maxHeartbeats 2000000 in
theorem put_ring (B : Nat) (cs : Array Value) (c : CliD) (v : Value) (f : Nat) (e : EntD) (w : World) (h : Bx w B 60 cs) (hd : DeskV cs c v f) (hl : c.wait.length < 40) (hf : f ≤ 41) :
    Calls Tryd.prog 47 #[.pointer (some ⟨B, 3, none⟩), .agg #[.int .i64 e.who, .int .i64 e.seq, .int .i64 e.op.kind, .int .i64 e.op.id, .int .i64 e.op.up, .int .i64 e.op.at_, .string e.op.txt]] w (RetRPut B c v f e w) := by
  have HD := Lib.hid (hd.put e hl)
  have H1 := h.alloc (.cells #[.int .i64 e.who, .int .i64 e.seq, .int .i64 e.op.kind, .int .i64 e.op.id, .int .i64 e.op.up, .int .i64 e.op.at_, .string e.op.txt] 55)
  have E0 := Bx.new w 55 #[.int .i64 e.who, .int .i64 e.seq, .int .i64 e.op.kind, .int .i64 e.op.id, .int .i64 e.op.up, .int .i64 e.op.at_, .string e.op.txt]
  have hlt := h.lt
  have x1 := H1.cell 284 hd.end_
  have al : But B w.heap.size w (w.alloc (.cells #[.int .i64 e.who, .int .i64 e.seq, .int .i64 e.op.kind, .int .i64 e.op.id, .int .i64 e.op.up, .int .i64 e.op.at_, .string e.op.txt] 55)) := (But.refl B w.heap.size w).alloc (Nat.le_refl _) _
  have hne : B ≠ w.heap.size := Nat.ne_of_lt hlt
  have hs : f + c.wait.length ≤ 1000 := by omega
  have hend := hd.end_
  generalize f + c.wait.length = s at *
  have HD2 := HD.out
  rw [show ((s + 1 : Nat) : Int) = (s : Int) + 1 by omega] at HD2
  have HD3 := Lib.hid HD2
  clear HD HD2
  clear h
  go_enter Tryd.func47, Tryd.ntmps47
  go_upto_region 1 with fail
  generalize w.alloc (.cells #[.int .i64 e.who, .int .i64 e.seq, .int .i64 e.op.kind, .int .i64 e.op.id, .int .i64 e.op.up, .int .i64 e.op.at_, .string e.op.txt] 55) = w1 at *
  generalize hn0 : w.heap.size = n0 at *
  have HN0 := Lib.hid hn0
  clear hn0
  have e0 := E0.cell 0 rfl
  have e1 := E0.cell 1 rfl
  have e2 := E0.cell 2 rfl
  have e3 := E0.cell 3 rfl
  have e4 := E0.cell 4 rfl
  have e5 := E0.cell 5 rfl
  have e6 := E0.cell 6 rfl
  have HQ : ∀ j, j < 7 → ∃ u, w1.cell? ⟨B, slotAt s + j, none⟩ = some u := fun j hj => by
    have h2 := slot_hi s
    have h3 := hd.size
    exact ⟨_, H1.cell (slotAt s + j) (Array.getElem?_eq_getElem (by omega))⟩
  obtain ⟨u0, q0⟩ := HQ 0 (by decide)
  obtain ⟨u1, q1⟩ := HQ 1 (by decide)
  obtain ⟨u2, q2⟩ := HQ 2 (by decide)
  obtain ⟨u3, q3⟩ := HQ 3 (by decide)
  obtain ⟨u4, q4⟩ := HQ 4 (by decide)
  obtain ⟨u5, q5⟩ := HQ 5 (by decide)
  obtain ⟨u6, q6⟩ := HQ 6 (by decide)
  rw [Nat.add_zero] at q0
  have g0 := H1.frozen (slotAt s)
  have g1 := H1.frozen (slotAt s + 1)
  have g2 := H1.frozen (slotAt s + 2)
  have g3 := H1.frozen (slotAt s + 3)
  have g4 := H1.frozen (slotAt s + 4)
  have g5 := H1.frozen (slotAt s + 5)
  have g6 := H1.frozen (slotAt s + 6)
  clear HQ
  go_region_with ((go_at_call 61; refine (slot_any B s _ hs).mono ?_; rintro _ _ ⟨rfl, rfl⟩))
  all_goals
    clear q0 q1 q2 q3 q4 q5 q6 g0 g1 g2 g3 g4 g5 g6 e0 e1 e2 e3 e4 e5 e6
    have X2 : Bx (((((((w1.setCell ⟨B, slotAt s, none⟩ (.int .i64 e.who)).setCell ⟨B, slotAt s + 1, none⟩ (.int .i64 e.seq)).setCell ⟨B, slotAt s + 2, none⟩ (.int .i64 e.op.kind)).setCell ⟨B, slotAt s + 3, none⟩ (.int .i64 e.op.id)).setCell ⟨B, slotAt s + 4, none⟩ (.int .i64 e.op.up)).setCell ⟨B, slotAt s + 5, none⟩ (.int .i64 e.op.at_)).setCell ⟨B, slotAt s + 6, none⟩ (.string e.op.txt)).drew B 60 (laySlot cs (slotAt s) e) := ((((((((H1.put _ _).put _ _).put _ _).put _ _).put _ _).put _ _).put _ _).drew)
    have al2 : But B n0 w (((((((w1.setCell ⟨B, slotAt s, none⟩ (.int .i64 e.who)).setCell ⟨B, slotAt s + 1, none⟩ (.int .i64 e.seq)).setCell ⟨B, slotAt s + 2, none⟩ (.int .i64 e.op.kind)).setCell ⟨B, slotAt s + 3, none⟩ (.int .i64 e.op.id)).setCell ⟨B, slotAt s + 4, none⟩ (.int .i64 e.op.up)).setCell ⟨B, slotAt s + 5, none⟩ (.int .i64 e.op.at_)).setCell ⟨B, slotAt s + 6, none⟩ (.string e.op.txt)).drew := (((((((al.setCell _ _).setCell _ _).setCell _ _).setCell _ _).setCell _ _).setCell _ _).setCell _ _).drew
    generalize (((((((w1.setCell ⟨B, slotAt s, none⟩ (.int .i64 e.who)).setCell ⟨B, slotAt s + 1, none⟩ (.int .i64 e.seq)).setCell ⟨B, slotAt s + 2, none⟩ (.int .i64 e.op.kind)).setCell ⟨B, slotAt s + 3, none⟩ (.int .i64 e.op.id)).setCell ⟨B, slotAt s + 4, none⟩ (.int .i64 e.op.up)).setCell ⟨B, slotAt s + 5, none⟩ (.int .i64 e.op.at_)).setCell ⟨B, slotAt s + 6, none⟩ (.string e.op.txt)).drew = w2 at *
    have y := X2.cell 284 (by rw [lay_out _ _ _ _ (by have := slot_hi s; omega)]; exact hend)
    have z := X2.frozen 284
    clear H1 al E0 x1
    go_wp2
    go_end0
    exact ⟨rfl, _, X2.put 284 _, HD3.out, HN0.out ▸ al2.setCell _ _⟩
end Go.Proofs.YtogafpfgdonlmaaDoor
