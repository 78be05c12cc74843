/-
  Contracts of the program's (*outline).apply, of (*ring).each with it as its visit, and of (*desk).show. Conditions: as each theorem says.
-/
import Derived.Test.YtogafpfgdonlmaaDoorJRing3
import Derived.Test.YtogafpfgdonlmaaDoorGM
namespace Go.Proofs.YtogafpfgdonlmaaDoor
open Go.ChangeShapes Go.WideShapes Go.ChangeAt Go.RowKit Go.Joins

/-- Rows of the call's own under a write to a box of another type. -/
theorem Got.putB {base B j : Nat} {w : World} {a : Option Addr} {rs : List RowD} {t : TypeId} {cs : Array Value} (h : Got base w a rs) (hB : Bx w B t cs) (ht : t ≠ 82) (v : Value) : Got base (w.setCell ⟨B, j, none⟩ v) a rs := by
  rcases h with h | ⟨g, C, e, hg, f, ⟨cur, h1, h1'⟩, h2⟩
  · exact .inl h
  · refine .inr ⟨g, C, e, hg, f, World.rowIs.of_block ⟨cur, h1, h1'⟩ (Below.heap_setCell _ _ _ _ (fun q => ?_)), h2⟩
    subst q
    rw [show w.heap[g]? = _ from hB] at h1
    simp only [Option.some.injEq, Obj.cells.injEq] at h1
    exact ht h1.2.1
/-- What apply leaves: the rows behind the change, of the call's own, where the outline's rows are kept. -/
def RetApply (X o : Nat) (rs : List RowD) (w : World) (r : Ending) (w' : World) : Prop :=
  r = .returned (.tuple #[]) ∧ ∃ a cap w1, w' = w1.setCell ⟨X, o, none⟩ (.slice a rs.length cap) ∧ w1.ownsRow w.heap.size 82 3 (.slice a rs.length cap) rs.length (cellsL rs) ∧ rs.length ≤ cap ∧ cap ≤ maxLen ∧ Below w.heap.size w w1
set_option maxRecDepth 100000 in
set_option maxHeartbeats 2000000 in
theorem apply_any (X o : Nat) (a : Option Addr) (cap : Nat) (rs : List RowD) (e : EntD) (w : World) (hc : w.cell? ⟨X, o, none⟩ = some (.slice a rs.length cap)) (hfr : w.frozen? ⟨X, o, none⟩ = false) (hX : X < w.heap.size) (h : RowsAt w.heap.size w a rs) (hf : Fit rs) (ho : OpFit e.op) (ht : Tab w) :
    Calls Tryd.prog 74 #[.pointer (some ⟨X, o, none⟩), .agg #[.int .i64 e.who, .int .i64 e.seq, .int .i64 e.op.kind, .int .i64 e.op.id, .int .i64 e.op.up, .int .i64 e.op.at_, .string e.op.txt]] w (RetApply X o (doT rs e.op) w) := by
  have hz := ht.pos
  have al := (Below.refl w.heap.size w).alloc (Nat.le_refl _) (.cells #[.int .i64 e.who, .int .i64 e.seq, .int .i64 e.op.kind, .int .i64 e.op.id, .int .i64 e.op.up, .int .i64 e.op.at_, .string e.op.txt] 55)
  have E1 := Bx.new w 55 #[.int .i64 e.who, .int .i64 e.seq, .int .i64 e.op.kind, .int .i64 e.op.id, .int .i64 e.op.up, .int .i64 e.op.at_, .string e.op.txt]
  have c1 := al.cell (p := ⟨X, o, none⟩) hX
  rw [hc] at c1
  have f1 := al.frozen (p := ⟨X, o, none⟩) hX
  rw [hfr] at f1
  have hs0 : w.heap.size < (w.alloc (.cells #[.int .i64 e.who, .int .i64 e.seq, .int .i64 e.op.kind, .int .i64 e.op.id, .int .i64 e.op.up, .int .i64 e.op.at_, .string e.op.txt] 55)).heap.size := by simp
  have HC : Hid (Calls Tryd.prog 79 #[.slice a rs.length cap, .agg #[.int .i64 e.op.kind, .int .i64 e.op.id, .int .i64 e.op.up, .int .i64 e.op.at_, .string e.op.txt]] (w.alloc (.cells #[.int .i64 e.who, .int .i64 e.seq, .int .i64 e.op.kind, .int .i64 e.op.id, .int .i64 e.op.up, .int .i64 e.op.at_, .string e.op.txt] 55)).drew (RetOwn (doT rs e.op) (w.alloc (.cells #[.int .i64 e.who, .int .i64 e.seq, .int .i64 e.op.kind, .int .i64 e.op.id, .int .i64 e.op.up, .int .i64 e.op.at_, .string e.op.txt] 55)).drew)) := implOpDo_any w.heap.size a cap rs e.op _ al.drew.size (h.below al.drew) hf ho (ht.below al.drew hz)
  have al1 := al.drew
  have HW : Hid (∀ x, Below (w.alloc (.cells #[.int .i64 e.who, .int .i64 e.seq, .int .i64 e.op.kind, .int .i64 e.op.id, .int .i64 e.op.up, .int .i64 e.op.at_, .string e.op.txt] 55)).drew.heap.size (w.alloc (.cells #[.int .i64 e.who, .int .i64 e.seq, .int .i64 e.op.kind, .int .i64 e.op.id, .int .i64 e.op.up, .int .i64 e.op.at_, .string e.op.txt] 55)).drew x → x.cell? ⟨X, o, none⟩ = some (.slice a rs.length cap) ∧ x.frozen? ⟨X, o, none⟩ = false) := fun x hx => by
    have hX2 : X < (w.alloc (.cells #[.int .i64 e.who, .int .i64 e.seq, .int .i64 e.op.kind, .int .i64 e.op.id, .int .i64 e.op.up, .int .i64 e.op.at_, .string e.op.txt] 55)).drew.heap.size := Nat.lt_trans hX (by simp)
    exact ⟨(hx.cell (p := ⟨X, o, none⟩) hX2).trans c1, (hx.frozen (p := ⟨X, o, none⟩) hX2).trans f1⟩
  have HS : Hid (w.heap.size < (w.alloc (.cells #[.int .i64 e.who, .int .i64 e.seq, .int .i64 e.op.kind, .int .i64 e.op.id, .int .i64 e.op.up, .int .i64 e.op.at_, .string e.op.txt] 55)).drew.heap.size) := by simp [Hid]
  generalize doT rs e.op = res at *
  clear hc hfr h al
  go_enter Tryd.func74, Tryd.ntmps74
  go_upto_region 1 with fail
  generalize w.alloc (.cells #[.int .i64 e.who, .int .i64 e.seq, .int .i64 e.op.kind, .int .i64 e.op.id, .int .i64 e.op.up, .int .i64 e.op.at_, .string e.op.txt] 55) = w1 at *
  have e2 := E1.cell 2 rfl
  have e3 := E1.cell 3 rfl
  have e4 := E1.cell 4 rfl
  have e5 := E1.cell 5 rfl
  have e6 := E1.cell 6 rfl
  go_region_with ((go_at_call 79; refine HC.out.mono ?_; rintro _ w2 ⟨ga, gc, rfl, own2, hg2, b2⟩; obtain ⟨k1, k2⟩ := HW.out _ b2))
  all_goals
    have b3 := al1.trans (b2.mono al1.size)
    obtain ⟨q1, q2⟩ := own_capm own2
    have own3 := own_mono own2 al1.size
    clear own2 HC HW E1 e2 e3 e4 e5 e6 c1 f1
    go_wp2
    go_end0
    exact ⟨rfl, ga, gc, _, rfl, own3, hg2, q2, b3⟩
def RetShow (X base : Nat) (rs : List RowD) (w : World) (r : Ending) (w' : World) : Prop := r = .returned (.tuple #[]) ∧ ∃ xa xc, Bx w' X 53 #[.slice xa rs.length xc] ∧ Got base w' xa rs ∧ rs.length ≤ xc ∧ xc ≤ maxLen ∧ But X w.heap.size w w'
set_option maxRecDepth 100000 in
set_option maxHeartbeats 4000000 in
theorem each_show (base B X : Nat) (cs : Array Value) (c : CliD) (v : Value) (f : Nat) (xa : Option Addr) (xc : Nat) (w : World) (h : Bx w B 60 cs) (hd : DeskV cs c v f) (hf : f + c.wait.length ≤ 41) (hX : Bx w X 53 #[.slice xa c.base.length xc]) (hne : B ≠ X) (hG : Got base w xa c.base) (hxc : c.base.length ≤ xc) (hxm : xc ≤ maxLen) (hb : base ≤ w.heap.size) (htr : treeB c.base = true) (hops : ∀ i, i < c.wait.length → opokB (eat c.wait i).op = true) (hfit : EntsFit c.wait) (ht : Tab w) (hX0 : 0 ≠ X) :
    Calls Tryd.prog 64 #[.pointer (some ⟨B, 3, none⟩), .func (.func 74) #[.pointer (some ⟨X, 0, none⟩)] #[]] w (RetShow X base (treeFrom c.base c.wait c.wait.length) w) := by
  have x1 := h.cell 283 hd.first
  have hXlt := hX.lt
  have hz := ht.pos
  have HTR := Lib.hid htr
  have HOP := Lib.hid hops
  have HFT := Lib.hid hfit
  clear htr hops hfit
  go_enter Tryd.func64, Tryd.ntmps64
  go_upto_region 1 with fail
  go_loopw [4] (fun t wr => ∃ (k : Nat) (ya : Option Addr) (yc : Nat) (rs : List RowD), k ≤ c.wait.length ∧ t = .int .i64 ((f + k : Nat) : Int) ∧ Bx wr X 53 #[.slice ya rs.length yc] ∧ Hid (rs = treeFrom c.base c.wait k) ∧ Got base wr ya rs ∧ rs.length ≤ yc ∧ yc ≤ maxLen ∧ But X w.heap.size w wr) (fun t _ => f + c.wait.length - (intOf t).toNat)
  case atStart => exact ⟨0, xa, xc, c.base, Nat.zero_le _, rfl, hX, rfl, hG, hxc, hxm, But.refl _ _ _⟩
  case round =>
    obtain ⟨k, ya, yc, rs, hk, rfl, X1, hrs, G1, hy1, hy2, b1⟩ := hrel
    have H1 : Bx wr B 60 cs := h.but b1 h.lt hne
    clear x1
    have x2 := H1.cell 284 hd.end_
    by_cases hlt : k < c.wait.length
    · have i1 : ((f + k : Nat) : Int) < ((f + c.wait.length : Nat) : Int) := by omega
      have hrng : ∀ j, j < 7 → cs[slotAt (f + k) + j]? = some (ecell (eat c.wait k) j) := fun j hj => hd.ring k hlt j hj
      have hs : f + k ≤ 1000 := by omega
      have hb1 := b1.size
      have HT : Hid (treeB rs = true) := by unfold Hid; rw [hrs.out]; exact treeFrom_ok HTR.out (fun i hi => HOP.out i (by omega))
      have HN : Hid (doT rs (eat c.wait k).op = treeFrom c.base c.wait (k + 1)) := by unfold Hid; rw [doT_ok HT.out (HOP.out k hlt), hrs.out]; rfl
      have htw : Tab wr := fun i hi => (b1.cell (p := ⟨0, i, none⟩) hz hX0).trans (ht i hi)
      have HC : Hid (Calls Tryd.prog 74 #[.pointer (some ⟨X, 0, none⟩), .agg #[.int .i64 (eat c.wait k).who, .int .i64 (eat c.wait k).seq, .int .i64 (eat c.wait k).op.kind, .int .i64 (eat c.wait k).op.id, .int .i64 (eat c.wait k).op.up, .int .i64 (eat c.wait k).op.at_, .string (eat c.wait k).op.txt]] wr (RetApply X 0 (doT rs (eat c.wait k).op) wr)) := apply_any X 0 ya yc rs (eat c.wait k) wr (X1.cell 0 rfl) (X1.frozen 0) X1.lt G1.rows (tree_fits HT.out) (HFT.out.2 k hlt).op htw
      generalize doT rs (eat c.wait k).op = res at *
      generalize eat c.wait k = e at *
      have r0 : wr.cell? ⟨B, slotAt (f + k), none⟩ = some (.int .i64 e.who) := H1.cell _ (hrng 0 (by decide))
      have r1 : wr.cell? ⟨B, slotAt (f + k) + 1, none⟩ = some (.int .i64 e.seq) := H1.cell _ (hrng 1 (by decide))
      have r2 : wr.cell? ⟨B, slotAt (f + k) + 2, none⟩ = some (.int .i64 e.op.kind) := H1.cell _ (hrng 2 (by decide))
      have r3 : wr.cell? ⟨B, slotAt (f + k) + 3, none⟩ = some (.int .i64 e.op.id) := H1.cell _ (hrng 3 (by decide))
      have r4 : wr.cell? ⟨B, slotAt (f + k) + 4, none⟩ = some (.int .i64 e.op.up) := H1.cell _ (hrng 4 (by decide))
      have r5 : wr.cell? ⟨B, slotAt (f + k) + 5, none⟩ = some (.int .i64 e.op.at_) := H1.cell _ (hrng 5 (by decide))
      have r6 : wr.cell? ⟨B, slotAt (f + k) + 6, none⟩ = some (.string e.op.txt) := H1.cell _ (hrng 6 (by decide))
      clear hrng
      go_wp2_with ((go_at_call 61; refine (slot_any B (f + k) _ hs).mono ?_; rintro _ _ ⟨rfl, rfl⟩))
      refine HC.out.mono ?_
      rintro _ w2 ⟨rfl, za, zc, w3, rfl, own3, hz1, hz2, b3⟩
      have X3 := X1.below b3 X1.lt
      have G3 : Got base (w3.setCell ⟨X, 0, none⟩ (.slice za res.length zc)) za res := ((got_own own3).base (Nat.le_trans hb hb1)).putB X3 (by decide) _
      have X4 : Bx (w3.setCell ⟨X, 0, none⟩ (.slice za res.length zc)) X 53 #[.slice za res.length zc] := X3.put 0 _
      have b4 : But X w.heap.size w (w3.setCell ⟨X, 0, none⟩ (.slice za res.length zc)) := (b1.trans (But.of_below (b3.mono hb1))).setCell _ _
      generalize w3.setCell ⟨X, 0, none⟩ (.slice za res.length zc) = w4 at *
      clear r0 r1 r2 r3 r4 r5 r6 x2 H1 X1 G1 b1 b3 own3 X3 hrs HT
      go_wp2
      go_roundw
      case rel => exact ⟨k + 1, za, zc, res, by omega, by go_num, X4, HN, G3, hz1, hz2, b4⟩
      case measure => simp [intOf]; omega
    · obtain rfl : k = c.wait.length := by omega
      have HE : Hid (RetShow X base (treeFrom c.base c.wait c.wait.length) w (.returned (.tuple #[])) wr) := by unfold Hid; rw [← hrs.out]; exact ⟨rfl, ya, yc, X1, G1, hy1, hy2, b1⟩
      clear hrs X1 G1 b1
      go_wp2
      go_end0
      exact HE.out
def RetGot (base : Nat) (rs : List RowD) (w : World) (r : Ending) (w' : World) : Prop := ∃ a cap, r = .returned (.slice a rs.length cap) ∧ Got base w' a rs ∧ rs.length ≤ cap ∧ cap ≤ maxLen ∧ Below w.heap.size w w'
end Go.Proofs.YtogafpfgdonlmaaDoor
