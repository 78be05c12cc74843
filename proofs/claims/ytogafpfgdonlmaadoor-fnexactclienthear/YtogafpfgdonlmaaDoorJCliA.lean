/-
  Clients in memory: what a client's slices hold, boxes of clients, what clients' functions give. Conditions: as each theorem says.
-/
import Derived.Test.YtogafpfgdonlmaaDoorJCliM
import Derived.Test.YtogafpfgdonlmaaDoorGS
import Derived.Test.YtogafpfgdonlmaaDoorGE
namespace Go.Proofs.YtogafpfgdonlmaaDoor
open Go.ChangeShapes Go.WideShapes Go.ChangeAt Go.RowKit Go.Joins

/-- Where the rows and the waiting entries of a client lie. -/
structure CliAt (B : Nat) (w : World) (c : CliD) (ba : Option Addr) (bc : Nat) (wa : Option Addr) (wc : Nat) : Prop where
  rows : RowsAt B w ba c.base
  ents : EntsAt B w wa c.wait
  bl : c.base.length ≤ bc
  bm : bc ≤ maxLen
  wl : c.wait.length ≤ wc
  wm : wc ≤ maxLen
structure CliFit (c : CliD) : Prop where
  who : I64 c.who
  seen : I64 c.seen
  done : I64 c.done
  made : I64 c.made
  base : Fit c.base
  wait : EntsFit c.wait
theorem CliAt.below {B : Nat} {w w' : World} {c : CliD} {ba wa : Option Addr} {bc wc : Nat} (h : CliAt B w c ba bc wa wc) (hb : Below B w w') : CliAt B w' c ba bc wa wc := ⟨h.rows.below hb, h.ents.below hb, h.bl, h.bm, h.wl, h.wm⟩
theorem CliAt.mono {B B' : Nat} {w : World} {c : CliD} {ba wa : Option Addr} {bc wc : Nat} (h : CliAt B w c ba bc wa wc) (hb : B ≤ B') : CliAt B' w c ba bc wa wc := ⟨h.rows.mono hb, h.ents.mono hb, h.bl, h.bm, h.wl, h.wm⟩
theorem CliAt.on {B B' : Nat} {w w' : World} {c : CliD} {ba wa : Option Addr} {bc wc : Nat} (h : CliAt B w c ba bc wa wc) (hb : Below B w w') (hB : B ≤ B') : CliAt B' w' c ba bc wa wc := (h.below hb).mono hB
theorem Bx.cli {w : World} {B : Nat} {t : TypeId} {v0 v1 v2 v3 v4 v5 : Value} (h : Bx w B t #[v0, v1, v2, v3, v4, v5]) : w.cell? ⟨B, 0, none⟩ = some v0 ∧ w.cell? ⟨B, 1, none⟩ = some v1 ∧ w.cell? ⟨B, 2, none⟩ = some v2 ∧ w.cell? ⟨B, 3, none⟩ = some v3 ∧ w.cell? ⟨B, 4, none⟩ = some v4 ∧ w.cell? ⟨B, 5, none⟩ = some v5 :=
  ⟨h.cell 0 rfl, h.cell 1 rfl, h.cell 2 rfl, h.cell 3 rfl, h.cell 4 rfl, h.cell 5 rfl⟩
theorem Bx.cliF {w : World} {B : Nat} {t : TypeId} {cs : Array Value} (h : Bx w B t cs) : w.frozen? ⟨B, 0, none⟩ = false ∧ w.frozen? ⟨B, 1, none⟩ = false ∧ w.frozen? ⟨B, 2, none⟩ = false ∧ w.frozen? ⟨B, 3, none⟩ = false ∧ w.frozen? ⟨B, 4, none⟩ = false ∧ w.frozen? ⟨B, 5, none⟩ = false :=
  ⟨h.frozen 0, h.frozen 1, h.frozen 2, h.frozen 3, h.frozen 4, h.frozen 5⟩
/-- Rows of the call's own under a write to another block. -/
theorem Got.put {base B j : Nat} {w : World} {a : Option Addr} {rs : List RowD} (h : Got base w a rs) (hne : ∀ g, a = some ⟨g, 0, none⟩ → g ≠ B) (v : Value) : Got base (w.setCell ⟨B, j, none⟩ v) a rs := by
  rcases h with h | ⟨g, C, e, hg, f, h1, h2⟩
  · exact .inl h
  · exact .inr ⟨g, C, e, hg, f, h1.of_block (Below.heap_setCell _ _ _ _ (hne g e)), h2⟩
theorem Got.base {base base' : Nat} {w : World} {a : Option Addr} {rs : List RowD} (h : Got base w a rs) (hb : base' ≤ base) : Got base' w a rs := by
  rcases h with h | ⟨g, C, e, hg, f, h1, h2⟩
  · exact .inl h
  · exact .inr ⟨g, C, e, by omega, f, h1, h2⟩
/-- Rows of the call's own, not nil. -/
structure OwnR (base : Nat) (w : World) (g c : Nat) (rs : List RowD) : Prop where
  got : Got base w (some ⟨g, 0, none⟩) rs
  lo : base ≤ g
  hi : g < w.heap.size
  len : rs.length ≤ c
  cap : c ≤ maxLen
theorem OwnR.below {base n g c : Nat} {w w' : World} {rs : List RowD} (h : OwnR base w g c rs) (hb : Below n w w') (hn : w.heap.size ≤ n) : OwnR base w' g c rs :=
  ⟨h.got.below hb hn, h.lo, Nat.lt_of_lt_of_le h.hi hb.size, h.len, h.cap⟩
theorem OwnR.put {base B j g c : Nat} {w : World} {rs : List RowD} (h : OwnR base w g c rs) (hne : g ≠ B) (v : Value) : OwnR base (w.setCell ⟨B, j, none⟩ v) g c rs :=
  ⟨h.got.put (fun g' e => by cases e; exact hne) v, h.lo, by have := h.hi; simpa [World.setCell] using this, h.len, h.cap⟩
theorem OwnR.rows {base g c : Nat} {w : World} {rs : List RowD} (h : OwnR base w g c rs) : RowsAt w.heap.size w (some ⟨g, 0, none⟩) rs := h.got.rows
theorem OwnR.alloc {base g c : Nat} {w : World} {rs : List RowD} (h : OwnR base w g c rs) (o : Obj) : OwnR base (w.alloc o) g c rs := h.below ((Below.refl w.heap.size w).alloc (Nat.le_refl _) o) (Nat.le_refl _)
theorem OwnR.mono {base base' g c : Nat} {w : World} {rs : List RowD} (h : OwnR base w g c rs) (hb : base' ≤ base) : OwnR base' w g c rs := ⟨h.got.base hb, Nat.le_trans hb h.lo, h.hi, h.len, h.cap⟩
theorem OwnR.drew {base g c : Nat} {w : World} {rs : List RowD} (h : OwnR base w g c rs) : OwnR base w.drew g c rs := h.below (n := w.heap.size) ((Below.refl _ _).drew) (Nat.le_refl _)
theorem ownR_of {w' : World} {base g c : Nat} {rs : List RowD} (h : w'.ownsRow base 82 3 (.slice (some ⟨g, 0, none⟩) rs.length c) rs.length (cellsL rs)) : OwnR base w' g c rs :=
  ⟨got_own h, (own_lt h).1, (own_lt h).2, (own_capm h).1, (own_capm h).2⟩
/-- What a client's function gives: the client, its slices in memory of the call's own; nn: neither is nil. -/
structure CliGot (base : Nat) (w : World) (c : CliD) (ba : Option Addr) (bc : Nat) (wa : Option Addr) (wc : Nat) : Prop where
  rows : Got base w ba c.base
  ents : GotE base w wa c.wait
  bl : c.base.length ≤ bc
  bm : bc ≤ maxLen
  wl : c.wait.length ≤ wc
  wm : wc ≤ maxLen
theorem CliGot.below {base n : Nat} {w w' : World} {c : CliD} {ba wa : Option Addr} {bc wc : Nat} (h : CliGot base w c ba bc wa wc) (hb : Below n w w') (hn : w.heap.size ≤ n) : CliGot base w' c ba bc wa wc := ⟨h.rows.below hb hn, h.ents.below hb hn, h.bl, h.bm, h.wl, h.wm⟩
theorem CliGot.at_ {base : Nat} {w : World} {c : CliD} {ba wa : Option Addr} {bc wc : Nat} (h : CliGot base w c ba bc wa wc) : CliAt w.heap.size w c ba bc wa wc := ⟨h.rows.rows, h.ents.ents, h.bl, h.bm, h.wl, h.wm⟩
theorem CliGot.base {base base' : Nat} {w : World} {c : CliD} {ba wa : Option Addr} {bc wc : Nat} (h : CliGot base w c ba bc wa wc) (hb : base' ≤ base) : CliGot base' w c ba bc wa wc := ⟨h.rows.base hb, h.ents.base hb, h.bl, h.bm, h.wl, h.wm⟩
def RetCli (c : CliD) (nn : Bool) (w : World) (r : Ending) (w' : World) : Prop :=
  ∃ ba bc wa wc, r = .returned (.agg #[.int .i64 c.who, .int .i64 c.seen, .slice ba c.base.length bc, .slice wa c.wait.length wc, .int .i64 c.done, .int .i64 c.made]) ∧ CliGot w.heap.size w' c ba bc wa wc ∧ (nn = true → ∃ g h, ba = some ⟨g, 0, none⟩ ∧ wa = some ⟨h, 0, none⟩ ∧ w.heap.size ≤ g ∧ g < w'.heap.size ∧ w.heap.size ≤ h ∧ h < w'.heap.size) ∧ Below w.heap.size w w'
def RetCliB (c : CliD) (nn told : Bool) (w : World) (r : Ending) (w' : World) : Prop :=
  ∃ ba bc wa wc, r = .returned (.tuple #[.agg #[.int .i64 c.who, .int .i64 c.seen, .slice ba c.base.length bc, .slice wa c.wait.length wc, .int .i64 c.done, .int .i64 c.made], .bool told]) ∧ CliGot w.heap.size w' c ba bc wa wc ∧ (nn = true → ∃ g h, ba = some ⟨g, 0, none⟩ ∧ wa = some ⟨h, 0, none⟩ ∧ w.heap.size ≤ g ∧ g < w'.heap.size ∧ w.heap.size ≤ h ∧ h < w'.heap.size) ∧ Below w.heap.size w w'
/-! ### the box of a result that is a client -/
theorem Bx.given6 {B r : Nat} {w' : World} {t : TypeId} {cs : Array Value} (h : Bx w' B t cs) (hne : B ≠ r) (v0 v1 v2 v3 v4 v5 : Value) : Bx ((((((w'.setCell ⟨r, 0, none⟩ v0).setCell ⟨r, 1, none⟩ v1).setCell ⟨r, 2, none⟩ v2).setCell ⟨r, 3, none⟩ v3).setCell ⟨r, 4, none⟩ v4).setCell ⟨r, 5, none⟩ v5) B t cs := ((((((h.other hne v0).other hne v1).other hne v2).other hne v3).other hne v4).other hne v5)
theorem below_given6 {N r : Nat} {w w' : World} (h : Below N w w') (hr : N ≤ r) (v0 v1 v2 v3 v4 v5 : Value) : Below N w ((((((w'.setCell ⟨r, 0, none⟩ v0).setCell ⟨r, 1, none⟩ v1).setCell ⟨r, 2, none⟩ v2).setCell ⟨r, 3, none⟩ v3).setCell ⟨r, 4, none⟩ v4).setCell ⟨r, 5, none⟩ v5) :=
  Below.setCell (Below.setCell (Below.setCell (Below.setCell (Below.setCell (Below.setCell h (p := ⟨r, 0, none⟩) hr v0) (p := ⟨r, 1, none⟩) hr v1) (p := ⟨r, 2, none⟩) hr v2) (p := ⟨r, 3, none⟩) hr v3) (p := ⟨r, 4, none⟩) hr v4) (p := ⟨r, 5, none⟩) hr v5
theorem CliGot.put {base B j : Nat} {w : World} {c : CliD} {ba wa : Option Addr} {bc wc : Nat} (h : CliGot base w c ba bc wa wc) (h1 : ∀ g, ba = some ⟨g, 0, none⟩ → g ≠ B) (h2 : ∀ g, wa = some ⟨g, 0, none⟩ → g ≠ B) (v : Value) : CliGot base (w.setCell ⟨B, j, none⟩ v) c ba bc wa wc := ⟨h.rows.put h1 v, h.ents.put h2 v, h.bl, h.bm, h.wl, h.wm⟩
theorem CliGot.given6 {base r : Nat} {w' : World} {c : CliD} {ba wa : Option Addr} {bc wc : Nat} (h : CliGot base w' c ba bc wa wc) (h1 : ∀ g, ba = some ⟨g, 0, none⟩ → g ≠ r) (h2 : ∀ g, wa = some ⟨g, 0, none⟩ → g ≠ r) (v0 v1 v2 v3 v4 v5 : Value) : CliGot base ((((((w'.setCell ⟨r, 0, none⟩ v0).setCell ⟨r, 1, none⟩ v1).setCell ⟨r, 2, none⟩ v2).setCell ⟨r, 3, none⟩ v3).setCell ⟨r, 4, none⟩ v4).setCell ⟨r, 5, none⟩ v5) c ba bc wa wc := (((((h.put h1 h2 v0).put h1 h2 v1).put h1 h2 v2).put h1 h2 v3).put h1 h2 v4).put h1 h2 v5
/-- A client given back in the result's box, its slices not nil. -/
theorem retCli_put {w w3 : World} {c : CliD} {g h r base bc wc : Nat} {nn : Bool} (hg : CliGot base w3 c (some ⟨g, 0, none⟩) bc (some ⟨h, 0, none⟩) wc) (hbase : w.heap.size ≤ base) (hr : w.heap.size ≤ r) (hne : g ≠ r) (hne2 : h ≠ r) (q1 : w.heap.size ≤ g) (q2 : g < w3.heap.size) (q3 : w.heap.size ≤ h) (q4 : h < w3.heap.size) (hL : Below w.heap.size w w3) (v0 v1 v2 v3 v4 v5 : Value) :
    RetCli c nn w (.returned (.agg #[.int .i64 c.who, .int .i64 c.seen, .slice (some ⟨g, 0, none⟩) c.base.length bc, .slice (some ⟨h, 0, none⟩) c.wait.length wc, .int .i64 c.done, .int .i64 c.made])) ((((((w3.setCell ⟨r, 0, none⟩ v0).setCell ⟨r, 1, none⟩ v1).setCell ⟨r, 2, none⟩ v2).setCell ⟨r, 3, none⟩ v3).setCell ⟨r, 4, none⟩ v4).setCell ⟨r, 5, none⟩ v5) :=
  ⟨_, _, _, _, rfl, (hg.base hbase).given6 (fun _ e => by cases e; exact hne) (fun _ e => by cases e; exact hne2) v0 v1 v2 v3 v4 v5, fun _ => ⟨g, h, rfl, rfl, q1, by simpa [World.setCell] using q2, q3, by simpa [World.setCell] using q4⟩, below_given6 hL hr v0 v1 v2 v3 v4 v5⟩
theorem retCliB_put {w w3 : World} {c : CliD} {told : Bool} {g h r base bc wc : Nat} {nn : Bool} (hg : CliGot base w3 c (some ⟨g, 0, none⟩) bc (some ⟨h, 0, none⟩) wc) (hbase : w.heap.size ≤ base) (hr : w.heap.size ≤ r) (hne : g ≠ r) (hne2 : h ≠ r) (q1 : w.heap.size ≤ g) (q2 : g < w3.heap.size) (q3 : w.heap.size ≤ h) (q4 : h < w3.heap.size) (hL : Below w.heap.size w w3) (v0 v1 v2 v3 v4 v5 : Value) :
    RetCliB c nn told w (.returned (.tuple #[.agg #[.int .i64 c.who, .int .i64 c.seen, .slice (some ⟨g, 0, none⟩) c.base.length bc, .slice (some ⟨h, 0, none⟩) c.wait.length wc, .int .i64 c.done, .int .i64 c.made], .bool told])) ((((((w3.setCell ⟨r, 0, none⟩ v0).setCell ⟨r, 1, none⟩ v1).setCell ⟨r, 2, none⟩ v2).setCell ⟨r, 3, none⟩ v3).setCell ⟨r, 4, none⟩ v4).setCell ⟨r, 5, none⟩ v5) :=
  ⟨_, _, _, _, rfl, (hg.base hbase).given6 (fun _ e => by cases e; exact hne) (fun _ e => by cases e; exact hne2) v0 v1 v2 v3 v4 v5, fun _ => ⟨g, h, rfl, rfl, q1, by simpa [World.setCell] using q2, q3, by simpa [World.setCell] using q4⟩, below_given6 hL hr v0 v1 v2 v3 v4 v5⟩
theorem retCliB_zero {w w3 : World} {c : CliD} {nn told : Bool} (hs : c = zcli ∧ told = false) (hn : nn = false) {r : Nat} (hr : w.heap.size ≤ r) (hL : Below w.heap.size w w3) (v0 v1 v2 v3 v4 v5 : Value) :
    RetCliB c nn told w (.returned (.tuple #[.agg #[.int .i64 0, .int .i64 0, .slice none 0 0, .slice none 0 0, .int .i64 0, .int .i64 0], .bool false])) ((((((w3.setCell ⟨r, 0, none⟩ v0).setCell ⟨r, 1, none⟩ v1).setCell ⟨r, 2, none⟩ v2).setCell ⟨r, 3, none⟩ v3).setCell ⟨r, 4, none⟩ v4).setCell ⟨r, 5, none⟩ v5) := by
  obtain ⟨rfl, rfl⟩ := hs
  subst hn
  exact ⟨none, 0, none, 0, rfl, ⟨.inl rfl, .inl rfl, Nat.le_refl _, Nat.zero_le _, Nat.le_refl _, Nat.zero_le _⟩, (fun h => by cases h), below_given6 hL hr v0 v1 v2 v3 v4 v5⟩
end Go.Proofs.YtogafpfgdonlmaaDoor
