/-
  Contract of the program's (*desk).client. Conditions: as the theorem says.
-/
import Derived.Test.YtogafpfgdonlmaaDoorJDesk1
import Derived.Deep.RegionHeld3
namespace Go.Proofs.YtogafpfgdonlmaaDoor
open Go.ChangeShapes Go.WideShapes Go.ChangeAt Go.RowKit Go.Joins Go.Deep

/-- A client whose rows lie where they lay, its entries in memory of the call's own. -/
def RetDC (c : CliD) (xa : Option Addr) (xc : Nat) (w : World) (r : Ending) (w' : World) : Prop :=
  ∃ wa wc, r = .returned (.agg #[.int .i64 c.who, .int .i64 c.seen, .slice xa c.base.length xc, .slice wa c.wait.length wc, .int .i64 c.done, .int .i64 c.made]) ∧ GotE w.heap.size w' wa c.wait ∧ c.wait.length ≤ wc ∧ wc ≤ maxLen ∧ Below w.heap.size w w'
theorem got_lt {base g : Nat} {w : World} {rs : List RowD} (h : Got base w (some ⟨g, 0, none⟩) rs) (hn : rs.length ≠ 0) : g < w.heap.size := by
  rcases h with q | ⟨g', C, e, hg, f, ⟨cur, h1, _⟩, h2⟩
  · exact absurd q hn
  · cases e; exact (Array.getElem?_eq_some_iff.1 h1).1
theorem GotE.neN {base g r : Nat} {w : World} {es : List EntD} (h : GotE base w (some ⟨g, 0, none⟩) es) (hr : r < base) (hn : es.length ≠ 0) : g ≠ r := by
  rcases h with q | ⟨g', C, e, hg, _⟩
  · exact absurd q hn
  · cases e; omega
theorem GotE.putN {base B j : Nat} {w : World} {a : Option Addr} {es : List EntD} (h : GotE base w a es) (hB : B < base) (v : Value) : GotE base (w.setCell ⟨B, j, none⟩ v) a es := by
  by_cases hn : es.length = 0
  · exact .inl hn
  · exact h.put (fun g e => by subst e; exact h.neN hB hn) v
set_option maxRecDepth 100000 in
set_option maxHeartbeats 4000000 in
theorem client_desk (B : Nat) (cs : Array Value) (c : CliD) (f : Nat) (xa : Option Addr) (xc : Nat) (w : World) (h : Bx w B 60 cs) (hd : DeskV cs c (.slice xa c.base.length xc) f) (hf : f + c.wait.length ≤ 41) (hfd : (f : Int) - 1 = c.done) :
    Calls Tryd.prog 27 #[.pointer (some ⟨B, 0, none⟩)] w (RetDC c xa xc w) := by
  have al := (Below.refl w.heap.size w).alloc (Nat.le_refl _) (.cells #[.int .i64 0, .int .i64 0, .slice none 0 0, .slice none 0 0, .int .i64 0, .int .i64 0] 33)
  have R0 := Bx.new w 33 #[.int .i64 0, .int .i64 0, .slice none 0 0, .slice none 0 0, .int .i64 0, .int .i64 0]
  have H1 := h.alloc (.cells #[.int .i64 0, .int .i64 0, .slice none 0 0, .slice none 0 0, .int .i64 0, .int .i64 0] 33)
  have hlt := h.lt
  have hI : (0 : Int) ≤ (f : Int) ∧ (f : Int) ≤ 41 := by omega
  have HFD := Lib.hid hfd
  have hfw : IntKind.i64.wrap ((f : Int) - 1) = (f : Int) - 1 := IntWalk.i64_in _ ⟨by omega, by omega⟩
  clear h hfd
  go_enter Tryd.func27, Tryd.ntmps27
  go_upto_region 1 with fail
  generalize w.alloc (.cells #[.int .i64 0, .int .i64 0, .slice none 0 0, .slice none 0 0, .int .i64 0, .int .i64 0] 33) = w1 at *
  have cells : ∀ x : World, Bx x B 60 cs → x.cell? ⟨B, 0, none⟩ = some (.int .i64 c.who) ∧ x.cell? ⟨B, 1, none⟩ = some (.int .i64 c.seen) ∧ x.cell? ⟨B, 2, none⟩ = some (.slice xa c.base.length xc) ∧ x.cell? ⟨B, 283, none⟩ = some (.int .i64 (f : Int)) ∧ x.cell? ⟨B, 285, none⟩ = some (.int .i64 c.made) := fun x hx => ⟨hx.cell 0 hd.who, hx.cell 1 hd.seen, hx.cell 2 hd.rows, hx.cell 283 hd.first, hx.cell 285 hd.made⟩
  have k0 := cells _ H1.drew
  have HL := Lib.hid (list_ring B cs c (.slice xa c.base.length xc) f w1.drew H1.drew hd hf)
  have HCC := Lib.hid cells
  have Rd := R0.drew
  have ald := al.drew
  have sd := ald.size
  clear cells al
  go_region_held3 (fun x : World => x.cell? ⟨B, 0, none⟩ = some (.int .i64 c.who) ∧ x.cell? ⟨B, 1, none⟩ = some (.int .i64 c.seen) ∧ x.cell? ⟨B, 2, none⟩ = some (.slice xa c.base.length xc) ∧ x.cell? ⟨B, 283, none⟩ = some (.int .i64 (f : Int)) ∧ x.cell? ⟨B, 285, none⟩ = some (.int .i64 c.made)) (first | (with_reducible exact k0) | (with_reducible exact k3) | (exact HCC.out _ (Bx.given6 H3 (by omega) _ _ _ _ _ _))) ((go_at_call 50; refine HL.out.mono ?_; rintro _ w3 ⟨va, rfl, own3, b3⟩; obtain ⟨ya, yc, rfl, hyc, hym⟩ := own_valE own3; have H3 := H1.drew.below b3 H1.drew.lt; have k3 := HCC.out _ H3; have R3 := Rd.below b3 Rd.lt; obtain ⟨d0, d1, d2, d3, d4, d5⟩ := R3.cli; obtain ⟨y0, y1, y2, y3, y4, y5⟩ := R3.cliF))
  all_goals
    have L3 := ald.trans (b3.mono sd)
    have hR : w.heap.size < w1.drew.heap.size := Rd.lt
    have G3 := gotE_own own3
    have HF := Lib.hid (fun v0 v1 v2 v3 v4 v5 => And.intro (((((((G3.putN (j := 0) hR v0).putN (j := 1) hR v1).putN (j := 2) hR v2).putN (j := 3) hR v3).putN (j := 4) hR v4).putN (j := 5) hR v5).base (Nat.le_of_lt hR)) (below_given6 L3 (Nat.le_refl w.heap.size) v0 v1 v2 v3 v4 v5))
    clear H1 R0 Rd HL HCC k0 k3 R3 H3 own3 G3
    go_wp2
    exact bodyPost_ret (v := .agg #[.int .i64 c.who, .int .i64 c.seen, .slice xa c.base.length xc, .slice ya c.wait.length yc, .int .i64 ((f : Int) - 1), .int .i64 c.made]) (by simp [results, Tryd.results27, go_sem, d0, d1, d2, d3, d4, d5]) rfl ⟨ya, yc, by rw [HFD.out], (HF.out _ _ _ _ _ _).1, hyc, hym, (HF.out _ _ _ _ _ _).2⟩
end Go.Proofs.YtogafpfgdonlmaaDoor
