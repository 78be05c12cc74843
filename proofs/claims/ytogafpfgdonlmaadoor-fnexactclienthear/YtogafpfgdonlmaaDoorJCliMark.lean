/-
  The laws' own helpers markClient and heldClient. Conditions: as each theorem says.
-/
import Derived.Test.YtogafpfgdonlmaaDoorJCliArg
import Derived.Test.YtogafpfgdonlmaaDoorGS
namespace Go.Proofs.YtogafpfgdonlmaaDoor
open Go.ChangeShapes Go.WideShapes Go.ChangeAt Go.RowKit Go.Joins

/-- What marking rows does: those rows are marked; boxes of other types, entries, and rows that lie above, stay. -/
structure MarkR (base : Nat) (a : Option Addr) (n : Nat) (w w' : World) : Prop where
  got : Got base w' a (mrows n)
  low : Below base w w'
  box : ∀ B t cs, t ≠ 82 → Bx w B t cs → Bx w' B t cs
  ents : ∀ base' a' es', GotE base' w a' es' → GotE base' w' a' es'
  rows : ∀ base' a' rs', (n = 0 ∨ ∀ g, a = some ⟨g, 0, none⟩ → g < base') → Got base' w a' rs' → Got base' w' a' rs'
  size : w.heap.size ≤ w'.heap.size
theorem GotE.butR {base b n : Nat} {w w' : World} {a : Option Addr} {es : List EntD} {t : TypeId} (h : GotE base w a es) {f : Nat → Value} {C : Nat} (hb0 : w.rowIs b t C f) (ht : t ≠ 55) (hb : But b n w w') (hn : w.heap.size ≤ n) : GotE base w' a es := by
  rcases h with h | ⟨g, C', e, hg, f', ⟨cur, h1, h1'⟩, h2⟩
  · exact .inl h
  · refine .inr ⟨g, C', e, hg, f', World.rowIs.of_block ⟨cur, h1, h1'⟩ (hb.block g (Nat.lt_of_lt_of_le (Array.getElem?_eq_some_iff.1 h1).1 hn) (fun q => ?_)), h2⟩
    subst q
    obtain ⟨cur2, k1, _⟩ := hb0
    rw [h1] at k1
    simp only [Option.some.injEq, Obj.cells.injEq] at k1
    exact ht k1.2.1.symm
theorem Got.butE {base b n : Nat} {w w' : World} {a : Option Addr} {rs : List RowD} {t : TypeId} (h : Got base w a rs) {f : Nat → Value} {C : Nat} (hb0 : w.rowIs b t C f) (ht : t ≠ 82) (hb : But b n w w') (hn : w.heap.size ≤ n) : Got base w' a rs := by
  rcases h with h | ⟨g, C', e, hg, f', ⟨cur, h1, h1'⟩, h2⟩
  · exact .inl h
  · refine .inr ⟨g, C', e, hg, f', World.rowIs.of_block ⟨cur, h1, h1'⟩ (hb.block g (Nat.lt_of_lt_of_le (Array.getElem?_eq_some_iff.1 h1).1 hn) (fun q => ?_)), h2⟩
    subst q
    obtain ⟨cur2, k1, _⟩ := hb0
    rw [h1] at k1
    simp only [Option.some.injEq, Obj.cells.injEq] at k1
    exact ht k1.2.1.symm
theorem Got.butLow {base b n : Nat} {w w' : World} {a : Option Addr} {rs : List RowD} (h : Got base w a rs) (hb : But b n w w') (hn : w.heap.size ≤ n) (hbb : b < base) : Got base w' a rs := by
  rcases h with h | ⟨g, C, e, hg, f, h1, h2⟩
  · exact .inl h
  · exact .inr ⟨g, C, e, hg, f, h1.of_block (hb.block g (Nat.lt_of_lt_of_le h1.lt hn) (by omega)), h2⟩
theorem markRowS_out (base : Nat) (a : Option Addr) (cap : Nat) (rs : List RowD) (w : World) (hb : base ≤ w.heap.size) (h : Got base w a rs) (hl : rs.length ≤ 1048576) :
    Calls Tryd.prog 29 #[.slice a rs.length cap, .int .i64 1] w (fun e w' => e = .returned (.int .i64 ((rs.length : Int) * 3 + 1)) ∧ MarkR base a rs.length w w') := by
  by_cases h0 : rs.length = 0
  · rw [h0]
    refine (markRowS_nil a cap w).mono ?_
    rintro e w' ⟨rfl, rfl⟩
    exact ⟨rfl, .inl rfl, Below.refl _ _, fun _ _ _ _ h => h, fun _ _ _ h => h, fun _ _ _ _ h => h, Nat.le_refl _⟩
  rcases h with h | ⟨g, C, rfl, hg, ho⟩
  · exact absurd h h0
  · have ho' := ho
    refine (markRowS_exC g C cap rs w ho hl).mono ?_
    rintro e w' ⟨rfl, h1, h2⟩
    obtain ⟨f, hrow, _⟩ := ho'
    refine ⟨rfl, .inr ⟨g, C, rfl, hg, h1⟩, h2.below hg hb, fun B t cs ht hB => ?_, fun base' a' es' hG => hG.butR hrow (by decide) h2 (Nat.le_refl _), fun base' a' rs' hlt hG => ?_, h2.size⟩
    · refine hB.but h2 hB.lt (fun q => ?_)
      subst q
      obtain ⟨c, hc, _⟩ := hrow
      have hB' : w.heap[B]? = some (.cells cs t (0, 0)) := hB
      rw [hc] at hB'
      cases hB'
      exact ht rfl
    · rcases hlt with q | hlt
      · exact absurd q h0
      · exact hG.butLow h2 (Nat.le_refl _) (hlt g rfl)
/-- What marking entries from a number on does. -/
structure MarkE (s base : Nat) (a : Option Addr) (n : Nat) (w w' : World) : Prop where
  got : GotE base w' a (mentsS s n)
  low : Below base w w'
  box : ∀ B t cs, t ≠ 55 → Bx w B t cs → Bx w' B t cs
  rows : ∀ base' a' rs', Got base' w a' rs' → Got base' w' a' rs'
  ents : ∀ base' a' es', (n = 0 ∨ ∀ g, a = some ⟨g, 0, none⟩ → g < base') → GotE base' w a' es' → GotE base' w' a' es'
  size : w.heap.size ≤ w'.heap.size
theorem markEntryS_outS (s : Nat) (hs1 : 1 ≤ s) (base : Nat) (a : Option Addr) (cap : Nat) (es : List EntD) (hs2 : s + es.length * 7 ≤ 9990000) (w : World) (hb : base ≤ w.heap.size) (h : GotE base w a es) (hl : es.length ≤ 1048576) :
    Calls Tryd.prog 19 #[.slice a es.length cap, .int .i64 (s : Int)] w (fun e w' => e = .returned (.int .i64 ((es.length : Int) * 7 + (s : Int))) ∧ MarkE s base a es.length w w') := by
  by_cases h0 : es.length = 0
  · rw [h0]
    refine (markEntryS_nilS s a cap w).mono ?_
    rintro e w' ⟨rfl, rfl⟩
    exact ⟨by simp, .inl rfl, Below.refl _ _, fun _ _ _ _ h => h, fun _ _ _ h => h, fun _ _ _ _ h => h, Nat.le_refl _⟩
  rcases h with h | ⟨g, C, rfl, hg, ho⟩
  · exact absurd h h0
  · have ho' := ho
    refine (markEntryS_exCS s hs1 g C cap es hs2 w ho hl).mono ?_
    rintro e w' ⟨rfl, h1, h2⟩
    obtain ⟨f, hrow, _⟩ := ho'
    refine ⟨rfl, .inr ⟨g, C, rfl, hg, h1⟩, h2.below hg hb, fun B t cs ht hB => ?_, fun base' a' rs' hG => hG.butE hrow (by decide) h2 (Nat.le_refl _), fun base' a' es' hlt hG => ?_, h2.size⟩
    · refine hB.but h2 hB.lt (fun q => ?_)
      subst q
      obtain ⟨c, hc, _⟩ := hrow
      have hB' : w.heap[B]? = some (.cells cs t (0, 0)) := hB
      rw [hc] at hB'
      cases hB'
      exact ht rfl
    · rcases hlt with q | hlt
      · exact absurd q h0
      · exact hG.but h2 (Nat.le_refl _) (hlt g rfl)
/-- What marking a client does. -/
structure MarkCli (base : Nat) (ba wa : Option Addr) (n m : Nat) (w w' : World) : Prop where
  gotR : Got base w' ba (mrows n)
  gotE : GotE base w' wa (mentsS (n * 3 + 1) m)
  low : Below base w w'
  box : ∀ B t cs, t ≠ 82 → t ≠ 55 → Bx w B t cs → Bx w' B t cs
  rows : ∀ base' a' rs', (n = 0 ∨ ∀ g, ba = some ⟨g, 0, none⟩ → g < base') → Got base' w a' rs' → Got base' w' a' rs'
  ents : ∀ base' a' es', (m = 0 ∨ ∀ g, wa = some ⟨g, 0, none⟩ → g < base') → GotE base' w a' es' → GotE base' w' a' es'
  size : w.heap.size ≤ w'.heap.size
def RetMkC (base : Nat) (ba wa : Option Addr) (n m : Nat) (w : World) (r : Ending) (w' : World) : Prop := r = .returned (.int .i64 ((m : Int) * 7 + ((n : Int) * 3 + 1))) ∧ MarkCli base ba wa n m w w'
theorem markClient_any (base : Nat) (c : CliD) (ba wa : Option Addr) (bc wc : Nat) (w : World) (hb : base ≤ w.heap.size) (h1 : Got base w ba c.base) (h2 : GotE base w wa c.wait) (hl : c.base.length + c.wait.length ≤ 1048576) :
    Calls Tryd.prog 12 #[.agg #[.int .i64 c.who, .int .i64 c.seen, .slice ba c.base.length bc, .slice wa c.wait.length wc, .int .i64 c.done, .int .i64 c.made], .int .i64 1] w (RetMkC base ba wa c.base.length c.wait.length w) := by
  have al := (Below.refl w.heap.size w).alloc (Nat.le_refl _) (.cells #[.int .i64 c.who, .int .i64 c.seen, .slice ba c.base.length bc, .slice wa c.wait.length wc, .int .i64 c.done, .int .i64 c.made] 33)
  have X0 := Bx.new w 33 #[.int .i64 c.who, .int .i64 c.seen, .slice ba c.base.length bc, .slice wa c.wait.length wc, .int .i64 c.done, .int .i64 c.made]
  have hs0 := Nat.le_trans hb al.size
  have HR := Lib.hid (markRowS_out base ba bc c.base _ hs0 (h1.below al (Nat.le_refl _)) (by omega))
  have HK : Hid (∀ (w' : World) , MarkR base ba c.base.length (w.alloc (.cells #[.int .i64 c.who, .int .i64 c.seen, .slice ba c.base.length bc, .slice wa c.wait.length wc, .int .i64 c.done, .int .i64 c.made] 33)) w' → GotE base w' wa c.wait ∧ (∀ w2, MarkE (c.base.length * 3 + 1) base wa c.wait.length w' w2 → MarkCli base ba wa c.base.length c.wait.length w w2)) := fun w' hm => by
    refine ⟨hm.ents _ _ _ (h2.below al (Nat.le_refl _)), fun w2 hn => ⟨hn.rows _ _ _ hm.got, hn.got, ((al.mono hb).trans hm.low).trans hn.low, fun B t cs ht1 ht2 hB => hn.box B t cs ht2 (hm.box B t cs ht1 (hB.below al hB.lt)), fun base' a' rs' hlt hG => hn.rows _ _ _ (hm.rows base' a' rs' hlt (hG.below al (Nat.le_refl _))), fun base' a' es' hlt hG => hn.ents base' a' es' hlt (hm.ents _ _ _ (hG.below al (Nat.le_refl _))), Nat.le_trans al.size (Nat.le_trans hm.size hn.size)⟩⟩
  have hc : ((c.base.length * 3 + 1 : Nat) : Int) = (c.base.length : Int) * 3 + 1 := by omega
  have HC := Lib.hid hc
  clear hc h1 h2
  go_enter Tryd.func12, Tryd.ntmps12
  go_upto_region 1 with fail
  generalize w.alloc (.cells #[.int .i64 c.who, .int .i64 c.seen, .slice ba c.base.length bc, .slice wa c.wait.length wc, .int .i64 c.done, .int .i64 c.made] 33) = w0 at *
  obtain ⟨x0, x1, x2, x3, x4, x5⟩ := X0.cli
  go_wp2_with fail
  refine HR.out.mono ?_
  rintro _ w1 ⟨rfl, hm⟩
  obtain ⟨k1, k2⟩ := HK.out w1 hm
  have X1 := hm.box _ _ _ (by decide) X0
  have hsz := Nat.le_trans hs0 hm.size
  have HK2 := Lib.hid k2
  clear X0 x0 x1 x2 x3 x4 x5 al hm HR HK k2
  obtain ⟨x0, x1, x2, x3, x4, x5⟩ := X1.cli
  have HE := Lib.hid (markEntryS_outS (c.base.length * 3 + 1) (by omega) base wa wc c.wait (by omega) w1 hsz k1 (by omega))
  rw [HC.out] at HE
  clear X1 k1
  go_wp2_with fail
  refine HE.out.mono ?_
  rintro _ w2 ⟨rfl, hn⟩
  have hM := HK2.out w2 hn
  clear hn HE HK2 x0 x1 x2 x3 x4 x5
  go_wp2
  go_ret
  exact ⟨rfl, hM⟩
def RetHdC (n m : Nat) (w : World) (r : Ending) (w' : World) : Prop := r = .returned (.int .i64 ((m : Int) * 7 + ((n : Int) * 3 + 1))) ∧ Below w.heap.size w w'
theorem heldClient_any (wo sn dn md : Int) (ba wa : Option Addr) (bc wc n m : Nat) (w : World) (h1 : RowsAt w.heap.size w ba (mrows n)) (h2 : EntsAt w.heap.size w wa (mentsS (n * 3 + 1) m)) (hl : n + m ≤ 1048576) :
    Calls Tryd.prog 13 #[.agg #[.int .i64 wo, .int .i64 sn, .slice ba n bc, .slice wa m wc, .int .i64 dn, .int .i64 md], .int .i64 1] w (RetHdC n m w) := by
  have al := (Below.refl w.heap.size w).alloc (Nat.le_refl _) (.cells #[.int .i64 wo, .int .i64 sn, .slice ba n bc, .slice wa m wc, .int .i64 dn, .int .i64 md] 33)
  have X0 := Bx.new w 33 #[.int .i64 wo, .int .i64 sn, .slice ba n bc, .slice wa m wc, .int .i64 dn, .int .i64 md]
  have HR := Lib.hid (heldRowS_ex w.heap.size ba bc n _ al.size (h1.below al) (by omega))
  have HK : Hid (∀ x, Below w.heap.size w x → Calls Tryd.prog 31 #[.slice wa m wc, .int .i64 ((n : Int) * 3 + 1)] x (RetHeldS (n * 3 + 1) m x)) := fun x hx => by
    have := heldEntryS_exS (n * 3 + 1) (by omega) w.heap.size wa wc m (by omega) x hx.size (h2.below hx) (by omega)
    rw [show ((n * 3 + 1 : Nat) : Int) = (n : Int) * 3 + 1 by omega] at this
    exact this
  have hq1 : ¬ ((n : Int) * 3 + 1 < 0) := by omega
  have hq2 : ¬ ((m : Int) * 7 + ((n : Int) * 3 + 1) < 0) := by omega
  have hc : ((n * 3 + 1 : Nat) : Int) = (n : Int) * 3 + 1 := by omega
  have HC := Lib.hid hc
  clear hc
  go_enter Tryd.func13, Tryd.ntmps13
  go_upto_region 1 with fail
  generalize w.alloc (.cells #[.int .i64 wo, .int .i64 sn, .slice ba n bc, .slice wa m wc, .int .i64 dn, .int .i64 md] 33) = w0 at *
  obtain ⟨x0, x1, x2, x3, x4, x5⟩ := X0.cli
  go_wp2_with fail
  refine HR.out.mono ?_
  rintro _ w1 ⟨rfl, hb1⟩
  have L1 := al.trans (hb1.mono al.size)
  have X1 := X0.below hb1 X0.lt
  clear X0 x0 x1 x2 x3 x4 x5 al hb1 HR
  obtain ⟨x0, x1, x2, x3, x4, x5⟩ := X1.cli
  go_wp2_with fail
  refine (HK.out w1 L1).mono ?_
  rintro _ w2 ⟨rfl, hb2⟩
  rw [HC.out]
  have L2 := L1.trans (hb2.mono L1.size)
  clear X1 x0 x1 x2 x3 x4 x5 hb2 HK
  go_wp2
  go_ret
  exact ⟨rfl, L2⟩
end Go.Proofs.YtogafpfgdonlmaaDoor
