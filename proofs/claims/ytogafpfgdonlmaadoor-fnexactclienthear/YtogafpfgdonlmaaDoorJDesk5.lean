/-
  Contract of the program's (*desk).hearAll. Conditions: as the theorem says.
-/
import Derived.Test.YtogafpfgdonlmaaDoorJDesk4
namespace Go.Proofs.YtogafpfgdonlmaaDoor
open Go.ChangeShapes Go.WideShapes Go.ChangeAt Go.RowKit Go.Joins Go.Deep
set_option linter.unusedVariables false

theorem hear1_heard (c : CliD) (l : List EntD) (k : Nat) : hear1 (heardC c l k) (eat l k) = heardC c l (k + 1) := by
  unfold hear1 heardC
  simp only [cntTo_succ, treeFrom]
  by_cases h : (eat l k).who = c.who
  · simp only [h, if_true, List.drop_drop]
    congr 1 <;> push_cast <;> omega
  · simp only [h, if_false, Nat.add_zero]
    congr 1; push_cast; omega
theorem okH_heard (c : CliD) (l : List EntD) (k : Nat) : okH (heardC c l k) (eat l k) = hstepB c l k := by
  unfold okH hstepB heardC
  simp only [List.length_drop, eat_drop, Nat.add_zero]
  have q : decide (0 < c.wait.length - cntTo l c.who k) = decide (cntTo l c.who k < c.wait.length) := by rw [decide_eq_decide]; omega
  rw [q]
theorem EntsAt.butN {B N n b off : Nat} {w w' : World} {es : List EntD} (h : EntsAt N w (some ⟨b, off, none⟩) es) (hb : But B n w w') (hn : N ≤ n) (hne : b ≠ B) : EntsAt N w' (some ⟨b, off, none⟩) es := by
  rcases h with h | ⟨b', off', e, hB, hc⟩
  · exact .inl h
  · cases e
    refine .inr ⟨b, off, rfl, hB, fun i hi j hj => ?_⟩
    rw [hb.cell (p := ⟨b, _, none⟩) (Nat.lt_of_lt_of_le hB hn) hne]
    exact hc i hi j hj
theorem part_offE {B b off c j k : Nat} {w : World} {es : List EntD} (h : EntsAt B w (some ⟨b, off, none⟩) es) (hlen : es.length ≤ c) : ∃ o, (if c = j then some (⟨b, off, none⟩ : Addr) else some ⟨b, off + j * 7, none⟩) = some ⟨b, o, none⟩ ∧ EntsAt B w (some ⟨b, o, none⟩) ((es.drop j).take k) := by
  by_cases q : c = j
  · refine ⟨off, if_pos q, .inl ?_⟩
    rw [List.length_take, List.length_drop]; omega
  · exact ⟨off + j * 7, if_neg q, h.part j k⟩
def RetHA (B base : Nat) (c : CliD) (fr : Int) (l : List EntD) (w : World) (r : Ending) (w' : World) : Prop :=
  But B w.heap.size w w' ∧ ((hearableB c fr l = false ∧ r = .returned (.bool false)) ∨ (hearableB c fr l = true ∧ r = .returned (.bool true) ∧ ∃ cs' f' ya yc, Bx w' B 60 cs' ∧ DeskV cs' (heardC c (newE c fr l) (newE c fr l).length) (.slice ya (heardC c (newE c fr l) (newE c fr l).length).base.length yc) f' ∧ (f' : Int) - 1 = (heardC c (newE c fr l) (newE c fr l).length).done ∧ f' + (heardC c (newE c fr l) (newE c fr l).length).wait.length ≤ 41 ∧ Got base w' ya (heardC c (newE c fr l) (newE c fr l).length).base ∧ (heardC c (newE c fr l) (newE c fr l).length).base.length ≤ yc ∧ yc ≤ maxLen))
theorem hearAll_no (B base : Nat) (cs : Array Value) (c : CliD) (v : Value) (f : Nat) (fr : Int) (a : Option Addr) (cap : Nat) (l : List EntD) (w : World) (h : Bx w B 60 cs) (hd : DeskV cs c v f) (hl : l.length ≤ 1048576) (hfr : 0 ≤ fr ∧ fr ≤ 40) (hno : fitB c fr l = false) :
    Calls Tryd.prog 38 #[.pointer (some ⟨B, 0, none⟩), .int .i64 fr, .slice a l.length cap] w (RetHA B base c fr l w) := by
  have x1 := h.cell 1 hd.seen
  have HN : Hid (hearableB c fr l = false) := by unfold Hid hearableB; rw [hno]; rfl
  have hno2 : ¬ fr ≤ c.seen ∨ ¬ fr + l.length ≤ 40 := by
    unfold fitB at hno
    by_cases q : fr ≤ c.seen
    · right; intro q2; simp [q, q2] at hno
    · exact .inl q
  clear h hno
  by_cases q : fr ≤ c.seen
  · have q2 : ¬ fr + l.length ≤ 40 := by
      rcases hno2 with g | g
      · exact absurd q g
      · exact g
    clear hno2
    go_enter Tryd.func38, Tryd.ntmps38
    go_wp2
    go_ret
    exact ⟨But.refl _ _ _, .inl ⟨HN.out, rfl⟩⟩
  · clear hno2
    go_enter Tryd.func38, Tryd.ntmps38
    go_wp2
    go_ret
    exact ⟨But.refl _ _ _, .inl ⟨HN.out, rfl⟩⟩
end Go.Proofs.YtogafpfgdonlmaaDoor
