/-
  Plain mathematics of clients: what is a valid client, and what doing, showing and hearing make of one. Nothing of the program is run here. Conditions: none beyond the lemmas' own premises.
-/
import Derived.Test.YtogafpfgdonlmaaDoorGG
namespace Go.Proofs.YtogafpfgdonlmaaDoor
open Go.RowKit

structure CliD where
  who : Int
  seen : Int
  base : List RowD
  wait : List EntD
  done : Int
  made : Int
def zcli : CliD := ⟨0, 0, [], [], 0, 0⟩
/-! ### valid clients -/
def overB (who made : Int) (e : EntD) : Bool := (e.op.kind == 1) && decide (10 * who + made < e.op.id)
def wstepB (who done made : Int) (es : List EntD) (i : Nat) : Bool := entB (eat es i) && ((eat es i).who == who) && ((eat es i).seq == done + i + 1) && !overB who made (eat es i)
def waitTo (who done made : Int) (es : List EntD) (k : Nat) : Bool := (List.range k).all (wstepB who done made es)
def headB (c : CliD) : Bool := inB c.who 1 3 && (inB c.seen 0 40 && (treeB c.base && (inB c.done 0 c.seen && (decide (c.done + c.wait.length ≤ 40) && inB c.made 0 6))))
def waitB (c : CliD) : Bool := waitTo c.who c.done c.made c.wait c.wait.length
def cliB (c : CliD) : Bool := headB c && waitB c
theorem waitTo_succ (who done made : Int) (es : List EntD) (k : Nat) : waitTo who done made es (k + 1) = (waitTo who done made es k && wstepB who done made es k) := by simp [waitTo, List.range_succ]
theorem waitTo_zero (who done made : Int) (es : List EntD) : waitTo who done made es 0 = true := rfl
theorem waitTo_at {who done made : Int} {es : List EntD} {k i : Nat} (h : waitTo who done made es k = true) (hi : i < k) : wstepB who done made es i = true := by
  simp only [waitTo, List.all_eq_true, List.mem_range] at h; exact h i hi
theorem waitTo_all {who done made : Int} {es : List EntD} {k : Nat} (h : ∀ i, i < k → wstepB who done made es i = true) : waitTo who done made es k = true := by
  simp only [waitTo, List.all_eq_true, List.mem_range]; exact h
theorem waitB_bad {c : CliD} {k : Nat} (hk : k < c.wait.length) (h : wstepB c.who c.done c.made c.wait k = false) : waitB c = false := by
  rw [Bool.eq_false_iff]; intro g
  rw [waitTo_at g hk] at h; cases h
theorem wstep_iff {who done made : Int} {es : List EntD} {i : Nat} : wstepB who done made es i = true ↔ entB (eat es i) = true ∧ (eat es i).who = who ∧ (eat es i).seq = done + i + 1 ∧ overB who made (eat es i) = false := by
  unfold wstepB
  rw [Bool.and_eq_true, Bool.and_eq_true, Bool.and_eq_true, beq_iff_eq, beq_iff_eq, Bool.not_eq_true', and_assoc, and_assoc]
theorem head_iff {c : CliD} : headB c = true ↔ (1 ≤ c.who ∧ c.who ≤ 3) ∧ (0 ≤ c.seen ∧ c.seen ≤ 40) ∧ treeB c.base = true ∧ (0 ≤ c.done ∧ c.done ≤ c.seen) ∧ c.done + c.wait.length ≤ 40 ∧ 0 ≤ c.made ∧ c.made ≤ 6 := by
  unfold headB
  simp only [Bool.and_eq_true, inB_iff, decide_eq_true_eq]
theorem cli_iff {c : CliD} : cliB c = true ↔ headB c = true ∧ waitB c = true := by unfold cliB; rw [Bool.and_eq_true]
theorem cli_ops {c : CliD} (h : cliB c = true) : ∀ i, i < c.wait.length → entB (eat c.wait i) = true := fun _ hi => (wstep_iff.1 (waitTo_at (cli_iff.1 h).2 hi)).1
theorem ent_opok {e : EntD} (h : entB e = true) : opokB e.op = true := by
  simp only [entB, Bool.and_eq_true] at h; exact h.1.2

/-! ### doing -/
def cent (c : CliD) (o : OpD) : EntD := ⟨c.who, c.done + c.wait.length + 1, o⟩
def turnB (c : CliD) (o : OpD) : Bool := !(o.kind == 1) || (o.id == madeI c.who (c.made + 1))
def doOk (c : CliD) (o : OpD) : Bool := entB (cent c o) && turnB c o
def doneC (c : CliD) (o : OpD) : CliD := if doOk c o then ⟨c.who, c.seen, c.base, c.wait ++ [cent c o], c.done, if o.kind = 1 then c.made + 1 else c.made⟩ else c
def cliDo (c : CliD) (o : OpD) : CliD := if cliB c then doneC c o else zcli
def cliDoB (c : CliD) (o : OpD) : Bool := cliB c && doOk c o
theorem do_no {c : CliD} {o : OpD} (h : cliB c = false) : cliDo c o = zcli ∧ cliDoB c o = false := by simp [cliDo, cliDoB, h]
theorem cdo_same {c : CliD} {o : OpD} (h : cliB c = true) (h2 : doOk c o = false) : cliDo c o = c ∧ cliDoB c o = false := by simp [cliDo, cliDoB, h, h2, doneC]
theorem do_is {c : CliD} {o : OpD} (h : cliB c = true) (h2 : doOk c o = true) : cliDo c o = ⟨c.who, c.seen, c.base, c.wait ++ [cent c o], c.done, if o.kind = 1 then c.made + 1 else c.made⟩ ∧ cliDoB c o = true := by simp [cliDo, cliDoB, h, h2, doneC]

/-! ### showing -/
def cliShow (c : CliD) : List RowD := if cliB c then treeFrom c.base c.wait c.wait.length else []
theorem show_no {c : CliD} (h : cliB c = false) : cliShow c = [] := by simp [cliShow, h]
theorem show_is {c : CliD} (h : cliB c = true) : cliShow c = treeFrom c.base c.wait c.wait.length := by simp [cliShow, h]
theorem show_ok {c : CliD} (h : cliB c = true) : treeB (cliShow c) = true := by
  rw [show_is h]
  exact treeFrom_ok (head_iff.1 (cli_iff.1 h).1).2.2.1 (fun i hi => ent_opok (cli_ops h i hi))
theorem show_len (c : CliD) : (cliShow c).length ≤ 100 := by
  cases h : cliB c
  · rw [show_no h]; simp
  · have := tree_len (show_ok h); omega

/-! ### hearing -/
/-- Entry i of l can be heard, if those ahead of it were. -/
def hstepB (c : CliD) (l : List EntD) (i : Nat) : Bool := !((eat l i).who == c.who) || (decide (cntTo l c.who i < c.wait.length) && sameB (eat c.wait (cntTo l c.who i)) (eat l i))
def hearTo (c : CliD) (l : List EntD) (k : Nat) : Bool := (List.range k).all (hstepB c l)
/-- Somebody behind the first k entries of l. -/
def heardC (c : CliD) (l : List EntD) (k : Nat) : CliD := ⟨c.who, c.seen + k, treeFrom c.base l k, c.wait.drop (cntTo l c.who k), c.done + cntTo l c.who k, c.made⟩
def newE (c : CliD) (fr : Int) (l : List EntD) : List EntD := l.drop (c.seen - fr).toNat
def fitB (c : CliD) (fr : Int) (l : List EntD) : Bool := decide (fr ≤ c.seen) && decide (fr + l.length ≤ 40)
def hearableB (c : CliD) (fr : Int) (l : List EntD) : Bool := fitB c fr l && hearTo c (newE c fr l) (newE c fr l).length
def entsB (l : List EntD) : Bool := (List.range l.length).all fun i => entB (eat l i)
def chOk (c : CliD) (fr : Int) (l : List EntD) : Bool := cliB c && (inB fr 0 40 && entsB l)
def cliHear (c : CliD) (fr : Int) (l : List EntD) : CliD := if chOk c fr l then (if hearableB c fr l then heardC c (newE c fr l) (newE c fr l).length else c) else zcli
def cliHearB (c : CliD) (fr : Int) (l : List EntD) : Bool := chOk c fr l && hearableB c fr l
theorem hearTo_succ (c : CliD) (l : List EntD) (k : Nat) : hearTo c l (k + 1) = (hearTo c l k && hstepB c l k) := by simp [hearTo, List.range_succ]
theorem hearTo_zero (c : CliD) (l : List EntD) : hearTo c l 0 = true := rfl
theorem hearTo_at {c : CliD} {l : List EntD} {k i : Nat} (h : hearTo c l k = true) (hi : i < k) : hstepB c l i = true := by
  simp only [hearTo, List.all_eq_true, List.mem_range] at h; exact h i hi
theorem hearTo_bad {c : CliD} {l : List EntD} {k n : Nat} (hk : k < n) (h : hstepB c l k = false) : hearTo c l n = false := by
  rw [Bool.eq_false_iff]; intro g
  rw [hearTo_at g hk] at h; cases h
theorem hstep_other {c : CliD} {l : List EntD} {i : Nat} (h : ¬ (eat l i).who = c.who) : hstepB c l i = true := by simp [hstepB, h]
theorem hstep_none {c : CliD} {l : List EntD} {i : Nat} (h : (eat l i).who = c.who) (h2 : ¬ cntTo l c.who i < c.wait.length) : hstepB c l i = false := by simp [hstepB, h, h2]
theorem hstep_own {c : CliD} {l : List EntD} {i : Nat} (h : (eat l i).who = c.who) (h2 : cntTo l c.who i < c.wait.length) : hstepB c l i = sameB (eat c.wait (cntTo l c.who i)) (eat l i) := by simp [hstepB, h, h2]
theorem hear_cnt {c : CliD} {l : List EntD} : ∀ {k : Nat}, hearTo c l k = true → cntTo l c.who k ≤ c.wait.length
  | 0, _ => Nat.zero_le _
  | k + 1, h => by
    rw [hearTo_succ, Bool.and_eq_true] at h
    have ih := hear_cnt h.1
    rw [cntTo_succ]
    by_cases e : (eat l k).who = c.who
    · rw [if_pos e]
      by_cases e2 : cntTo l c.who k < c.wait.length
      · omega
      · rw [hstep_none e e2] at h; cases h.2
    · rw [if_neg e]; omega
theorem chear_no {c : CliD} {fr : Int} {l : List EntD} (h : chOk c fr l = false) : cliHear c fr l = zcli ∧ cliHearB c fr l = false := by simp [cliHear, cliHearB, h]
theorem chear_same {c : CliD} {fr : Int} {l : List EntD} (h : chOk c fr l = true) (h2 : hearableB c fr l = false) : cliHear c fr l = c ∧ cliHearB c fr l = false := by simp [cliHear, cliHearB, h, h2]
theorem chear_is {c : CliD} {fr : Int} {l : List EntD} (h : chOk c fr l = true) (h2 : hearableB c fr l = true) : cliHear c fr l = heardC c (newE c fr l) (newE c fr l).length ∧ cliHearB c fr l = true := by simp [cliHear, cliHearB, h, h2]
theorem ents_at {l : List EntD} (h : entsB l = true) {i : Nat} (hi : i < l.length) : entB (eat l i) = true := by
  simp only [entsB, List.all_eq_true, List.mem_range] at h; exact h i hi
theorem ents_bad {l : List EntD} {k : Nat} (hk : k < l.length) (h : entB (eat l k) = false) : entsB l = false := by
  rw [Bool.eq_false_iff]; intro g
  rw [ents_at g hk] at h; cases h
theorem ents_all {l : List EntD} (h : ∀ i, i < l.length → entB (eat l i) = true) : entsB l = true := by
  simp only [entsB, List.all_eq_true, List.mem_range]; exact h
theorem chOk_iff {c : CliD} {fr : Int} {l : List EntD} : chOk c fr l = true ↔ cliB c = true ∧ (0 ≤ fr ∧ fr ≤ 40) ∧ entsB l = true := by
  unfold chOk; rw [Bool.and_eq_true, Bool.and_eq_true, inB_iff]
theorem eat_drop (es : List EntD) (s i : Nat) : eat (es.drop s) i = eat es (s + i) := by
  unfold eat; rw [List.getD_eq_getElem?_getD, List.getD_eq_getElem?_getD, List.getElem?_drop]
end Go.Proofs.YtogafpfgdonlmaaDoor
