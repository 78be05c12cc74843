/-
  Plain mathematics of clients: valid behind hearing and doing, hearing twice, in parts, of its own, of others; which rows are shown. Nothing of the program is run here. Conditions: none beyond the lemmas' own premises.
-/
import Derived.Test.YtogafpfgdonlmaaDoorJCliM2
import Derived.Test.YtogafpfgdonlmaaDoorJLogTK
namespace Go.Proofs.YtogafpfgdonlmaaDoor
open Go.RowKit

theorem newE_len (c : CliD) (fr : Int) (l : List EntD) : (newE c fr l).length = l.length - (c.seen - fr).toNat := by unfold newE; rw [List.length_drop]
theorem newE_ent {c : CliD} {fr : Int} {l : List EntD} (h : entsB l = true) {i : Nat} (hi : i < (newE c fr l).length) : entB (eat (newE c fr l) i) = true := by
  rw [newE_len] at hi
  unfold newE; rw [eat_drop]
  exact ents_at h (by omega)
theorem wait_drop {c : CliD} {n : Nat} (h : waitB c = true) : waitTo c.who (c.done + n) c.made (c.wait.drop n) (c.wait.drop n).length = true := by
  refine waitTo_all fun i hi => ?_
  rw [List.length_drop] at hi
  have h1 := wstep_iff.1 (waitTo_at h (show n + i < c.wait.length by omega))
  refine wstep_iff.2 ?_
  rw [eat_drop]
  refine ⟨h1.1, h1.2.1, ?_, h1.2.2.2⟩
  have := h1.2.2.1; push_cast at this; omega
theorem heard_ok {c : CliD} {fr : Int} {l : List EntD} (h : chOk c fr l = true) (h2 : hearableB c fr l = true) : cliB (heardC c (newE c fr l) (newE c fr l).length) = true := by
  obtain ⟨hc, hfr, hl⟩ := chOk_iff.1 h
  obtain ⟨⟨f1, f2⟩, h3⟩ := hearable_iff.1 h2
  obtain ⟨hh, hw⟩ := cli_iff.1 hc
  obtain ⟨e1, e2, e3, e4, e5, e6, e7⟩ := head_iff.1 hh
  have k1 := newE_len c fr l
  have k2 := cntTo_le (newE c fr l) c.who (newE c fr l).length
  have k3 := hear_cnt h3
  have ho : ∀ i, i < (newE c fr l).length → opokB (eat (newE c fr l) i).op = true := fun i hi => ent_opok (newE_ent hl hi)
  refine cli_iff.2 ⟨head_iff.2 ⟨e1, ⟨?_, ?_⟩, treeFrom_ok e3 ho, ⟨?_, ?_⟩, ?_, e6, e7⟩, wait_drop hw⟩
  · show 0 ≤ c.seen + ((newE c fr l).length : Int); omega
  · show c.seen + ((newE c fr l).length : Int) ≤ 40; omega
  · show 0 ≤ c.done + (cntTo (newE c fr l) c.who (newE c fr l).length : Int); omega
  · show c.done + (cntTo (newE c fr l) c.who (newE c fr l).length : Int) ≤ c.seen + ((newE c fr l).length : Int); omega
  · show c.done + (cntTo (newE c fr l) c.who (newE c fr l).length : Int) + ((c.wait.drop (cntTo (newE c fr l) c.who (newE c fr l).length)).length : Int) ≤ 40
    rw [List.length_drop]; omega
/-- What is in is not in twice. -/
theorem hear_twice {c : CliD} {fr : Int} {l : List EntD} (h : chOk c fr l = true) (h2 : hearableB c fr l = true) : chOk (heardC c (newE c fr l) (newE c fr l).length) fr l = true ∧ hearableB (heardC c (newE c fr l) (newE c fr l).length) fr l = true ∧
    cliHear (heardC c (newE c fr l) (newE c fr l).length) fr l = heardC c (newE c fr l) (newE c fr l).length := by
  obtain ⟨hc, hfr, hl⟩ := chOk_iff.1 h
  obtain ⟨⟨f1, f2⟩, h3⟩ := hearable_iff.1 h2
  have hx := heard_ok h h2
  have k1 := newE_len c fr l
  have hs : (heardC c (newE c fr l) (newE c fr l).length).seen = c.seen + ((newE c fr l).length : Int) := rfl
  have hok : chOk (heardC c (newE c fr l) (newE c fr l).length) fr l = true := chOk_iff.2 ⟨hx, hfr, hl⟩
  generalize heardC c (newE c fr l) (newE c fr l).length = x at *
  have hn : newE x fr l = [] := by
    unfold newE; exact List.drop_eq_nil_of_le (by omega)
  have hh : hearableB x fr l = true := hearable_iff.2 ⟨⟨by omega, f2⟩, by rw [hn]; rfl⟩
  refine ⟨hok, hh, ?_⟩
  rw [(chear_is hok hh).1, hn]
  exact heardC_zero x []

/-! ### in parts -/
theorem cnt_split (l : List EntD) (who : Int) (m : Nat) : ∀ j, cntTo l who (m + j) = cntTo l who m + cntTo (l.drop m) who j
  | 0 => rfl
  | j + 1 => by
    rw [show m + (j + 1) = m + j + 1 by omega, cntTo_succ, cntTo_succ, cnt_split l who m j, eat_drop]; omega
theorem tree_split (t : List RowD) (l : List EntD) (m : Nat) : ∀ j, treeFrom t l (m + j) = treeFrom (treeFrom t l m) (l.drop m) j
  | 0 => rfl
  | j + 1 => by
    show doR (treeFrom t l (m + j)) (eat l (m + j)).op = doR (treeFrom (treeFrom t l m) (l.drop m) j) (eat (l.drop m) j).op
    rw [tree_split t l m j, eat_drop]
theorem hstep_split (c : CliD) (l : List EntD) (m i : Nat) : hstepB (heardC c l m) (l.drop m) i = hstepB c l (m + i) := by
  unfold hstepB
  rw [eat_drop]
  have e1 : (heardC c l m).who = c.who := rfl
  have e2 : (heardC c l m).wait = c.wait.drop (cntTo l c.who m) := rfl
  rw [e1, e2, eat_drop, cnt_split, List.length_drop]
  have : (cntTo (l.drop m) c.who i < c.wait.length - cntTo l c.who m) ↔ (cntTo l c.who m + cntTo (l.drop m) c.who i < c.wait.length) := by omega
  simp only [this]
theorem heard_split (c : CliD) (l : List EntD) (m j : Nat) : heardC (heardC c l m) (l.drop m) j = heardC c l (m + j) := by
  unfold heardC
  simp only [cnt_split l c.who m j, tree_split c.base l m j, List.drop_drop]
  congr 1 <;> push_cast <;> omega
theorem hstep_take {c : CliD} {l : List EntD} {m i : Nat} (h : i < m) : hstepB c (l.take m) i = hstepB c l i := by
  unfold hstepB
  rw [eat_take h, cntTo_congr (fs := l) _ (fun j hj => eat_take (show j < m by omega))]
theorem heard_take {c : CliD} {l : List EntD} (m : Nat) : heardC c (l.take m) m = heardC c l m := by
  unfold heardC
  rw [cntTo_congr (fs := l) _ (fun j hj => eat_take (show j < m by omega)), treeFrom_congr (fs := l) (fun j hj => eat_take (show j < m by omega))]
theorem ents_part {l : List EntD} (h : entsB l = true) (k : Nat) : entsB (l.take k) = true ∧ entsB (l.drop k) = true := by
  constructor
  · refine ents_all fun i hi => ?_
    rw [List.length_take] at hi
    rw [eat_take (by omega)]; exact ents_at h (by omega)
  · refine ents_all fun i hi => ?_
    rw [List.length_drop] at hi
    rw [eat_drop]; exact ents_at h (by omega)
/-- In parts it is as at once. -/
theorem hear_cut {c : CliD} {fr : Int} {l : List EntD} (h : chOk c fr l = true) (h2 : hearableB c fr l = true) {k : Nat} (hk : k ≤ l.length) :
    cliHearB c fr (l.take k) = true ∧ cliHearB (cliHear c fr (l.take k)) (fr + k) (l.drop k) = true ∧ cliHear (cliHear c fr (l.take k)) (fr + k) (l.drop k) = cliHear c fr l := by
  obtain ⟨hc, hfr, hl⟩ := chOk_iff.1 h
  obtain ⟨⟨f1, f2⟩, h3⟩ := hearable_iff.1 h2
  obtain ⟨p1, p2⟩ := ents_part hl k
  have hl1 : (l.take k).length = k := by rw [List.length_take]; omega
  have hl2 : (l.drop k).length = l.length - k := List.length_drop ..
  have ok1 : chOk c fr (l.take k) = true := chOk_iff.2 ⟨hc, hfr, p1⟩
  have hs : ∃ s : Nat, c.seen - fr = (s : Int) := Int.eq_ofNat_of_zero_le (by omega)
  obtain ⟨s, hs⟩ := hs
  have hn : newE c fr l = l.drop s := by unfold newE; rw [hs]; rfl
  rw [hn] at h3
  have hfin : cliHear c fr l = heardC c (l.drop s) (l.drop s).length := by rw [(chear_is h h2).1, hn]
  have hn1 : newE c fr (l.take k) = (l.take k).drop s := by unfold newE; rw [hs]; rfl
  by_cases q : k ≤ s
  · have e1 : (l.take k).drop s = [] := List.drop_eq_nil_of_le (by omega)
    have hh1 : hearableB c fr (l.take k) = true := hearable_iff.2 ⟨⟨f1, by omega⟩, by rw [hn1, e1]; rfl⟩
    have r1 : cliHear c fr (l.take k) = c := by rw [(chear_is ok1 hh1).1, hn1, e1]; exact heardC_zero c []
    rw [r1]
    have hn2 : newE c (fr + k) (l.drop k) = l.drop s := by
      unfold newE
      rw [show (c.seen - (fr + (k : Int))).toNat = s - k by omega, List.drop_drop, show k + (s - k) = s by omega]
    have ok2 : chOk c (fr + k) (l.drop k) = true := chOk_iff.2 ⟨hc, by omega, p2⟩
    have hh2 : hearableB c (fr + k) (l.drop k) = true := hearable_iff.2 ⟨⟨by omega, by omega⟩, by rw [hn2]; exact h3⟩
    refine ⟨(chear_is ok1 hh1).2, (chear_is ok2 hh2).2, ?_⟩
    rw [(chear_is ok2 hh2).1, hn2, hfin]
  · have e1 : (l.take k).drop s = (l.drop s).take (k - s) := by rw [List.drop_take]
    have el : ((l.drop s).take (k - s)).length = k - s := by rw [List.length_take, List.length_drop]; omega
    have el2 : (l.drop s).length = (k - s) + (l.drop k).length := by rw [List.length_drop, hl2]; omega
    have hh1 : hearableB c fr (l.take k) = true := hearable_iff.2 ⟨⟨f1, by omega⟩, by
      rw [hn1, e1, el]
      refine hearTo_all fun i hi => ?_
      rw [hstep_take hi]
      exact hearTo_at h3 (by omega)⟩
    have r1 : cliHear c fr (l.take k) = heardC c (l.drop s) (k - s) := by rw [(chear_is ok1 hh1).1, hn1, e1, el]; exact heard_take (k - s)
    have hx : cliB (heardC c (l.drop s) (k - s)) = true := by
      have := heard_ok ok1 hh1
      rw [← (chear_is ok1 hh1).1, r1] at this; exact this
    rw [r1]
    have hsn : (heardC c (l.drop s) (k - s)).seen = c.seen + ((k - s : Nat) : Int) := rfl
    have hd : (l.drop s).drop (k - s) = l.drop k := by rw [List.drop_drop]; congr 1; omega
    have hsp : ∀ i, i < (l.drop k).length → hstepB (heardC c (l.drop s) (k - s)) (l.drop k) i = true := fun i hi => by
      rw [← hd, hstep_split]
      exact hearTo_at h3 (by omega)
    have hsg := heard_split c (l.drop s) (k - s) (l.drop k).length
    rw [hd, ← el2] at hsg
    generalize heardC c (l.drop s) (k - s) = x at *
    have hn2 : newE x (fr + k) (l.drop k) = l.drop k := by
      unfold newE
      rw [show (x.seen - (fr + (k : Int))).toNat = 0 by omega, List.drop_zero]
    have ok2 : chOk x (fr + k) (l.drop k) = true := chOk_iff.2 ⟨hx, by omega, p2⟩
    have hh2 : hearableB x (fr + k) (l.drop k) = true := hearable_iff.2 ⟨⟨by omega, by omega⟩, by rw [hn2]; exact hearTo_all hsp⟩
    refine ⟨(chear_is ok1 hh1).2, (chear_is ok2 hh2).2, ?_⟩
    rw [(chear_is ok2 hh2).1, hn2, hfin, hsg]

/-! ### of its own -/
theorem cnt_own {c : CliD} (h : waitB c = true) : ∀ {k : Nat}, k ≤ c.wait.length → cntTo c.wait c.who k = k
  | 0, _ => rfl
  | k + 1, hk => by
    rw [cntTo_succ, cnt_own h (k := k) (by omega), if_pos (wstep_iff.1 (waitTo_at h (show k < c.wait.length by omega))).2.1]
theorem hears_own {c : CliD} (h : cliB c = true) (h2 : c.seen + c.wait.length ≤ 40) :
    cliHearB c c.seen c.wait = true ∧ cliHear c c.seen c.wait = ⟨c.who, c.seen + c.wait.length, cliShow c, [], c.done + c.wait.length, c.made⟩ ∧ cliB ⟨c.who, c.seen + c.wait.length, cliShow c, [], c.done + c.wait.length, c.made⟩ = true ∧
      cliShow ⟨c.who, c.seen + c.wait.length, cliShow c, [], c.done + c.wait.length, c.made⟩ = cliShow c := by
  obtain ⟨hh, hw⟩ := cli_iff.1 h
  obtain ⟨e1, e2, e3, e4, e5, e6, e7⟩ := head_iff.1 hh
  have hn : newE c c.seen c.wait = c.wait := by unfold newE; rw [show c.seen - c.seen = 0 by omega]; rfl
  have ok : chOk c c.seen c.wait = true := chOk_iff.2 ⟨h, e2, ents_all (cli_ops h)⟩
  have hb : hearableB c c.seen c.wait = true := hearable_iff.2 ⟨⟨Int.le_refl _, h2⟩, by
    rw [hn]
    refine hearTo_all fun i hi => ?_
    have hc := cnt_own hw (k := i) (by omega)
    rw [hstep_own (wstep_iff.1 (waitTo_at hw hi)).2.1 (by rw [hc]; exact hi), hc]
    exact sameB_iff.2 rfl⟩
  have hr : cliHear c c.seen c.wait = ⟨c.who, c.seen + c.wait.length, cliShow c, [], c.done + c.wait.length, c.made⟩ := by
    rw [(chear_is ok hb).1, hn]
    unfold heardC
    rw [cnt_own hw (Nat.le_refl _), show_is h, List.drop_length]
  have hx : cliB ⟨c.who, c.seen + c.wait.length, cliShow c, [], c.done + c.wait.length, c.made⟩ = true := by
    rw [← hr, (chear_is ok hb).1]; exact heard_ok ok hb
  exact ⟨(chear_is ok hb).2, hr, hx, by rw [show_is hx]; rfl⟩

/-! ### which rows are shown -/
theorem do_only {rs : List RowD} {o : OpD} {id : Int} (hok : opokB o = true) (h : thereB (doR rs o) id = true) : thereB rs id = true ∨ (o.kind = 1 ∧ o.id = id) := by
  by_cases q : o.kind = 1 ∧ ¬ atN rs o.id < rs.length
  · obtain ⟨hk, hn⟩ := q
    rw [there_mem] at h
    obtain ⟨r, hr, rfl⟩ := h
    by_cases hw : noWhereB rs o = true
    · rw [doR_no hk hw] at hr
      exact .inl (there_mem.2 ⟨r, hr, rfl⟩)
    · rw [doR_put hk (by simpa using hw)] at hr
      rcases put_mem hr with h1 | ⟨s, hs, e⟩
      · exact .inl (there_mem.2 ⟨r, h1, rfl⟩)
      · simp only [List.mem_singleton] at hs
        subst hs
        exact .inr ⟨hk, e⟩
  · have hq : o.kind = 1 → atN rs o.id < rs.length := fun hk => by
      by_cases q2 : atN rs o.id < rs.length
      · exact q2
      · exact absurd ⟨hk, q2⟩ q
    rw [there_mem] at h
    obtain ⟨r, hr, rfl⟩ := h
    exact .inl (there_iff.2 ((do_same hok hq).2 r hr))
theorem from_only {t0 : List RowD} {es : List EntD} {id : Int} : ∀ {n : Nat}, (∀ i, i < n → opokB (eat es i).op = true) → thereB (treeFrom t0 es n) id = true → thereB t0 id = true ∨ ∃ i, i < n ∧ (eat es i).op.kind = 1 ∧ (eat es i).op.id = id
  | 0, _, h => .inl h
  | n + 1, ho, h => by
    rcases do_only (ho n (by omega)) h with h1 | ⟨h1, h2⟩
    · rcases from_only (n := n) (fun i hi => ho i (by omega)) h1 with g | ⟨i, hi, g⟩
      · exact .inl g
      · exact .inr ⟨i, by omega, g⟩
    · exact .inr ⟨n, by omega, h1, h2⟩
theorem from_made {t0 : List RowD} {es : List EntD} {n i : Nat} (ho : ∀ i, i < n → opokB (eat es i).op = true) (hi : i < n) (hk : (eat es i).op.kind = 1) : thereB (treeFrom t0 es n) (eat es i).op.id = true :=
  keep_from (k := i + 1) (do_there1 hk (ho i hi)) hi ho
theorem from_keep {t0 : List RowD} {es : List EntD} {n : Nat} {id : Int} (ho : ∀ i, i < n → opokB (eat es i).op = true) (h : thereB t0 id = true) : thereB (treeFrom t0 es n) id = true :=
  keep_from (k := 0) h (Nat.zero_le _) ho
theorem do_len {rs : List RowD} {o : OpD} (hok : opokB o = true) : rs.length ≤ (doR rs o).length := by
  by_cases q : o.kind = 1 ∧ ¬ atN rs o.id < rs.length
  · rw [(do_made q.1 q.2).1]; omega
  · have hq : o.kind = 1 → atN rs o.id < rs.length := fun hk => by
      by_cases q2 : atN rs o.id < rs.length
      · exact q2
      · exact absurd ⟨hk, q2⟩ q
    rw [(do_same hok hq).1]; omega
theorem from_len {t0 : List RowD} {es : List EntD} : ∀ {n : Nat}, (∀ i, i < n → opokB (eat es i).op = true) → t0.length ≤ (treeFrom t0 es n).length
  | 0, _ => Nat.le_refl _
  | n + 1, ho => Nat.le_trans (from_len (n := n) (fun i hi => ho i (by omega))) (do_len (ho n (by omega)))
/-- What somebody shows is there still when others changed what is in. -/
theorem show_more {t0 t1 : List RowD} {es : List EntD} {id : Int} {n : Nat} (ho : ∀ i, i < n → opokB (eat es i).op = true) (hk : ∀ j, thereB t0 j = true → thereB t1 j = true) (h : thereB (treeFrom t0 es n) id = true) : thereB (treeFrom t1 es n) id = true := by
  rcases from_only ho h with g | ⟨i, hi, h1, h2⟩
  · exact from_keep ho (hk id g)
  · rw [← h2]; exact from_made ho hi h1

/-! ### doing -/
theorem doOk_iff {c : CliD} {o : OpD} (h : cliB c = true) (ho : opokB o = true) : doOk c o = (decide (c.done + c.wait.length < 40) && (!(o.kind == 1) || (madeI c.who (c.made + 1) == o.id))) := by
  obtain ⟨e1, e2, e3, e4, e5, e6, e7⟩ := head_iff.1 (cli_iff.1 h).1
  rw [Bool.eq_iff_iff]
  simp only [doOk, turnB, entB, cent, mineB, Bool.and_eq_true, inB_iff, decide_eq_true_eq, Bool.or_eq_true, Bool.not_eq_true', beq_eq_false_iff_ne, beq_iff_eq, ho]
  constructor
  · rintro ⟨⟨⟨⟨_, h2⟩, _⟩, _⟩, h4⟩
    refine ⟨by omega, ?_⟩
    rcases h4 with h4 | h4
    · exact .inl h4
    · exact .inr h4.symm
  · rintro ⟨h1, h2⟩
    refine ⟨⟨⟨⟨e1, by omega, by omega⟩, trivial⟩, ?_⟩, ?_⟩
    · rcases h2 with h2 | h2
      · exact .inl h2
      · right
        have hm := opok_made ho
        rw [← h2] at hm ⊢
        by_cases q : c.made + 1 ≤ 6
        · exact whoI_made e1.1 e1.2 (by omega) q
        · exfalso
          rw [madeI_no (by omega)] at hm
          exact absurd hm (by decide)
    · rcases h2 with h2 | h2
      · exact .inl h2
      · exact .inr h2.symm
theorem done_ok {c : CliD} {o : OpD} (h : cliB c = true) (h2 : doOk c o = true) : cliB ⟨c.who, c.seen, c.base, c.wait ++ [cent c o], c.done, if o.kind = 1 then c.made + 1 else c.made⟩ = true := by
  obtain ⟨hh, hw⟩ := cli_iff.1 h
  obtain ⟨e1, e2, e3, e4, e5, e6, e7⟩ := head_iff.1 hh
  simp only [doOk, Bool.and_eq_true] at h2
  obtain ⟨h3, h4⟩ := h2
  have hs := ent_seq h3
  have hs2 : c.done + c.wait.length + 1 ≤ 40 := hs.2
  have hl : ((c.wait ++ [cent c o]).length : Int) = c.wait.length + 1 := by simp
  have hmd : o.kind = 1 → o.id = 10 * c.who + (c.made + 1) ∧ c.made + 1 ≤ 6 := fun hk => by
    simp only [turnB, hk, beq_self_eq_true, Bool.not_true, Bool.false_or, beq_iff_eq] at h4
    have hm := opok_made (ent_opok h3)
    by_cases q : c.made + 1 ≤ 6
    · refine ⟨?_, q⟩
      rw [h4, madeI_is e1.1 e1.2 (by omega) q]
    · exfalso
      have : madeB o.id = true := hm
      rw [h4, madeI_no (by omega)] at this
      exact absurd this (by decide)
  refine cli_iff.2 ⟨head_iff.2 ⟨e1, e2, e3, e4, ?_, ?_, ?_⟩, waitTo_all fun i hi => ?_⟩
  · show c.done + ((c.wait ++ [cent c o]).length : Int) ≤ 40; omega
  · show 0 ≤ if o.kind = 1 then c.made + 1 else c.made
    split <;> omega
  · show (if o.kind = 1 then c.made + 1 else c.made) ≤ 6
    split
    · rename_i q; exact (hmd q).2
    · exact e7
  · have hi' : i < (c.wait ++ [cent c o]).length := hi
    simp only [List.length_append, List.length_singleton] at hi'
    show wstepB c.who c.done (if o.kind = 1 then c.made + 1 else c.made) (c.wait ++ [cent c o]) i = true
    by_cases q : i < c.wait.length
    · have h5 := wstep_iff.1 (waitTo_at hw q)
      refine wstep_iff.2 ?_
      rw [eat_app_left q]
      refine ⟨h5.1, h5.2.1, h5.2.2.1, ?_⟩
      have h6 := h5.2.2.2
      unfold overB at h6 ⊢
      rw [Bool.and_eq_false_iff] at h6 ⊢
      rcases h6 with h6 | h6
      · exact .inl h6
      · right
        rw [decide_eq_false_iff_not] at h6 ⊢
        split <;> omega
    · obtain rfl : i = c.wait.length := by omega
      refine wstep_iff.2 ?_
      rw [eat_app_last]
      refine ⟨h3, rfl, rfl, ?_⟩
      unfold overB
      show ((o.kind == 1) && decide (10 * c.who + (if o.kind = 1 then c.made + 1 else c.made) < o.id)) = false
      by_cases hk : o.kind = 1
      · rw [if_pos hk]
        have := (hmd hk).1
        simp; intro; omega
      · simp [hk]
theorem done_show {c : CliD} {o : OpD} (h : cliB c = true) (h2 : doOk c o = true) : cliShow ⟨c.who, c.seen, c.base, c.wait ++ [cent c o], c.done, if o.kind = 1 then c.made + 1 else c.made⟩ = doR (cliShow c) o := by
  rw [show_is (done_ok h h2), show_is h]
  show treeFrom c.base (c.wait ++ [cent c o]) (c.wait ++ [cent c o]).length = _
  rw [List.length_append, List.length_singleton]
  show doR (treeFrom c.base (c.wait ++ [cent c o]) c.wait.length) (eat (c.wait ++ [cent c o]) c.wait.length).op = _
  rw [eat_app_last, treeFrom_congr (fs := c.wait) (fun i hi => eat_app_left hi)]
  rfl
end Go.Proofs.YtogafpfgdonlmaaDoor
