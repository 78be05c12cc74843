/-
  KeyBack as a plain function of an outline and a change, and the contract of the program's KeyBack at every change. Conditions: as each theorem says.
-/
import Derived.Test.YtklefdhjfadhpaaDoorJKeyB2
import Derived.Test.YtklefdhjfadhpaaDoorJGoM
import Derived.Test.YtklefdhjfadhpaaDoorGG
namespace Go.Proofs.YtklefdhjfadhpaaDoor
open Go.ChangeShapes Go.WideShapes Go.ChangeAt Go.RowKit Go.Joins

/-- Whether a change turns an outline. -/
noncomputable def chgB (rs : List RowD) (o : OpD) : Bool := @decide (doR rs o ≠ rs) (Classical.propDecidable _)
def kbackP (rs : List RowD) (o : OpD) : OpD := if o.kind = 2 then ⟨2, o.id, 0, 0, (rat rs (atN rs o.id)).txt⟩ else if o.kind = 1 then moveO o.id 2 0 else moveO o.id (upAt rs (atN rs o.id)) (ahAt rs (atN rs o.id))
noncomputable def kbackB (rs : List RowD) (o : OpD) : Bool := treeB rs && (opokB o && chgB rs o)
noncomputable def kbackO (rs : List RowD) (o : OpD) : OpD := if kbackB rs o then kbackP rs o else kz
theorem chg_yes {rs : List RowD} {o : OpD} : chgB rs o = true ↔ doR rs o ≠ rs := by unfold chgB; exact @decide_eq_true_iff _ (Classical.propDecidable _)
theorem chg_no {rs : List RowD} {o : OpD} : chgB rs o = false ↔ doR rs o = rs := by
  rw [← Bool.not_eq_true, chg_yes]; exact Classical.not_not
theorem kback_no {rs : List RowD} {o : OpD} (h : kbackB rs o = false) : kbackO rs o = kz := by simp [kbackO, h]
theorem kback_is {rs : List RowD} {o : OpD} (h : kbackB rs o = true) : kbackO rs o = kbackP rs o := by simp [kbackO, h]
theorem kback_iff {rs : List RowD} {o : OpD} : kbackB rs o = true ↔ treeB rs = true ∧ opokB o = true ∧ doR rs o ≠ rs := by
  unfold kbackB; rw [Bool.and_eq_true, Bool.and_eq_true, chg_yes]
theorem word_there {rs : List RowD} {o : OpD} (hk : o.kind = 2) (h : doR rs o ≠ rs) : thereB rs o.id = true := by
  cases ht : thereB rs o.id
  · exfalso; apply h; unfold doR; simp [hk, ht]
  · rfl
theorem move_there {rs : List RowD} {o : OpD} (hk : o.kind = 3) (h : doR rs o ≠ rs) : thereB rs o.id = true := by
  cases ht : thereB rs o.id
  · exact absurd (do_move_no hk ht) h
  · rfl
theorem setTxt_same {rs : List RowD} {k : Nat} {t : ByteArray} (hk : k < rs.length) : setTxt rs k t = rs ↔ (rat rs k).txt = t := by
  have hr : rat rs k = rs[k] := by simp [rat, hk]
  constructor
  · intro h
    have h2 := congrArg (fun l => rat l k) h
    simp only [rat, setTxt, List.getD_eq_getElem?_getD, List.getElem?_modify, if_true, List.getElem?_eq_getElem hk, Option.map_eq_map, Option.map_some, Option.getD_some] at h2
    rw [hr, ← h2]
  · intro h
    rw [hr] at h
    apply List.ext_getElem (by simp [setTxt])
    intro i h1 h2
    simp only [setTxt, List.getElem_modify]
    split
    · rename_i e; subst e; subst h; rfl
    · rfl
theorem word_chg {rs : List RowD} {o : OpD} (hk : o.kind = 2) (ht : thereB rs o.id = true) : doR rs o = rs ↔ (rat rs (atN rs o.id)).txt = o.txt := by
  have h1 : atN rs o.id < rs.length := by simpa [thereB] using ht
  rw [show doR rs o = setTxt rs (atN rs o.id) o.txt by simp [doR, hk, ht]]
  exact setTxt_same h1
theorem no_where {rs : List RowD} {o : OpD} (hk : o.kind ≠ 2) (hn : noWhereB rs o = true) : doR rs o = rs := by simp [doR, hk, hn]
theorem implKeyBack_any (B : Nat) (a : Option Addr) (cap : Nat) (rs : List RowD) (o : OpD) (w : World) (hB : B ≤ w.heap.size) (h : RowsAt B w a rs) (hf : Fit rs) (ho : OpFit o) (ht : Tab w) :
    Calls Tryd.prog 27 #[.slice a rs.length cap, .agg #[.int .i64 o.kind, .int .i64 o.id, .int .i64 o.up, .int .i64 o.at_, .string o.txt]] w (RetBelow (keyV (kbackO rs o) (kbackB rs o)) w) := by
  cases hok : opokB o
  · have hb : kbackB rs o = false := by simp [kbackB, hok]
    rw [kback_no hb, hb]
    exact keyBack_bad B a cap rs o w hB h hf ho ht hok
  · cases htb : treeB rs
    · have hb : kbackB rs o = false := by simp [kbackB, htb]
      rw [kback_no hb, hb]
      exact keyBack_none B a cap rs o w hB h hf ho ht hok htb
    · have hd : doT rs o = doR rs o := by simp [doT, htb, hok]
      by_cases hs : doR rs o = rs
      · have hb : kbackB rs o = false := by simp [kbackB, chg_no.2 hs]
        rw [kback_no hb, hb]
        exact keyBack_still B a cap rs o w hB h hf ho ht hok htb (hd.trans hs)
      · have hb : kbackB rs o = true := kback_iff.2 ⟨htb, hok, hs⟩
        have hs' : doT rs o ≠ rs := by rw [hd]; exact hs
        rw [kback_is hb, hb]
        rcases opok_kind hok with hk | hk | hk
        · rw [show kbackP rs o = moveO o.id 2 0 by simp [kbackP, hk]]
          exact keyBack_make B a cap rs o w hB h hf ho ht hok htb hs' hk
        · rw [show kbackP rs o = ⟨2, o.id, 0, 0, (rat rs (atN rs o.id)).txt⟩ by simp [kbackP, hk]]
          exact keyBack_word B a cap rs o w hB h hf ho ht hok htb hs' hk (word_there hk hs)
        · rw [show kbackP rs o = moveO o.id (upAt rs (atN rs o.id)) (ahAt rs (atN rs o.id)) by simp [kbackP, hk]]
          exact keyBack_move B a cap rs o w hB h hf ho ht hok htb hs' hk (move_there hk hs)
end Go.Proofs.YtklefdhjfadhpaaDoor
