/-
  Joined texts, each with its own head: what it holds, and its conditions.
-/
import Derived.Test.YtlhlkbbjmbpgpaaDoorGX
import Derived.Test.YtlhlkbbjmbpgpaaDoorGG
import Derived.Test.YtlhlkbbjmbpgpaaDoorGD
import Derived.Test.YtlhlkbbjmbpgpaaDoorGE
import Derived.Test.YtlhlkbbjmbpgpaaDoorGB
import Derived.Test.YtlhlkbbjmbpgpaaDoorGA
import Derived.Test.YtlhlkbbjmbpgpaaDoorGH

/-
  The walk of the law FnRootsStay out of the contracts. Conditions: the argument reads as bytes; the table 'creators' holds what its initialiser lays.
-/
namespace Go.Proofs.YtlhlkbbjmbpgpaaDoor
open Go.ChangeShapes Go.WideShapes Go.ChangeAt Go.RowKit Go.Joins

theorem root_yes {rs : List RowD} (h : treeB rs = true) {k : Nat} (hk : k < rs.length) (hd : (rat rs k).dep = 0) : (rat rs k).id = (nroots rs k : Int) + 1 ∧ nroots rs (k + 1) = nroots rs k + 1 := by
  have hT := treeP_of h
  rcases rok_cases (hT.rok k hk) with ⟨h1, _⟩ | ⟨_, _, h3, _⟩
  · exact ⟨hT.rord k hk h1, by rw [nroots_succ, if_pos h1]⟩
  · omega
theorem root_no {rs : List RowD} (h : treeB rs = true) {k : Nat} (hk : k < rs.length) (hd : ¬ (rat rs k).dep = 0) : nroots rs (k + 1) = nroots rs k := by
  rcases rok_cases ((treeP_of h).rok k hk) with ⟨_, h2, _⟩ | ⟨h1, _⟩
  · exact absurd h2 hd
  · rw [nroots_succ, h1]; simp
theorem doT_tree {rs : List RowD} {o : OpD} (h1 : treeB rs = true) (h2 : opokB o = true) : treeB (doT rs o) = true := by
  have e : doT rs o = doR rs o := by simp [doT, h1, h2]
  rw [e]; exact do_tree h1 h2
end Go.Proofs.YtlhlkbbjmbpgpaaDoor
/-
  The walk of the law FnNoLoop out of the contracts. Conditions: the argument reads as bytes; the table 'creators' holds what its initialiser lays.
-/
namespace Go.Proofs.YtlhlkbbjmbpgpaaDoor
open Go.ChangeShapes Go.WideShapes Go.ChangeAt Go.RowKit Go.Joins

theorem tree_fit {rs : List RowD} (h : treeB rs = true) (hl : rs.length ≤ 1048576) : Fit rs := by
  refine ⟨hl, fun i hi => ?_⟩
  unfold I64 maxLen
  rcases rok_cases ((treeP_of h).rok i hi) with ⟨h1, h2, h3⟩ | ⟨_, h2, h3, h4, h5⟩
  · have := (rootB_iff _).1 h1
    have h6 := textB_nil (t := (rat rs i).txt) (by rw [beq_iff_eq]; exact List.isEmpty_iff.1 h3)
    simp only [textB, Bool.and_eq_true, decide_eq_true_eq] at h6
    omega
  · have := (madeB_iff _).1 h2
    simp only [textB, Bool.and_eq_true, decide_eq_true_eq] at h5
    omega
theorem loop_no {rs : List RowD} {o : OpD} (hk : o.kind = 3) (h : undT rs o.up o.id = true) : owB rs o = false ∧ (opokB o = true → doT rs o = rs) := by
  simp only [undT, Bool.and_eq_true] at h
  have h2 := h.2
  simp only [undB, Bool.and_eq_true, decide_eq_true_eq] at h2
  have hn : noWhereB rs o = true := by simp [noWhereB, thereB, h.2, h2.1.1.2]
  exact ⟨by simp [owB, hn], fun hk' => by simp [doT, h.1, hk', doR, hk, hn]⟩
theorem up_not_under {rs : List RowD} {id : Int} : upI rs id = 0 ∨ undT rs (upI rs id) id = false := by
  cases hh : hasB rs id
  · exact .inl (by simp [upI, hh])
  · have h' := hh
    simp only [hasB, Bool.and_eq_true, decide_eq_true_eq] at h'
    have e : upI rs id = upAt rs (atN rs id) := by simp [upI, hh]
    rw [e]
    unfold upAt
    split
    · rename_i j hj
      obtain ⟨j1, _, _⟩ := lstBelow_some _ _ _ hj
      have ha := (treeP_of h'.1).at_self (show j < rs.length by omega)
      refine .inr ?_
      rw [Bool.eq_false_iff]
      intro g
      simp only [undT, undB, Bool.and_eq_true, decide_eq_true_eq] at g
      rw [ha] at g
      omega
    · exact .inl rfl
end Go.Proofs.YtlhlkbbjmbpgpaaDoor
/-
  laws.lpSame: yes when every row's number stands in the other slice and the lengths agree. Conditions: both slices read; the second fits.
-/
namespace Go.Proofs.YtlhlkbbjmbpgpaaDoor
open Go.ChangeShapes Go.WideShapes Go.ChangeAt Go.RowKit Go.Joins

set_option maxRecDepth 100000 in
set_option maxHeartbeats 2000000 in
theorem lpSame_yes (B : Nat) (a a' : Option Addr) (cap cap' : Nat) (xs rs : List RowD) (w : World) (h : RowsAt B w a xs) (h' : RowsAt B w a' rs) (hf : Fit rs) (hxl : xs.length ≤ 1048576) (hl : xs.length = rs.length) (hm : ∀ i, i < xs.length → atN rs (rat xs i).id < rs.length) :
    Calls Tryd.prog 51 #[.slice a xs.length cap, .slice a' rs.length cap'] w fun e w' => e = .returned (.bool true) ∧ w = w' := by
  have hrl := hf.1
  have HA : Hid (∀ i, i < xs.length → Calls Tryd.prog 24 #[.slice a' rs.length cap', .int .i64 (rat xs i).id] w fun e w' => e = .returned (.int .i64 (atN rs (rat xs i).id : Nat)) ∧ w = w') := by
    intro i hi
    have := lpAt_any B a' cap' rs (rat xs i).id w h' hf
    rwa [atI_pos (hm i hi)] at this
  have hm' := Lib.hid hm
  have hl' := Lib.hid hl
  clear hm hl
  go_enter Tryd.func51, Tryd.ntmps51
  go_wp2_with fail
  go_loopw [5] (fun t wr => ∃ k : Nat, k ≤ xs.length ∧ t = .int .i64 k ∧ w = wr) (fun t _ => xs.length - (intOf t).toNat)
  case atStart => exact ⟨0, Nat.zero_le _, rfl, rfl⟩
  case round =>
    obtain ⟨k, hk, rfl, rfl⟩ := hrel
    by_cases hlt : k < xs.length
    · obtain ⟨b, off, rfl, hbB, c0, c1, c2⟩ := h.at_ hlt
      have i1 : (k : Int) < (xs.length : Int) := by omega
      have hq := hm'.out k hlt
      have HK := Lib.hid (HA.out k hlt)
      generalize (rat xs k).id = z at *
      generalize atN rs z = q at *
      go_wp2_with fail
      refine HK.out.mono ?_
      rintro e w' ⟨rfl, rfl⟩
      go_wp2
      go_roundw
      case rel => exact ⟨k + 1, by omega, by go_num, trivial⟩
      case measure => simp [intOf]; omega
    · have hl := hl'.out
      go_wp2
      go_ret
      exact ⟨by first | rfl | simp, rfl⟩
end Go.Proofs.YtlhlkbbjmbpgpaaDoor
/-
  The walk of the law FnDoOk out of the contracts. Conditions: the argument reads as bytes; the table 'creators' holds what its initialiser lays.
-/
namespace Go.Proofs.YtlhlkbbjmbpgpaaDoor
open Go.ChangeShapes Go.WideShapes Go.ChangeAt Go.RowKit Go.Joins

theorem doT_made {rs : List RowD} {o : OpD} (h1 : treeB rs = true) (h2 : opokB o = true) (hk : o.kind = 1) (hn : ¬ atN rs o.id < rs.length) : (doT rs o).length = rs.length + 1 ∧ atN (doT rs o) o.id < (doT rs o).length := by
  have e : doT rs o = doR rs o := by simp [doT, h1, h2]
  rw [e]; exact do_made hk hn
theorem doT_same {rs : List RowD} {o : OpD} (h1 : treeB rs = true) (h2 : opokB o = true) (h : o.kind = 1 → atN rs o.id < rs.length) : (doT rs o).length = rs.length ∧ ∀ i, i < (doT rs o).length → atN rs (rat (doT rs o) i).id < rs.length := by
  have e : doT rs o = doR rs o := by simp [doT, h1, h2]
  rw [e]
  obtain ⟨g1, g2⟩ := do_same h2 h
  exact ⟨g1, fun i hi => g2 _ (rat_in hi)⟩
end Go.Proofs.YtlhlkbbjmbpgpaaDoor
