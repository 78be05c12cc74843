/-
  Joined texts, each with its own head: what it holds, and its conditions.
-/
import Derived.Test.YtclhjgcapalniaaDoorRows
import Derived.WalkKit
import Derived.ProofKit
import Derived.OpenShut
import Derived.OpenVars
import Derived.ChangeOld
import Derived.Below
import Derived.Lib.LaidTab
import Derived.LaidMore
import Derived.IntWalk
import Derived.Lib.Hide
import Derived.Lib.SmallJoins
import Derived.Deep.QuietTactic
import Derived.BigQuiet
import Derived.Laws.BitsAllLaws
import Derived.Outline
import Derived.Maps.AppendAt
import Derived.Deep.RegionHeld3
import Derived.Deep.DeepCutAuto
import Derived.Deep.Slices
import Derived.Deep.Strs
import Derived.Deep.Fields
import Derived.Deep.OwnRows
import Derived.ChangeSame

/-
  Lemmas of any program: a call that writes nothing that was there before (Below) hands back every argument and every named variable as it read. Conditions: none beyond the lemmas' own premises.
-/
namespace Go.Proofs.YtclhjgcapalniaaDoor
open Go.ChangeShapes Go.WideShapes Go.ChangeAt Go.RowKit

theorem trodAll_below {H : Type} {enc : TypeId × Value → H} {P : Program} (hl : laidOutB P = true) {W W' : World} (hb : Below W.heap.size W W') :
    ∀ {ts : List TypeId} {vs : List Value} {ds : List (DataW H)} {ps : List MemPlace}, (ts.all fun t => P.readableRec t && decide (t < P.types.size)) = true →
      (∀ x ∈ ps, x.block < W.heap.size) → DataW.TrodAll enc P W 0 (fun _ => true) true ts vs ds ps → DataW.TrodAll enc P W' 0 (fun b => decide (b < W.heap.size)) true ts vs ds ps
  | [], _, _, _, _, _, h => by
    obtain ⟨rfl, rfl, rfl⟩ := trodAll_nil h
    exact trodAll_mk0
  | t :: ts, _, _, _, ha, hlt, h => by
    obtain ⟨v, vs', d, ds', p, q, rfl, rfl, rfl, h0, r0⟩ := trodAll_cons h
    simp only [List.all_cons, Bool.and_eq_true, decide_eq_true_eq] at ha
    exact trodAll_cons_mk (Below.trod hl ha.1.1 ha.1.2 h0 hb (fun x hx => hlt x (by simp [hx])))
      (trodAll_below hl hb (by simpa using ha.2) (fun x hx => hlt x (by simp [hx])) r0)

/-- The post of a law that returns true, out of 'Below' alone. -/
theorem post_true {H : Type} {enc : TypeId × Value → H} {P : Program} {f : Func} {s : ChangeSpec} {W W' : World} {args : Array Value} {ds gs : List (DataW H)} {before : List MemPlace} {tb : TypeId}
    (hl : laidOutB P = true) (hts : (f.params.toList.all fun t => P.readableRec t && decide (t < P.types.size)) = true) (hvs : varsRowed P s.vars = true)
    (hrt : f.resultTypes = #[tb]) (hbool : P.underlying tb = some .bool)
    (hW : DataW.Whole enc P f.params.toList s.vars false W args.toList ds gs before) (hb : Below W.heap.size W W')
    (hfn : s.fn H (ds ++ gs) = { results := [.lit (.bool true)], args := ds, vars := gs }) :
    s.post enc P f false true false false W args (.bool true) W' := by
  have hlt := hW.lt
  have hW' := hW
  obtain ⟨p, q, hA, hV, rfl, _, _⟩ := hW
  refine ⟨ds, gs, p ++ q, [], p, q, hW', ?_, ?_, ?_, hb.frame _, fun h => by cases h⟩
  · rw [hfn, hrt]
    exact trodAll_mk1 (shut_bool hbool _)
  · rw [hfn]
    exact trodAll_below hl hb hts (fun x hx => hlt x (by simp [hx])) hA
  · rw [hfn]
    exact Below.trodVars hl hb hvs hV

end Go.Proofs.YtclhjgcapalniaaDoor
/-
  Contracts of the functions of chapter 1, the program's and the model's: each returns what the plain functions below say, for every argument, and leaves the world as it was. Conditions: the program's table 'creators' holds what its initialiser lays.
-/
namespace Go.Proofs.YtclhjgcapalniaaDoor
open Go.ChangeShapes Go.WideShapes Go.ChangeAt Go.RowKit

def tabZ : List Int := [-1, 0, 0, 0, -1, -1, -1, -1, -1, -1, -1, 1, 1, 1, 1, 1, 1, -1, -1, -1, -1, 2, 2, 2, 2, 2, 2, -1, -1, -1, -1, 3, 3, 3, 3, 3, 3]
def madeB (id : Int) : Bool := decide ((11 ≤ id ∧ id ≤ 16) ∨ (21 ≤ id ∧ id ≤ 26) ∨ (31 ≤ id ∧ id ≤ 36))
def rootB (id : Int) : Bool := decide (1 ≤ id ∧ id ≤ 3)
def whoB (id : Int) : Bool := rootB id || madeB id
def whoI (id : Int) : Int := if madeB id then id / 10 else 0

theorem madeB_iff (id : Int) : madeB id = true ↔ ((11 ≤ id ∧ id ≤ 16) ∨ (21 ≤ id ∧ id ≤ 26) ∨ (31 ≤ id ∧ id ≤ 36)) := by simp [madeB]
theorem rootB_iff (id : Int) : rootB id = true ↔ (1 ≤ id ∧ id ≤ 3) := by simp [rootB]

theorem tab_all : ∀ i : Fin 37, ((tabZ.getD i.val 0 == -1) = !whoB (i.val : Int)) ∧ (whoB (i.val : Int) = true → tabZ.getD i.val 0 = whoI (i.val : Int)) := by decide +kernel

/-- The table's cells, as the walks read them. -/
def Tab (w : World) : Prop := ∀ i, i < 37 → w.cell? ⟨0, i, none⟩ = some (.int .i64 (tabZ.getD i 0))
theorem Tab.below {w w' : World} (h : Tab w) {B : Nat} (hb : Below B w w') (hB : 0 < B) : Tab w' := fun i hi => by
  rw [hb.cell (p := ⟨0, i, none⟩) hB]; exact h i hi

def tabName : String := Rows.fnKeyInRow.named.headD ""
theorem gTab : Tryd.prog.globalNamed tabName = some 0 := by kernel_rfl
theorem gTabType : (Tryd.prog.globals[0]?).map (·.type) = some 156 := by kernel_rfl
theorem cells44 : Tryd.prog.cellsOf 156 = 37 := by kernel_rfl
theorem cells3 : Tryd.prog.cellsOf 3 = 1 := by kernel_rfl
theorem laidOut : laidOutB Tryd.prog = true := by kernel_rfl
theorem tab_of_laid {W : World} (h : laidMetH Tryd.prog Rows.fnKeyInRow.laid W) : Tab W := by
  have h' : laidMet Tryd.prog ((tabName, Lib.tabData .i64 tabZ) :: []) W := by
    rw [MakeChecks.laidMetH_plain _ _ _ (by kernel_rfl)] at h
    exact h
  have hT := Lib.tabIs_of_head gTab gTabType Tryd.underlying156 Tryd.underlying3 cells3 cells44 h'
  exact fun i hi => hT.cell gTab i hi
theorem i64_of_wf' {n : Int} (h : (Lit.int .i64 n).wf = true) : -9223372036854775808 ≤ n ∧ n ≤ 9223372036854775807 := by
  simpa [Lit.wf, IntKind.min, IntKind.max, IntKind.signed, IntKind.bits] using h

/-! ### l6In, l1Root, l1Made -/
theorem l6In_yes (n lo hi : Int) (w : World) (h1 : lo ≤ n) (h2 : n ≤ hi) :
    Calls Tryd.prog 76 #[.int .i64 n, .int .i64 lo, .int .i64 hi] w fun e w' => e = .returned (.bool true) ∧ w = w' := by
  go_enter Tryd.func76, Tryd.ntmps76
  go_wp2
  go_ret
  exact ⟨rfl, rfl⟩
theorem l6In_no (n lo hi : Int) (w : World) (h : ¬ (lo ≤ n ∧ n ≤ hi)) :
    Calls Tryd.prog 76 #[.int .i64 n, .int .i64 lo, .int .i64 hi] w fun e w' => e = .returned (.bool false) ∧ w = w' := by
  by_cases h1 : lo ≤ n
  · have h2 : ¬ n ≤ hi := fun h2 => h ⟨h1, h2⟩
    clear h
    go_enter Tryd.func76, Tryd.ntmps76
    go_wp2
    go_ret
    exact ⟨rfl, rfl⟩
  · clear h
    go_enter Tryd.func76, Tryd.ntmps76
    go_wp2
    go_ret
    exact ⟨rfl, rfl⟩
def inB (n lo hi : Int) : Bool := decide (lo ≤ n ∧ n ≤ hi)
theorem inB_iff (n lo hi : Int) : inB n lo hi = true ↔ (lo ≤ n ∧ n ≤ hi) := by simp [inB]
theorem l6In_any (n lo hi : Int) (w : World) :
    Calls Tryd.prog 76 #[.int .i64 n, .int .i64 lo, .int .i64 hi] w fun e w' => e = .returned (.bool (inB n lo hi)) ∧ w = w' := by
  by_cases h : lo ≤ n ∧ n ≤ hi
  · rw [(inB_iff n lo hi).2 h]; exact l6In_yes n lo hi w h.1 h.2
  · rw [Bool.eq_false_iff.2 (fun e => h ((inB_iff n lo hi).1 e))]; exact l6In_no n lo hi w h
theorem rootB_inB (id : Int) : rootB id = inB id 1 3 := rfl
theorem l1Root_any (id : Int) (w : World) :
    Calls Tryd.prog 45 #[.int .i64 id] w fun e w' => e = .returned (.bool (rootB id)) ∧ w = w' := by
  go_enter Tryd.func45, Tryd.ntmps45
  go_wp2_with fail
  refine (l6In_any _ _ _ _).mono ?_
  rintro e w' ⟨rfl, rfl⟩
  go_wp2
  go_ret
  exact ⟨rfl, rfl⟩
theorem made_inB (id : Int) : madeB id = (inB (id.tdiv 10) 1 3 && inB (id.tmod 10) 1 6) := by
  rw [Bool.eq_iff_iff, Bool.and_eq_true, madeB_iff, inB_iff, inB_iff]
  by_cases h : 0 ≤ id
  · rw [Int.tdiv_eq_ediv_of_nonneg h, Int.tmod_eq_emod_of_nonneg h]; omega
  · have h1 : id.tdiv 10 ≤ 0 := by
      have e := Int.neg_tdiv (a := -id) (b := 10)
      have h3 : 0 ≤ (-id).tdiv 10 := Int.tdiv_nonneg (by omega) (by omega)
      rw [Int.neg_neg] at e
      omega
    omega
/-- The range of a Go int, behind a name. -/
def I64 (n : Int) : Prop := -9223372036854775808 ≤ n ∧ n ≤ 9223372036854775807
theorem i64_of_wf {n : Int} (h : (Lit.int .i64 n).wf = true) : I64 n := i64_of_wf' h
theorem tdiv10_bd (id : Int) (h : I64 id) : -1000000000000000000 ≤ id.tdiv 10 ∧ id.tdiv 10 ≤ 1000000000000000000 := by
  obtain ⟨h1, h2⟩ := h
  by_cases h0 : 0 ≤ id
  · rw [Int.tdiv_eq_ediv_of_nonneg h0]; omega
  · have e := Int.neg_tdiv (a := -id) (b := 10)
    have e2 : (-id).tdiv 10 = (-id) / 10 := Int.tdiv_eq_ediv_of_nonneg (by omega)
    rw [Int.neg_neg] at e
    omega
theorem l1Made_any (id : Int) (w : World) (hI : I64 id) :
    Calls Tryd.prog 77 #[.int .i64 id] w fun e w' => e = .returned (.bool (madeB id)) ∧ w = w' := by
  rw [made_inB]
  obtain ⟨q1, q2⟩ := tdiv10_bd id hI
  cases h1 : inB (id.tdiv 10) 1 3
  · go_enter Tryd.func77, Tryd.ntmps77
    go_wp2_with fail
    refine (l6In_any _ _ _ _).mono ?_
    rintro e w' ⟨rfl, rfl⟩
    go_wp2
    go_ret
    exact ⟨rfl, rfl⟩
  · go_enter Tryd.func77, Tryd.ntmps77
    go_wp2_with fail
    refine (l6In_any _ _ _ _).mono ?_
    rintro e w' ⟨rfl, rfl⟩
    go_wp2_with fail
    refine (l6In_any _ _ _ _).mono ?_
    rintro e w' ⟨rfl, rfl⟩
    go_wp2
    go_ret
    exact ⟨rfl, rfl⟩
/-! ### RowMade -/
def madeI (who n : Int) : Int := if inB who 1 3 && inB n 1 6 then 10 * who + n else 0
theorem specRowMade_any (who n : Int) (w : World) :
    Calls Tryd.prog 105 #[.int .i64 who, .int .i64 n] w fun e w' => e = .returned (.int .i64 (madeI who n)) ∧ w = w' := by
  cases h1 : inB who 1 3
  · have hm : madeI who n = 0 := by simp [madeI, h1]
    rw [hm]; clear hm
    go_enter Tryd.func105, Tryd.ntmps105
    go_wp2_with fail
    refine (l6In_any _ _ _ _).mono ?_
    rintro e w' ⟨rfl, rfl⟩
    go_wp2
    go_ret
    exact ⟨rfl, rfl⟩
  · cases h2 : inB n 1 6
    · have hm : madeI who n = 0 := by simp [madeI, h2]
      rw [hm]; clear hm
      go_enter Tryd.func105, Tryd.ntmps105
      go_wp2_with fail
      refine (l6In_any _ _ _ _).mono ?_
      rintro e w' ⟨rfl, rfl⟩
      go_wp2_with fail
      refine (l6In_any _ _ _ _).mono ?_
      rintro e w' ⟨rfl, rfl⟩
      go_wp2
      go_ret
      exact ⟨rfl, rfl⟩
    · have hm : madeI who n = 10 * who + n := by simp [madeI, h1, h2]
      rw [hm]; clear hm
      obtain ⟨a1, a2⟩ := (inB_iff _ _ _).1 h1
      obtain ⟨b1, b2⟩ := (inB_iff _ _ _).1 h2
      go_enter Tryd.func105, Tryd.ntmps105
      go_wp2_with fail
      refine (l6In_any _ _ _ _).mono ?_
      rintro e w' ⟨rfl, rfl⟩
      go_wp2_with fail
      refine (l6In_any _ _ _ _).mono ?_
      rintro e w' ⟨rfl, rfl⟩
      go_wp2
      go_ret
      exact ⟨rfl, rfl⟩
theorem isClient_any (who : Int) (w : World) :
    Calls Tryd.prog 63 #[.int .i64 who] w fun e w' => e = .returned (.bool (inB who 1 3)) ∧ w = w' := by
  by_cases h1 : 1 ≤ who
  · by_cases h2 : who ≤ 3
    · rw [(inB_iff who 1 3).2 ⟨h1, h2⟩]
      go_enter Tryd.func63, Tryd.ntmps63
      go_wp2
      go_ret
      exact ⟨rfl, rfl⟩
    · have hm : inB who 1 3 = false := by simp [inB, h2]
      rw [hm]; clear hm
      go_enter Tryd.func63, Tryd.ntmps63
      go_wp2
      go_ret
      exact ⟨rfl, rfl⟩
  · have hm : inB who 1 3 = false := by simp [inB, h1]
    rw [hm]; clear hm
    go_enter Tryd.func63, Tryd.ntmps63
    go_wp2
    go_ret
    exact ⟨rfl, rfl⟩
theorem implRowMade_any (who n : Int) (w : World) :
    Calls Tryd.prog 36 #[.int .i64 who, .int .i64 n] w fun e w' => e = .returned (.int .i64 (madeI who n)) ∧ w = w' := by
  cases hc : inB who 1 3
  · have hm : madeI who n = 0 := by simp [madeI, hc]
    rw [hm]; clear hm
    go_enter Tryd.func36, Tryd.ntmps36
    go_wp2_with fail
    refine (isClient_any _ _).mono ?_
    rintro e w' ⟨rfl, rfl⟩
    rw [hc]
    go_wp2
    go_ret
    exact ⟨rfl, rfl⟩
  · have hb := (inB_iff who 1 3).1 hc
    obtain ⟨h1, h2⟩ := hb
    by_cases h3 : 1 ≤ n
    · by_cases h4 : n ≤ 6
      · have hm : madeI who n = 10 * who + n := by simp [madeI, inB, h1, h2, h3, h4]
        rw [hm]; clear hm
        go_enter Tryd.func36, Tryd.ntmps36
        go_wp2_with fail
        refine (isClient_any _ _).mono ?_
        rintro e w' ⟨rfl, rfl⟩
        rw [hc]
        go_wp2
        go_ret
        exact ⟨rfl, rfl⟩
      · have hm : madeI who n = 0 := by simp [madeI, inB, h4]
        rw [hm]; clear hm
        go_enter Tryd.func36, Tryd.ntmps36
        go_wp2_with fail
        refine (isClient_any _ _).mono ?_
        rintro e w' ⟨rfl, rfl⟩
        rw [hc]
        go_wp2
        go_ret
        exact ⟨rfl, rfl⟩
    · have hm : madeI who n = 0 := by simp [madeI, inB, h3]
      rw [hm]; clear hm
      go_enter Tryd.func36, Tryd.ntmps36
      go_wp2_with fail
      refine (isClient_any _ _).mono ?_
      rintro e w' ⟨rfl, rfl⟩
      rw [hc]
      go_wp2
      go_ret
      exact ⟨rfl, rfl⟩
/-! ### RowWho -/
theorem who_out (id : Int) (h : id < 0 ∨ 37 ≤ id) : whoI id = 0 ∧ whoB id = false := by
  have h2 : madeB id = false := by rw [Bool.eq_false_iff]; intro e; have := (madeB_iff _).1 e; omega
  have h1 : rootB id = false := by rw [Bool.eq_false_iff]; intro e; have := (rootB_iff _).1 e; omega
  exact ⟨by simp [whoI, h2], by simp [whoB, h1, h2]⟩
theorem who_no (id : Int) (h : whoB id = false) : whoI id = 0 := by
  have : madeB id = false := by simp [whoB] at h; exact h.2
  simp [whoI, this]
theorem implRowWho_any (id : Int) (w : World) (ht : Tab w) :
    Calls Tryd.prog 96 #[.int .i64 id] w fun e w' => e = .returned (.tuple #[.int .i64 (whoI id), .bool (whoB id)]) ∧ w = w' := by
  by_cases h1 : 0 ≤ id
  · by_cases h2 : id < 37
    · obtain ⟨n, rfl⟩ := Int.eq_ofNat_of_zero_le h1
      have hn : n < 37 := by omega
      obtain ⟨t1, t2⟩ := tab_all ⟨n, hn⟩
      have hc := ht n hn
      simp only at t1 t2
      clear ht
      generalize tabZ.getD n 0 = z at *
      cases hb : whoB (n : Int)
      · rw [hb] at t1
        have hz : (z == -1) = true := by simpa using t1
        rw [who_no _ hb]
        clear t1 t2 hb
        go_enter Tryd.func96, Tryd.ntmps96
        go_wp2
        go_ret2
        exact ⟨rfl, rfl⟩
      · rw [hb] at t1
        have hz : (z == -1) = false := by simpa using t1
        rw [← t2 hb]
        clear t1 t2 hb
        go_enter Tryd.func96, Tryd.ntmps96
        go_wp2
        go_ret2
        exact ⟨rfl, rfl⟩
    · obtain ⟨e1, e2⟩ := who_out id (by omega)
      rw [e1, e2]; clear e1 e2 ht
      go_enter Tryd.func96, Tryd.ntmps96
      go_wp2
      go_ret2
      exact ⟨rfl, rfl⟩
  · obtain ⟨e1, e2⟩ := who_out id (by omega)
    rw [e1, e2]; clear e1 e2 ht
    go_enter Tryd.func96, Tryd.ntmps96
    go_wp2
    go_ret2
    exact ⟨rfl, rfl⟩
end Go.Proofs.YtclhjgcapalniaaDoor
/-
  Contracts of RowOk, of the program and of the model, and of what they call on texts: each returns what the plain functions below say. Conditions: the program's table 'creators' holds what its initialiser lays.
-/
namespace Go.Proofs.YtclhjgcapalniaaDoor
open Go.ChangeShapes Go.WideShapes Go.ChangeAt Go.RowKit Go.Joins

def okC (c : UInt8) : Bool := decide (97 ≤ (c.toNat : Int) ∧ (c.toNat : Int) ≤ 100)
def textB (s : ByteArray) : Bool := s.data.toList.all okC && decide ((s.size : Int) ≤ 4)
theorem take_snoc (s : ByteArray) (k : Nat) (h : k < s.size) : s.data.toList.take (k + 1) = s.data.toList.take k ++ [s[k]] := by
  rw [List.take_succ_eq_append_getElem (by simpa using h)]; rfl
theorem allTake_succ (s : ByteArray) (k : Nat) (h : k < s.size) (ha : (s.data.toList.take k).all okC = true) (hc : 97 ≤ (s[k].toNat : Int)) (hd : (s[k].toNat : Int) ≤ 100) :
    (s.data.toList.take (k + 1)).all okC = true := by
  rw [take_snoc s k h, List.all_append, ha]
  simp [okC, hc, hd]
theorem textB_bad (s : ByteArray) (k : Nat) (h : k < s.size) (hc : ¬ (97 ≤ (s[k].toNat : Int) ∧ (s[k].toNat : Int) ≤ 100)) : textB s = false := by
  rw [Bool.eq_false_iff]; intro e
  simp only [textB, Bool.and_eq_true, List.all_eq_true] at e
  have := e.1 s[k] (by show s.data[k] ∈ _; simp)
  exact hc (by simpa [okC] using this)
theorem textB_all (s : ByteArray) (k : Nat) (h : s.size ≤ k) (ha : (s.data.toList.take k).all okC = true) : textB s = decide ((s.size : Int) ≤ 4) := by
  rw [List.take_of_length_le (by simpa using h)] at ha
  simp [textB, ha]
theorem textB_long (s : ByteArray) (h : ¬ s.size ≤ 4) : textB s = false := by
  have : ¬ (s.size : Int) ≤ 4 := by omega
  simp [textB, this]

theorem l1Text_any (s : ByteArray) (w : World) (hs : s.size ≤ maxLen) :
    Calls Tryd.prog 78 #[.string s] w fun e w' => e = .returned (.bool (textB s)) ∧ w = w' := by
  unfold maxLen at hs
  go_enter Tryd.func78, Tryd.ntmps78
  go_wp2
  go_loop [3] (fun i => ∃ k : Nat, k ≤ s.size ∧ i = .int .i64 k ∧ Hid ((s.data.toList.take k).all okC = true)) (fun i => s.size - (intOf i).toNat)
  case atStart => exact ⟨0, Nat.zero_le _, rfl, by simp [Hid]⟩
  case round =>
    obtain ⟨k, hk, rfl, ha⟩ := hrel
    by_cases hlt : k < s.size
    · by_cases hc : 97 ≤ (s[k].toNat : Int) ∧ (s[k].toNat : Int) ≤ 100
      · obtain ⟨c1, c2⟩ := hc
        have HS := Lib.hid (allTake_succ s k hlt ha.out c1 c2)
        go_wp2_with fail
        refine (l6In_yes _ _ _ _ c1 c2).mono ?_
        rintro e w' ⟨rfl, rfl⟩
        go_wp2
        go_round
        case rel => exact ⟨k + 1, by omega, by go_num, HS⟩
        case measure => simp [intOf]; omega
      · have HB := Lib.hid (textB_bad s k hlt hc)
        have HC := Lib.hid hc
        have b1 : (s[k].toNat : Int) < 256 := by have := s[k].toNat_lt; omega
        have b2 : 0 ≤ (s[k].toNat : Int) := by omega
        clear hc
        go_wp2_with fail
        refine (l6In_no _ _ _ _ HC.out).mono ?_
        rintro e w' ⟨rfl, rfl⟩
        go_wp2
        go_ret
        exact ⟨by rw [HB.out]; rfl, rfl⟩
    · have HB := Lib.hid (textB_all s k (by omega) ha.out)
      go_wp2
      go_ret
      exact ⟨by rw [HB.out]; rfl, rfl⟩

theorem textOk_any (s : ByteArray) (w : World) (hs : s.size ≤ maxLen) :
    Calls Tryd.prog 97 #[.string s] w fun e w' => e = .returned (.bool (textB s)) ∧ w = w' := by
  unfold maxLen at hs
  by_cases h4 : s.size ≤ 4
  · go_enter Tryd.func97, Tryd.ntmps97
    go_wp2
    go_loop [9] (fun i => ∃ k : Nat, k ≤ s.size ∧ i = .int .i64 k ∧ Hid ((s.data.toList.take k).all okC = true)) (fun i => s.size - (intOf i).toNat)
    case atStart => exact ⟨0, Nat.zero_le _, rfl, by simp [Hid]⟩
    case round =>
      obtain ⟨k, hk, rfl, ha⟩ := hrel
      by_cases hlt : k < s.size
      · by_cases hc : 97 ≤ (s[k].toNat : Int)
        · by_cases hd : (s[k].toNat : Int) ≤ 100
          · have HS := Lib.hid (allTake_succ s k hlt ha.out hc hd)
            go_wp2
            go_round
            case rel => exact ⟨k + 1, by omega, by go_num, HS⟩
            case measure => simp [intOf]; omega
          · have HB := Lib.hid (textB_bad s k hlt (fun h => hd h.2))
            go_wp2
            go_ret
            exact ⟨by rw [HB.out]; rfl, rfl⟩
        · have HB := Lib.hid (textB_bad s k hlt (fun h => hc h.1))
          go_wp2
          go_ret
          exact ⟨by rw [HB.out]; rfl, rfl⟩
      · have HB := Lib.hid ((textB_all s k (by omega) ha.out).trans (decide_eq_true (by omega)))
        go_wp2
        go_ret
        exact ⟨by rw [HB.out]; rfl, rfl⟩
  · rw [textB_long s h4]
    go_enter Tryd.func97, Tryd.ntmps97
    go_wp2
    go_ret
    exact ⟨rfl, rfl⟩
def rowB (id d : Int) (s : ByteArray) : Bool := if rootB id then (d == 0) && s.toList.isEmpty else madeB id && inB d 1 18 && textB s
theorem root_not_made (id : Int) (h : rootB id = true) : madeB id = false := by
  have := (rootB_iff _).1 h
  rw [Bool.eq_false_iff]; intro h; have := (madeB_iff _).1 h; omega
theorem who_root (id : Int) (h : rootB id = true) : whoI id = 0 ∧ whoB id = true := ⟨by simp [whoI, root_not_made id h], by simp [whoB, h]⟩
theorem who_made (id : Int) (h : madeB id = true) : (whoI id == 0) = false ∧ whoB id = true := by
  have := (madeB_iff _).1 h
  refine ⟨?_, by simp [whoB, h]⟩
  simp [whoI, h]; omega
theorem who_none (id : Int) (h : rootB id = false) (h' : madeB id = false) : whoB id = false := by simp [whoB, h, h']
theorem specRowOk_any (id d : Int) (s : ByteArray) (w : World) (hI : I64 id) (hs : s.size ≤ maxLen) :
    Calls Tryd.prog 44 #[.agg #[.int .i64 id, .int .i64 d, .string s]] w fun e w' => e = .returned (.bool (rowB id d s)) ∧ Below w.heap.size w w' := by
  cases hr : rootB id
  · cases hm : madeB id
    · have hv : rowB id d s = false := by simp [rowB, hr, hm]
      rw [hv]; clear hv
      go_enter Tryd.func44, Tryd.ntmps44
      go_wp2_with fail
      refine (l1Root_any _ _).mono ?_
      rintro e w' ⟨rfl, rfl⟩
      go_wp2_with fail
      refine (l1Made_any _ _ hI).mono ?_
      rintro e w' ⟨rfl, rfl⟩
      go_wp2
      go_ret
      exact ⟨rfl, (Below.refl _ _).alloc (Nat.le_refl _) _⟩
    · cases hd : inB d 1 18
      · have hv : rowB id d s = false := by simp [rowB, hr, hd]
        rw [hv]; clear hv
        go_enter Tryd.func44, Tryd.ntmps44
        go_wp2_with fail
        refine (l1Root_any _ _).mono ?_
        rintro e w' ⟨rfl, rfl⟩
        go_wp2_with fail
        refine (l1Made_any _ _ hI).mono ?_
        rintro e w' ⟨rfl, rfl⟩
        go_wp2_with fail
        refine (l6In_any _ _ _ _).mono ?_
        rintro e w' ⟨rfl, rfl⟩
        go_wp2
        go_ret
        exact ⟨rfl, (Below.refl _ _).alloc (Nat.le_refl _) _⟩
      · have hv : rowB id d s = textB s := by simp [rowB, hr, hm, hd]
        rw [hv]; clear hv
        go_enter Tryd.func44, Tryd.ntmps44
        go_wp2_with fail
        refine (l1Root_any _ _).mono ?_
        rintro e w' ⟨rfl, rfl⟩
        go_wp2_with fail
        refine (l1Made_any _ _ hI).mono ?_
        rintro e w' ⟨rfl, rfl⟩
        go_wp2_with fail
        refine (l6In_any _ _ _ _).mono ?_
        rintro e w' ⟨rfl, rfl⟩
        go_wp2_with fail
        refine (l1Text_any _ _ hs).mono ?_
        rintro e w' ⟨rfl, rfl⟩
        go_wp2
        go_ret
        exact ⟨rfl, (Below.refl _ _).alloc (Nat.le_refl _) _⟩
  · cases hd : (d == 0)
    · have hv : rowB id d s = false := by simp [rowB, hr, hd]
      rw [hv]; clear hv
      go_enter Tryd.func44, Tryd.ntmps44
      go_wp2_with fail
      refine (l1Root_any _ _).mono ?_
      rintro e w' ⟨rfl, rfl⟩
      go_wp2
      go_ret
      exact ⟨rfl, (Below.refl _ _).alloc (Nat.le_refl _) _⟩
    · have hv : rowB id d s = s.toList.isEmpty := by simp [rowB, hr, hd]
      rw [hv]; clear hv
      go_enter Tryd.func44, Tryd.ntmps44
      go_wp2_with fail
      refine (l1Root_any _ _).mono ?_
      rintro e w' ⟨rfl, rfl⟩
      go_wp2
      go_ret
      exact ⟨rfl, (Below.refl _ _).alloc (Nat.le_refl _) _⟩
theorem implRowOk_any (id d : Int) (s : ByteArray) (w : World) (hs : s.size ≤ maxLen) (ht : Tab w) (hz : 0 < w.heap.size) :
    Calls Tryd.prog 56 #[.agg #[.int .i64 id, .int .i64 d, .string s]] w fun e w' => e = .returned (.bool (rowB id d s)) ∧ Below w.heap.size w w' := by
  cases hr : rootB id
  · cases hm : madeB id
    · have hv : rowB id d s = false := by simp [rowB, hr, hm]
      have hw := who_none id hr hm
      rw [hv]; clear hv
      go_enter Tryd.func56, Tryd.ntmps56
      go_wp2_with fail
      refine (implRowWho_any _ _ (ht.below ((Below.refl w.heap.size w).alloc (Nat.le_refl _) _) hz)).mono ?_
      rintro e w' ⟨rfl, rfl⟩
      go_wp2
      go_ret
      exact ⟨rfl, (Below.refl _ _).alloc (Nat.le_refl _) _⟩
    · obtain ⟨hw1, hw2⟩ := who_made id hm
      cases hd1 : decide (1 ≤ d)
      · have hv : rowB id d s = false := by simp [rowB, hr, inB]; intro _ h; simp [h] at hd1
        rw [hv]; clear hv
        go_enter Tryd.func56, Tryd.ntmps56
        go_wp2_with fail
        refine (implRowWho_any _ _ (ht.below ((Below.refl w.heap.size w).alloc (Nat.le_refl _) _) hz)).mono ?_
        rintro e w' ⟨rfl, rfl⟩
        go_wp2
        go_ret
        exact ⟨rfl, (Below.refl _ _).alloc (Nat.le_refl _) _⟩
      · cases hd2 : decide (d ≤ 18)
        · have hv : rowB id d s = false := by simp [rowB, hr, inB]; intro _ _ h; simp [h] at hd2
          rw [hv]; clear hv
          go_enter Tryd.func56, Tryd.ntmps56
          go_wp2_with fail
          refine (implRowWho_any _ _ (ht.below ((Below.refl w.heap.size w).alloc (Nat.le_refl _) _) hz)).mono ?_
          rintro e w' ⟨rfl, rfl⟩
          go_wp2
          go_ret
          exact ⟨rfl, (Below.refl _ _).alloc (Nat.le_refl _) _⟩
        · have hv : rowB id d s = textB s := by simp at hd1 hd2; simp [rowB, hr, hm, inB, hd1, hd2]
          rw [hv]; clear hv
          go_enter Tryd.func56, Tryd.ntmps56
          go_wp2_with fail
          refine (implRowWho_any _ _ (ht.below ((Below.refl w.heap.size w).alloc (Nat.le_refl _) _) hz)).mono ?_
          rintro e w' ⟨rfl, rfl⟩
          go_wp2_with fail
          refine (textOk_any _ _ hs).mono ?_
          rintro e w' ⟨rfl, rfl⟩
          go_wp2
          go_ret
          exact ⟨rfl, (Below.refl _ _).alloc (Nat.le_refl _) _⟩
  · obtain ⟨hw1, hw2⟩ := who_root id hr
    cases hd : (d == 0)
    · have hv : rowB id d s = false := by simp [rowB, hr, hd]
      rw [hv]; clear hv
      go_enter Tryd.func56, Tryd.ntmps56
      go_wp2_with fail
      refine (implRowWho_any _ _ (ht.below ((Below.refl w.heap.size w).alloc (Nat.le_refl _) _) hz)).mono ?_
      rintro e w' ⟨rfl, rfl⟩
      go_wp2
      go_ret
      exact ⟨rfl, (Below.refl _ _).alloc (Nat.le_refl _) _⟩
    · have hv : rowB id d s = s.toList.isEmpty := by simp [rowB, hr, hd]
      rw [hv]; clear hv
      go_enter Tryd.func56, Tryd.ntmps56
      go_wp2_with fail
      refine (implRowWho_any _ _ (ht.below ((Below.refl w.heap.size w).alloc (Nat.le_refl _) _) hz)).mono ?_
      rintro e w' ⟨rfl, rfl⟩
      go_wp2
      go_ret
      exact ⟨rfl, (Below.refl _ _).alloc (Nat.le_refl _) _⟩

/-! ### the law FnExactRowOk -/
def IsRowArg (i d : Int) (t : ByteArray) : Prop := I64 i ∧ I64 d ∧ t.size ≤ maxLen
theorem Tab.pos {w : World} (h : Tab w) : 0 < w.heap.size := by
  have := h 0 (by decide)
  rcases Nat.lt_or_ge 0 w.heap.size with e | e
  · exact e
  · have hn : w.heap[0]? = none := by rw [Array.getElem?_eq_none_iff]; exact e
    simp [World.cell?, hn] at this
end Go.Proofs.YtclhjgcapalniaaDoor
/-
  Plain mathematics of outlines: lists of rows with depths, parents, ends of subtrees, first, next and last children. Nothing of the program is named here. Conditions: none beyond the lemmas' own premises.
-/
namespace Go.Proofs.YtclhjgcapalniaaDoor

/-! ### searches -/
def fstFrom (p : Nat → Bool) : Nat → Nat → Nat
  | 0, s => s
  | k + 1, s => if p s then s else fstFrom p k (s + 1)
theorem fstFrom_ge (p : Nat → Bool) : ∀ k s, s ≤ fstFrom p k s
  | 0, s => Nat.le_refl _
  | k + 1, s => by
    unfold fstFrom; split
    · exact Nat.le_refl _
    · exact Nat.le_trans (Nat.le_succ s) (fstFrom_ge p k (s + 1))
theorem fstFrom_le (p : Nat → Bool) : ∀ k s, fstFrom p k s ≤ s + k
  | 0, s => Nat.le_refl _
  | k + 1, s => by
    unfold fstFrom; split
    · omega
    · have := fstFrom_le p k (s + 1); omega
theorem fstFrom_not (p : Nat → Bool) : ∀ k s j, s ≤ j → j < fstFrom p k s → p j = false
  | 0, s, j, h1, h2 => by unfold fstFrom at h2; omega
  | k + 1, s, j, h1, h2 => by
    unfold fstFrom at h2; split at h2
    · omega
    · rename_i hp
      by_cases e : j = s
      · subst e; simpa using hp
      · exact fstFrom_not p k (s + 1) j (by omega) h2
theorem fstFrom_yes (p : Nat → Bool) : ∀ k s, fstFrom p k s < s + k → p (fstFrom p k s) = true
  | 0, s, h => by unfold fstFrom at h; omega
  | k + 1, s, h => by
    unfold fstFrom at h ⊢; split at h
    · rename_i hp; rw [if_pos hp]; exact hp
    · rename_i hp; rw [if_neg hp]; exact fstFrom_yes p k (s + 1) (by omega)
theorem fstFrom_uniq (p : Nat → Bool) (k s e : Nat) (h1 : s ≤ e) (h2 : e ≤ s + k) (h3 : ∀ j, s ≤ j → j < e → p j = false) (h4 : e < s + k → p e = true) : fstFrom p k s = e := by
  have a := fstFrom_ge p k s
  have b := fstFrom_le p k s
  rcases Nat.lt_trichotomy (fstFrom p k s) e with h | h | h
  · have c := fstFrom_yes p k s (by omega)
    rw [h3 _ a h] at c; cases c
  · exact h
  · have c := fstFrom_not p k s e h1 h
    rw [h4 (by omega)] at c; cases c

def lstBelow (p : Nat → Bool) : Nat → Option Nat
  | 0 => none
  | k + 1 => if p k then some k else lstBelow p k
theorem lstBelow_some (p : Nat → Bool) : ∀ k j, lstBelow p k = some j → j < k ∧ p j = true ∧ ∀ i, j < i → i < k → p i = false
  | 0, j, h => by cases h
  | k + 1, j, h => by
    unfold lstBelow at h; split at h
    · rename_i hp; cases h; exact ⟨Nat.lt_succ_self _, hp, fun i h1 h2 => by omega⟩
    · rename_i hp
      obtain ⟨a, b, c⟩ := lstBelow_some p k j h
      refine ⟨by omega, b, fun i h1 h2 => ?_⟩
      by_cases e : i = k
      · subst e; simpa using hp
      · exact c i h1 (by omega)
theorem lstBelow_none (p : Nat → Bool) : ∀ k, lstBelow p k = none → ∀ i, i < k → p i = false
  | 0, _, i, hi => by omega
  | k + 1, h, i, hi => by
    unfold lstBelow at h; split at h
    · cases h
    · rename_i hp
      by_cases e : i = k
      · subst e; simpa using hp
      · exact lstBelow_none p k h i (by omega)
theorem lstBelow_mk (p : Nat → Bool) (k j : Nat) (h1 : j < k) (h2 : p j = true) (h3 : ∀ i, j < i → i < k → p i = false) : lstBelow p k = some j := by
  cases h : lstBelow p k with
  | none => rw [lstBelow_none p k h j h1] at h2; cases h2
  | some l =>
    obtain ⟨a, b, c⟩ := lstBelow_some p k l h
    rcases Nat.lt_trichotomy l j with e | e | e
    · rw [c j e h1] at h2; cases h2
    · rw [e]
    · rw [h3 l e a] at b; cases b
theorem lstBelow_mk_none (p : Nat → Bool) (k : Nat) (h : ∀ i, i < k → p i = false) : lstBelow p k = none := by
  cases e : lstBelow p k with
  | none => rfl
  | some l => obtain ⟨a, b, _⟩ := lstBelow_some p k l e; rw [h l a] at b; cases b
theorem lstBelow_congr (p q : Nat → Bool) (k : Nat) (h : ∀ i, i < k → p i = q i) : lstBelow p k = lstBelow q k := by
  induction k with
  | zero => rfl
  | succ k ih => unfold lstBelow; rw [h k (by omega), ih (fun i hi => h i (by omega))]

def fstBelow (p : Nat → Bool) : Nat → Option Nat
  | 0 => none
  | k + 1 => match fstBelow p k with
    | some j => some j
    | none => if p k then some k else none
theorem fstBelow_some (p : Nat → Bool) : ∀ k j, fstBelow p k = some j → j < k ∧ p j = true ∧ ∀ i, i < j → p i = false
  | 0, j, h => by cases h
  | k + 1, j, h => by
    unfold fstBelow at h
    cases e : fstBelow p k with
    | some l =>
      rw [e] at h; cases h
      obtain ⟨a, b, c⟩ := fstBelow_some p k j e
      exact ⟨by omega, b, c⟩
    | none =>
      rw [e] at h; simp only at h
      split at h
      · rename_i hp; cases h
        refine ⟨by omega, hp, fun i hi => ?_⟩
        have : ∀ k, fstBelow p k = none → ∀ i, i < k → p i = false := by
          intro k; induction k with
          | zero => intro _ i hi; omega
          | succ k ih =>
            intro h i hi
            unfold fstBelow at h
            cases e : fstBelow p k with
            | some l => rw [e] at h; cases h
            | none =>
              rw [e] at h; simp only at h
              split at h
              · cases h
              · rename_i hp
                by_cases ei : i = k
                · subst ei; simpa using hp
                · exact ih e i (by omega)
        exact this _ e i hi
      · cases h
theorem fstBelow_none (p : Nat → Bool) : ∀ k, fstBelow p k = none → ∀ i, i < k → p i = false
  | 0, _, i, hi => by omega
  | k + 1, h, i, hi => by
    unfold fstBelow at h
    cases e : fstBelow p k with
    | some l => rw [e] at h; cases h
    | none =>
      rw [e] at h; simp only at h
      split at h
      · cases h
      · rename_i hp
        by_cases ei : i = k
        · subst ei; simpa using hp
        · exact fstBelow_none p k e i (by omega)
theorem fstBelow_mk (p : Nat → Bool) (k j : Nat) (h1 : j < k) (h2 : p j = true) (h3 : ∀ i, i < j → p i = false) : fstBelow p k = some j := by
  cases h : fstBelow p k with
  | none => rw [fstBelow_none p k h j h1] at h2; cases h2
  | some l =>
    obtain ⟨a, b, c⟩ := fstBelow_some p k l h
    rcases Nat.lt_trichotomy l j with e | e | e
    · rw [h3 l e] at b; cases b
    · rw [e]
    · rw [c j e] at h2; cases h2
theorem fstBelow_mk_none (p : Nat → Bool) (k : Nat) (h : ∀ i, i < k → p i = false) : fstBelow p k = none := by
  cases e : fstBelow p k with
  | none => rfl
  | some l => obtain ⟨a, b, _⟩ := fstBelow_some p k l e; rw [h l a] at b; cases b

/-! ### a sequence of depths: place 0 is the top, at depth -1 -/
structure Deps (D : Nat → Int) (m : Nat) : Prop where
  pos : 1 ≤ m
  top : D 0 = -1
  low : ∀ i, 1 ≤ i → i < m → 0 ≤ D i
  step : ∀ i, 1 ≤ i → i < m → D i ≤ D (i - 1) + 1

def par (D : Nat → Int) (i : Nat) : Nat := (lstBelow (fun j => decide (D j < D i)) i).getD 0
def en (D : Nat → Int) (m i : Nat) : Nat := fstFrom (fun j => decide (D j ≤ D i)) (m - (i + 1)) (i + 1)
def isKid (D : Nat → Int) (p j : Nat) : Bool := decide (1 ≤ j) && (par D j == p)
def fi (D : Nat → Int) (m p : Nat) : Option Nat := fstBelow (isKid D p) m
def la (D : Nat → Int) (m p : Nat) : Option Nat := lstBelow (isKid D p) m
def nx (D : Nat → Int) (m i : Nat) : Option Nat := fstBelow (fun j => decide (i < j) && isKid D (par D i) j) m
def ah (D : Nat → Int) (i : Nat) : Option Nat := lstBelow (isKid D (par D i)) i

theorem isKid_iff {D : Nat → Int} {p j : Nat} : isKid D p j = true ↔ 1 ≤ j ∧ par D j = p := by simp [isKid]

theorem par_spec {D : Nat → Int} {m i : Nat} (h : Deps D m) (h1 : 1 ≤ i) (h2 : i < m) : par D i < i ∧ D (par D i) < D i ∧ ∀ j, par D i < j → j < i → D i ≤ D j := by
  unfold par
  cases e : lstBelow (fun j => decide (D j < D i)) i with
  | none =>
    have := lstBelow_none _ _ e 0 (by omega)
    have t := h.top
    have l := h.low i h1 h2
    simp at this; omega
  | some j =>
    obtain ⟨a, b, c⟩ := lstBelow_some _ _ _ e
    refine ⟨a, by simpa using b, fun l h3 h4 => ?_⟩
    have := c l h3 h4
    simpa using this
theorem par_uniq {D : Nat → Int} {i j : Nat} (h1 : j < i) (h2 : D j < D i) (h3 : ∀ l, j < l → l < i → D i ≤ D l) : par D i = j := by
  unfold par
  rw [lstBelow_mk _ i j h1 (by simpa using h2) (fun l a b => by simpa using h3 l a b)]
  rfl
theorem par_dep {D : Nat → Int} {m i : Nat} (h : Deps D m) (h1 : 1 ≤ i) (h2 : i < m) : D (par D i) = D i - 1 := by
  obtain ⟨a, b, c⟩ := par_spec h h1 h2
  by_cases e : par D i + 1 = i
  · have s := h.step i h1 h2
    rw [show i - 1 = par D i by omega] at s; omega
  · have s := h.step (par D i + 1) (by omega) (by omega)
    have d := c (par D i + 1) (by omega) (by omega)
    rw [show par D i + 1 - 1 = par D i by omega] at s; omega

theorem en_spec {D : Nat → Int} {m i : Nat} (hi : i < m) : i + 1 ≤ en D m i ∧ en D m i ≤ m ∧ (∀ j, i < j → j < en D m i → D i < D j) ∧ (en D m i < m → D (en D m i) ≤ D i) := by
  unfold en
  have a := fstFrom_ge (fun j => decide (D j ≤ D i)) (m - (i + 1)) (i + 1)
  have b := fstFrom_le (fun j => decide (D j ≤ D i)) (m - (i + 1)) (i + 1)
  refine ⟨a, by omega, fun j h1 h2 => ?_, fun h => ?_⟩
  · have := fstFrom_not _ _ _ j (by omega) h2
    simpa using this
  · have := fstFrom_yes (fun j => decide (D j ≤ D i)) (m - (i + 1)) (i + 1) (by omega)
    simpa using this
theorem en_uniq {D : Nat → Int} {m i e : Nat} (h1 : i + 1 ≤ e) (h2 : e ≤ m) (h3 : ∀ j, i < j → j < e → D i < D j) (h4 : e < m → D e ≤ D i) : en D m i = e := by
  unfold en
  exact fstFrom_uniq _ _ _ _ h1 (by omega) (fun j a b => by simpa using h3 j (by omega) b) (fun a => by simpa using h4 (by omega))
theorem en_top {D : Nat → Int} {m : Nat} (h : Deps D m) : en D m 0 = m :=
  en_uniq h.pos (Nat.le_refl _) (fun j a b => by have := h.low j (by omega) b; have := h.top; omega) (fun a => by omega)

/-- What stands between a row and one of its children is deeper than the row. -/
theorem par_in {D : Nat → Int} {m i : Nat} (h : Deps D m) (h1 : 1 ≤ i) (h2 : i < m) : i < en D m (par D i) := by
  obtain ⟨a, b, c⟩ := par_spec h h1 h2
  obtain ⟨e1, e2, e3, e4⟩ := en_spec (D := D) (m := m) (i := par D i) (by omega)
  rcases Nat.lt_or_ge i (en D m (par D i)) with g | g
  · exact g
  · have := e4 (by omega)
    by_cases q : en D m (par D i) = i
    · rw [q] at this; omega
    · have := c _ (show par D i < en D m (par D i) by omega) (by omega); omega
theorem kid_iff {D : Nat → Int} {m p j : Nat} (h : Deps D m) (hp : p < m) (hj : j < m) : isKid D p j = true ↔ (p < j ∧ j < en D m p ∧ D j = D p + 1) := by
  obtain ⟨e1, e2, e3, e4⟩ := en_spec (D := D) (m := m) (i := p) hp
  rw [isKid_iff]
  constructor
  · rintro ⟨h1, rfl⟩
    have a := par_spec h h1 hj
    have b := par_dep h h1 hj
    exact ⟨a.1, par_in h h1 hj, by omega⟩
  · rintro ⟨h1, h2, h3⟩
    refine ⟨by omega, par_uniq h1 (by omega) (fun l a b => ?_)⟩
    have := e3 l a (by omega); omega
/-- The subtree of a child ends within that of its parent. -/
theorem en_kid {D : Nat → Int} {m i : Nat} (h : Deps D m) (h1 : 1 ≤ i) (h2 : i < m) : en D m i ≤ en D m (par D i) := by
  obtain ⟨a, b, c⟩ := par_spec h h1 h2
  have b1 := par_dep h h1 h2
  have b2 := par_in h h1 h2
  obtain ⟨e1, e2, e3, e4⟩ := en_spec (D := D) (m := m) (i := par D i) (by omega)
  obtain ⟨f1, f2, f3, f4⟩ := en_spec (D := D) (m := m) (i := i) h2
  rcases Nat.lt_or_ge (en D m (par D i)) (en D m i) with g | g
  · have := f3 _ b2 g
    have := e4 (by omega); omega
  · exact g
theorem fi_eq {D : Nat → Int} {m p : Nat} (h : Deps D m) (hp : p < m) : fi D m p = if p + 1 < en D m p then some (p + 1) else none := by
  obtain ⟨e1, e2, e3, e4⟩ := en_spec (D := D) (m := m) (i := p) hp
  unfold fi
  split
  · rename_i g
    refine fstBelow_mk _ _ _ (by omega) ((kid_iff h hp (by omega)).2 ⟨by omega, g, ?_⟩) (fun i hi => ?_)
    · have s := h.step (p + 1) (by omega) (by omega)
      rw [show p + 1 - 1 = p by omega] at s
      have := e3 (p + 1) (by omega) g; omega
    · rw [Bool.eq_false_iff]; intro g2
      have := (kid_iff h hp (by omega)).1 g2; omega
  · rename_i g
    refine fstBelow_mk_none _ _ (fun i hi => ?_)
    rw [Bool.eq_false_iff]; intro g2
    have := (kid_iff h hp hi).1 g2; omega
theorem nx_eq {D : Nat → Int} {m c : Nat} (h : Deps D m) (h1 : 1 ≤ c) (h2 : c < m) : nx D m c = if en D m c < en D m (par D c) then some (en D m c) else none := by
  obtain ⟨a1, a2, a3⟩ := par_spec h h1 h2
  have b1 := par_dep h h1 h2
  have b2 := par_in h h1 h2
  obtain ⟨e1, e2, e3, e4⟩ := en_spec (D := D) (m := m) (i := par D c) (by omega)
  obtain ⟨f1, f2, f3, f4⟩ := en_spec (D := D) (m := m) (i := c) h2
  have hk := en_kid h h1 h2
  unfold nx
  split
  · rename_i g
    have g1 := f4 (by omega)
    have g2 := e3 _ (by omega) g
    refine fstBelow_mk _ _ _ (by omega) ?_ (fun i hi => ?_)
    · simp only [Bool.and_eq_true, decide_eq_true_eq]
      exact ⟨by omega, (kid_iff h (by omega) (by omega)).2 ⟨by omega, g, by omega⟩⟩
    · rw [Bool.eq_false_iff]; intro g3
      simp only [Bool.and_eq_true, decide_eq_true_eq] at g3
      have q := (kid_iff h (by omega) (by omega)).1 g3.2
      have := f3 i g3.1 hi; omega
  · rename_i g
    refine fstBelow_mk_none _ _ (fun i hi => ?_)
    rw [Bool.eq_false_iff]; intro g3
    simp only [Bool.and_eq_true, decide_eq_true_eq] at g3
    have q := (kid_iff h (by omega) (by omega)).1 g3.2
    have := f3 i g3.1 (by omega); omega

/-! ### adding one place -/
theorem la_succ (D : Nat → Int) (k q : Nat) (hk : 1 ≤ k) : la D (k + 1) q = if par D k = q then some k else la D k q := by
  unfold la
  rw [lstBelow]
  by_cases e : par D k = q
  · rw [if_pos (isKid_iff.2 ⟨hk, e⟩), if_pos e]
  · rw [if_neg (fun h => e (isKid_iff.1 h).2), if_neg e]
theorem ah_new (D : Nat → Int) (k : Nat) : ah D k = la D k (par D k) := rfl
theorem fi_succ (D : Nat → Int) (k q : Nat) (hk : 1 ≤ k) : fi D (k + 1) q = if par D k = q ∧ la D k q = none then some k else fi D k q := by
  unfold fi la
  rw [fstBelow]
  cases e : fstBelow (isKid D q) k with
  | some j =>
    obtain ⟨a, b, _⟩ := fstBelow_some _ _ _ e
    simp only
    rw [if_neg]
    rintro ⟨_, h⟩
    rw [lstBelow_none _ _ h j a] at b; cases b
  | none =>
    have n := fstBelow_none _ _ e
    rw [lstBelow_mk_none _ _ n]
    by_cases e : par D k = q
    · simp only [e, and_self, if_true]
      rw [if_pos (isKid_iff.2 ⟨hk, e⟩)]
    · simp only [e, false_and, if_false]
      rw [if_neg (fun h => e (isKid_iff.1 h).2)]
theorem nx_succ (D : Nat → Int) (k i : Nat) (hk : 1 ≤ k) (hi : 1 ≤ i) (hik : i < k) : nx D (k + 1) i = if la D k (par D k) = some i then some k else nx D k i := by
  unfold nx
  rw [fstBelow]
  cases e : fstBelow (fun j => decide (i < j) && isKid D (par D i) j) k with
  | some j =>
    obtain ⟨a, b, _⟩ := fstBelow_some _ _ _ e
    simp only [Bool.and_eq_true, decide_eq_true_eq, isKid_iff] at b
    simp only
    rw [if_neg]
    intro h
    obtain ⟨c1, c2, c3⟩ := lstBelow_some _ _ _ h
    have := c3 j b.1 a
    rw [Bool.eq_false_iff] at this
    exact this (isKid_iff.2 ⟨b.2.1, by rw [b.2.2]; exact (isKid_iff.1 c2).2⟩)
  | none =>
    have n := fstBelow_none _ _ e
    simp only
    by_cases e2 : par D i = par D k
    · have hl : la D k (par D k) = some i := by
        refine lstBelow_mk _ _ _ hik (isKid_iff.2 ⟨hi, e2⟩) (fun j a b => ?_)
        have := n j b
        rw [e2] at this
        simpa [a] using this
      rw [if_pos hl, if_pos]
      simp only [Bool.and_eq_true, decide_eq_true_eq]
      exact ⟨hik, isKid_iff.2 ⟨hk, e2.symm⟩⟩
    · rw [if_neg, if_neg]
      · intro h
        obtain ⟨c1, c2, c3⟩ := lstBelow_some _ _ _ h
        exact e2 (isKid_iff.1 c2).2
      · simp only [Bool.and_eq_true, decide_eq_true_eq]
        rintro ⟨_, h⟩
        exact e2 (isKid_iff.1 h).2.symm
theorem nx_new (D : Nat → Int) (k : Nat) : nx D (k + 1) k = none := by
  refine fstBelow_mk_none _ _ (fun i hi => ?_)
  rw [Bool.eq_false_iff]; intro h
  simp only [Bool.and_eq_true, decide_eq_true_eq] at h; omega
theorem fi_new {D : Nat → Int} (k : Nat) (h : ∀ j, 1 ≤ j → j ≤ k → par D j < j) : fi D (k + 1) k = none := by
  refine fstBelow_mk_none _ _ (fun i hi => ?_)
  rw [Bool.eq_false_iff]; intro g
  have := isKid_iff.1 g
  have := h i (by omega) (by omega); omega
theorem la_new {D : Nat → Int} (k : Nat) (h : ∀ j, 1 ≤ j → j ≤ k → par D j < j) : la D (k + 1) k = none := by
  refine lstBelow_mk_none _ _ (fun i hi => ?_)
  rw [Bool.eq_false_iff]; intro g
  have := isKid_iff.1 g
  have := h i (by omega) (by omega); omega

/-! ### under -/
def un (D : Nat → Int) (m a b : Nat) : Prop := b ≤ a ∧ a < en D m b
theorem un_self {D : Nat → Int} {m a : Nat} (ha : a < m) : un D m a a := ⟨Nat.le_refl _, by have := (en_spec (D := D) ha).1; omega⟩
theorem un_par {D : Nat → Int} {m a b : Nat} (h : Deps D m) (h1 : 1 ≤ a) (h2 : a < m) (hb : b < m) (hne : a ≠ b) : un D m a b ↔ un D m (par D a) b := by
  obtain ⟨a1, a2, a3⟩ := par_spec h h1 h2
  obtain ⟨e1, e2, e3, e4⟩ := en_spec (D := D) (m := m) (i := b) hb
  unfold un
  constructor
  · rintro ⟨g1, g2⟩
    have g3 := e3 a (by omega) g2
    refine ⟨?_, by omega⟩
    rcases Nat.lt_or_ge (par D a) b with q | q
    · have := a3 b q (by omega); omega
    · exact q
  · rintro ⟨g1, g2⟩
    refine ⟨by omega, ?_⟩
    rcases Nat.lt_or_ge a (en D m b) with q | q
    · exact q
    · have r := e4 (by omega)
      have s : D a ≤ D (en D m b) := by
        by_cases z : en D m b = a
        · rw [z]; exact Int.le_refl _
        · exact a3 _ g2 (by omega)
      by_cases z : par D a = b
      · rw [z] at a2; omega
      · have := e3 _ (show b < par D a by omega) g2; omega
theorem un_trans {D : Nat → Int} {m a b c : Nat} (hc : c < m) (hb : b < m) (h1 : un D m a b) (h2 : un D m b c) : un D m a c := by
  obtain ⟨p1, p2⟩ := h1
  obtain ⟨q1, q2⟩ := h2
  obtain ⟨e1, e2, e3, e4⟩ := en_spec (D := D) (m := m) (i := c) hc
  obtain ⟨f1, f2, f3, f4⟩ := en_spec (D := D) (m := m) (i := b) hb
  refine ⟨by omega, ?_⟩
  rcases Nat.lt_or_ge a (en D m c) with q | q
  · exact q
  · have r := e4 (by omega)
    by_cases z : b = c
    · subst z; omega
    · have g := e3 b (by omega) q2
      have := f3 (en D m c) (by omega) (by omega); omega
end Go.Proofs.YtclhjgcapalniaaDoor
/-
  Plain mathematics of outlines as lists of rows: what is a valid outline, places of rows, parents, children, descendants, previous siblings. Nothing of the program is run here. Conditions: none beyond the lemmas' own premises.
-/
namespace Go.Proofs.YtclhjgcapalniaaDoor
open Go.RowKit

structure RowD where
  id : Int
  dep : Int
  txt : ByteArray
def rz : RowD := ⟨0, 0, ByteArray.empty⟩
def rat (rs : List RowD) (i : Nat) : RowD := rs.getD i rz
/-- Node 0 is the top, node i + 1 is row i. -/
def nd (rs : List RowD) : Nat → RowD
  | 0 => ⟨0, -1, ⟨#[]⟩⟩
  | i + 1 => rat rs i
def dp (rs : List RowD) (i : Nat) : Int := (nd rs i).dep
def rokB (r : RowD) : Bool := rowB r.id r.dep r.txt
def nroots (rs : List RowD) : Nat → Nat
  | 0 => 0
  | k + 1 => nroots rs k + (if rootB (rat rs k).id then 1 else 0)
def freshTo (rs : List RowD) (i k : Nat) : Bool := (List.range k).all fun j => !((rat rs j).id == (rat rs i).id)
def riseB (rs : List RowD) (i : Nat) : Bool := i == 0 || decide ((rat rs i).dep ≤ (rat rs (i - 1)).dep + 1)
def rordB (rs : List RowD) (i : Nat) : Bool := !rootB (rat rs i).id || ((rat rs i).id == (nroots rs i : Int) + 1)
def stepB (rs : List RowD) (i : Nat) : Bool := rokB (rat rs i) && riseB rs i && rordB rs i && freshTo rs i i
def okTo (rs : List RowD) (k : Nat) : Bool := (List.range k).all (stepB rs)
def treeB (rs : List RowD) : Bool := okTo rs rs.length && (nroots rs rs.length == 3) && ((rat rs 0).id == 1)

theorem okTo_succ (rs : List RowD) (k : Nat) : okTo rs (k + 1) = (okTo rs k && stepB rs k) := by simp [okTo, List.range_succ]
theorem okTo_zero (rs : List RowD) : okTo rs 0 = true := rfl
theorem okTo_at {rs : List RowD} {k i : Nat} (h : okTo rs k = true) (hi : i < k) : stepB rs i = true := by
  simp only [okTo, List.all_eq_true, List.mem_range] at h; exact h i hi
theorem okTo_mono {rs : List RowD} {k i : Nat} (h : okTo rs k = true) (hi : i ≤ k) : okTo rs i = true := by
  simp only [okTo, List.all_eq_true, List.mem_range] at h ⊢; exact fun j hj => h j (by omega)
theorem treeB_bad {rs : List RowD} {k : Nat} (hk : k < rs.length) (h : stepB rs k = false) : treeB rs = false := by
  rw [Bool.eq_false_iff]; intro g
  simp only [treeB, Bool.and_eq_true] at g
  rw [okTo_at g.1.1 hk] at h; cases h
theorem freshTo_succ (rs : List RowD) (i k : Nat) : freshTo rs i (k + 1) = (freshTo rs i k && !((rat rs k).id == (rat rs i).id)) := by simp [freshTo, List.range_succ]
theorem freshTo_iff {rs : List RowD} {i k : Nat} : freshTo rs i k = true ↔ ∀ j, j < k → (rat rs j).id ≠ (rat rs i).id := by simp [freshTo]
theorem nroots_le (rs : List RowD) : ∀ k, nroots rs k ≤ k
  | 0 => Nat.le_refl _
  | k + 1 => by have := nroots_le rs k; unfold nroots; split <;> omega
theorem nroots_mono (rs : List RowD) (j : Nat) : ∀ k, j ≤ k → nroots rs j ≤ nroots rs k
  | 0, h => by obtain rfl : j = 0 := by omega
               exact Nat.le_refl _
  | k + 1, h => by
    by_cases e : j = k + 1
    · subst e; exact Nat.le_refl _
    · have := nroots_mono rs j k (by omega)
      show _ ≤ nroots rs k + _
      omega

structure TreeP (rs : List RowD) : Prop where
  rok : ∀ i, i < rs.length → rokB (rat rs i) = true
  rise : ∀ i, 1 ≤ i → i < rs.length → (rat rs i).dep ≤ (rat rs (i - 1)).dep + 1
  rord : ∀ i, i < rs.length → rootB (rat rs i).id = true → (rat rs i).id = (nroots rs i : Int) + 1
  fresh : ∀ i j, j < i → i < rs.length → (rat rs j).id ≠ (rat rs i).id
  three : nroots rs rs.length = 3
  head : (rat rs 0).id = 1
theorem treeP_of {rs : List RowD} (h : treeB rs = true) : TreeP rs := by
  simp only [treeB, Bool.and_eq_true, beq_iff_eq] at h
  obtain ⟨⟨h1, h2⟩, h3⟩ := h
  have s : ∀ i, i < rs.length → rokB (rat rs i) = true ∧ riseB rs i = true ∧ rordB rs i = true ∧ freshTo rs i i = true := fun i hi => by
    have := okTo_at h1 hi
    simp only [stepB, Bool.and_eq_true] at this
    exact ⟨this.1.1.1, this.1.1.2, this.1.2, this.2⟩
  refine ⟨fun i hi => (s i hi).1, fun i h0 hi => ?_, fun i hi hr => ?_, fun i j hj hi => freshTo_iff.1 (s i hi).2.2.2 j hj, h2, h3⟩
  · have := (s i hi).2.1
    simp only [riseB, Bool.or_eq_true, beq_iff_eq, decide_eq_true_eq] at this
    omega
  · have := (s i hi).2.2.1
    simp only [rordB, hr, Bool.not_true, Bool.false_or, beq_iff_eq] at this
    exact this
theorem TreeP.len {rs : List RowD} (h : TreeP rs) : 3 ≤ rs.length := by have := nroots_le rs rs.length; have := h.three; omega

/-! ### rows that are right by themselves -/
theorem rok_cases {r : RowD} (h : rokB r = true) : (rootB r.id = true ∧ r.dep = 0 ∧ r.txt.toList.isEmpty = true) ∨ (rootB r.id = false ∧ madeB r.id = true ∧ 1 ≤ r.dep ∧ r.dep ≤ 18 ∧ textB r.txt = true) := by
  unfold rokB rowB at h
  split at h
  · rename_i hr; simp only [Bool.and_eq_true, beq_iff_eq] at h; exact .inl ⟨hr, h.1, h.2⟩
  · rename_i hr; simp only [Bool.and_eq_true] at h; have := (inB_iff _ _ _).1 h.1.2; exact .inr ⟨by simpa using hr, h.1.1, this.1, this.2, h.2⟩
theorem rok_dep {r : RowD} (h : rokB r = true) : 0 ≤ r.dep ∧ r.dep ≤ 18 := by
  rcases rok_cases h with ⟨_, h, _⟩ | ⟨_, _, h1, h2, _⟩ <;> omega
theorem rok_root {r : RowD} (h : rokB r = true) : (r.dep = 0 ↔ rootB r.id = true) := by
  rcases rok_cases h with ⟨h1, h2, _⟩ | ⟨h1, _, h2, _⟩
  · simp [h1, h2]
  · simp [h1]; omega
theorem rok_id {r : RowD} (h : rokB r = true) : 1 ≤ r.id ∧ r.id ≤ 36 := by
  rcases rok_cases h with ⟨h1, _⟩ | ⟨_, h1, _⟩
  · have := (rootB_iff _).1 h1; omega
  · have := (madeB_iff _).1 h1; omega
theorem TreeP.deps {rs : List RowD} (h : TreeP rs) : Deps (dp rs) (rs.length + 1) := by
  have hl := h.len
  refine ⟨by omega, rfl, fun i h1 h2 => ?_, fun i h1 h2 => ?_⟩
  · obtain ⟨j, rfl⟩ : ∃ j, i = j + 1 := ⟨i - 1, by omega⟩
    exact (rok_dep (h.rok j (by omega))).1
  · obtain ⟨j, rfl⟩ : ∃ j, i = j + 1 := ⟨i - 1, by omega⟩
    show dp rs (j + 1) ≤ dp rs j + 1
    by_cases e : j = 0
    · subst e
      have := (rok_root (h.rok 0 (by omega))).2 ((rootB_iff _).2 (by have := h.head; omega))
      show (rat rs 0).dep ≤ -1 + 1
      omega
    · obtain ⟨l, rfl⟩ : ∃ l, j = l + 1 := ⟨j - 1, by omega⟩
      exact h.rise (l + 1) (by omega) (by omega)

/-! ### places -/
def atN (rs : List RowD) (id : Int) : Nat := fstFrom (fun i => (rat rs i).id == id) rs.length 0
def atI (rs : List RowD) (id : Int) : Int := if atN rs id < rs.length then (atN rs id : Int) else -1
theorem atN_le (rs : List RowD) (id : Int) : atN rs id ≤ rs.length := by have := fstFrom_le (fun i => (rat rs i).id == id) rs.length 0; unfold atN; omega
theorem atN_id {rs : List RowD} {id : Int} (h : atN rs id < rs.length) : (rat rs (atN rs id)).id = id := by
  have := fstFrom_yes (fun i => (rat rs i).id == id) rs.length 0 (by unfold atN at h; omega)
  simp only [beq_iff_eq] at this
  exact this
theorem atN_not {rs : List RowD} {id : Int} {j : Nat} (h : j < atN rs id) : (rat rs j).id ≠ id := by
  have := fstFrom_not (fun i => (rat rs i).id == id) rs.length 0 j (Nat.zero_le _) h
  simpa using this
theorem atN_mk {rs : List RowD} {id : Int} {k : Nat} (h1 : k < rs.length) (h2 : (rat rs k).id = id) (h3 : ∀ j, j < k → (rat rs j).id ≠ id) : atN rs id = k :=
  fstFrom_uniq _ _ _ _ (Nat.zero_le _) (by omega) (fun j _ hj => by simpa using h3 j hj) (fun _ => by simpa using h2)
theorem atN_none {rs : List RowD} {id : Int} (h : ∀ j, j < rs.length → (rat rs j).id ≠ id) : atN rs id = rs.length :=
  fstFrom_uniq _ _ _ _ (Nat.zero_le _) (by omega) (fun j _ hj => by simpa using h j hj) (fun a => by omega)
theorem TreeP.at_self {rs : List RowD} (h : TreeP rs) {i : Nat} (hi : i < rs.length) : atN rs (rat rs i).id = i :=
  atN_mk hi rfl (fun j hj => h.fresh i j hj hi)
theorem TreeP.id_inj {rs : List RowD} (h : TreeP rs) {i j : Nat} (hi : i < rs.length) (hj : j < rs.length) (e : (rat rs i).id = (rat rs j).id) : i = j := by
  rw [← h.at_self hi, ← h.at_self hj, e]
theorem atI_neg {rs : List RowD} {id : Int} (h : atN rs id = rs.length) : atI rs id = -1 := by unfold atI; rw [if_neg (by omega)]
theorem atI_pos {rs : List RowD} {id : Int} (h : atN rs id < rs.length) : atI rs id = (atN rs id : Int) := by unfold atI; rw [if_pos h]

/-! ### the functions on an outline, by places of rows (not nodes), for every list of rows -/
def rdep (rs : List RowD) (i : Nat) : Int := (rat rs i).dep
/-- The place behind the subtree of a place. -/
def enR (rs : List RowD) (i : Nat) : Nat := en (rdep rs) rs.length i
def upAt (rs : List RowD) (i : Nat) : Int := match lstBelow (fun j => decide (rdep rs j < rdep rs i)) i with
  | some j => (rat rs j).id
  | none => 0
def ahAt (rs : List RowD) (i : Nat) : Int := match lstBelow (fun j => decide (rdep rs j ≤ rdep rs i)) i with
  | some j => if rdep rs j = rdep rs i then (rat rs j).id else 0
  | none => 0
/-- The children of place i among the places from s on, k of them. -/
def kidsOf (rs : List RowD) (i : Nat) : Nat → Nat → List Int
  | _, 0 => []
  | s, k + 1 => (if rdep rs s = rdep rs i + 1 then [(rat rs s).id] else []) ++ kidsOf rs i (s + 1) k
def kidsAt (rs : List RowD) (i : Nat) : List Int := kidsOf rs i (i + 1) (enR rs i - (i + 1))
def kidsL (rs : List RowD) (id : Int) : List Int := if atN rs id < rs.length then kidsAt rs (atN rs id) else []
def undB (rs : List RowD) (id under : Int) : Bool := decide (atN rs id < rs.length) && decide (atN rs under < rs.length) && decide (atN rs under ≤ atN rs id) && decide (atN rs id < enR rs (atN rs under))

theorem kidsOf_snoc (rs : List RowD) (i : Nat) : ∀ k s, kidsOf rs i s (k + 1) = kidsOf rs i s k ++ (if rdep rs (s + k) = rdep rs i + 1 then [(rat rs (s + k)).id] else [])
  | 0, s => by simp [kidsOf]
  | k + 1, s => by
    rw [kidsOf, kidsOf_snoc rs i k (s + 1), kidsOf, List.append_assoc, show s + 1 + k = s + (k + 1) by omega]
theorem kidsOf_len (rs : List RowD) (i : Nat) : ∀ k s, (kidsOf rs i s k).length ≤ k
  | 0, s => Nat.le_refl _
  | k + 1, s => by
    have := kidsOf_len rs i k (s + 1)
    unfold kidsOf; split <;> simp <;> omega

/-! ### nodes and rows -/
theorem en_shift {rs : List RowD} {i : Nat} (hi : i < rs.length) : en (dp rs) (rs.length + 1) (i + 1) = enR rs i + 1 := by
  obtain ⟨a, b, c, d⟩ := en_spec (D := rdep rs) (m := rs.length) hi
  refine en_uniq ?_ ?_ (fun j h1 h2 => ?_) (fun h => ?_)
  · unfold enR; omega
  · unfold enR; omega
  · obtain ⟨l, rfl⟩ : ∃ l, j = l + 1 := ⟨j - 1, by omega⟩
    exact c l (by omega) (by unfold enR at h2; omega)
  · exact d (by unfold enR at h; omega)
theorem par_shift {rs : List RowD} (h : TreeP rs) {i : Nat} (hi : i < rs.length) : (nd rs (par (dp rs) (i + 1))).id = upAt rs i := by
  unfold upAt
  cases e : lstBelow (fun j => decide (rdep rs j < rdep rs i)) i with
  | none =>
    have n := lstBelow_none _ _ e
    have : par (dp rs) (i + 1) = 0 := by
      refine par_uniq (by omega) ?_ (fun l h1 h2 => ?_)
      · have := (rok_dep (h.rok i hi)).1
        show (-1 : Int) < (rat rs i).dep
        omega
      · obtain ⟨q, rfl⟩ : ∃ q, l = q + 1 := ⟨l - 1, by omega⟩
        have := n q (by omega)
        simp only [decide_eq_false_iff_not, Int.not_lt] at this
        exact this
    rw [this]; rfl
  | some j =>
    obtain ⟨a, b, c⟩ := lstBelow_some _ _ _ e
    have : par (dp rs) (i + 1) = j + 1 := by
      simp only [decide_eq_true_eq] at b
      refine par_uniq (by omega) b (fun l h1 h2 => ?_)
      obtain ⟨q, rfl⟩ : ∃ q, l = q + 1 := ⟨l - 1, by omega⟩
      have := c q (by omega) (by omega)
      simp only [decide_eq_false_iff_not, Int.not_lt] at this
      exact this
    rw [this]; rfl
end Go.Proofs.YtclhjgcapalniaaDoor
/-
  Contracts of the model's drawing: l6Open and (*l6Rd).pick. A pick writes the reader's own place alone and answers a number from 0 to n-1. Conditions: the code reads as bytes, and fewer than 2^30 picks were made before.
-/
namespace Go.Proofs.YtclhjgcapalniaaDoor
open Go.ChangeShapes Go.WideShapes Go.ChangeAt Go.RowKit Go.Joins

/-- As 'Below', but for one block. -/
structure But (b B : Nat) (w w' : World) : Prop where
  os : w'.os = w.os
  tape : w'.tape = w.tape
  output : w'.output = w.output
  size : w.heap.size ≤ w'.heap.size
  block : ∀ k, k < B → k ≠ b → w'.heap[k]? = w.heap[k]?
theorem But.refl (b B : Nat) (w : World) : But b B w w := ⟨rfl, rfl, rfl, Nat.le_refl _, fun _ _ _ => rfl⟩
theorem But.trans {b B : Nat} {u v w : World} (h : But b B u v) (k : But b B v w) : But b B u w :=
  ⟨k.os.trans h.os, k.tape.trans h.tape, k.output.trans h.output, Nat.le_trans h.size k.size, fun i hi hb => (k.block i hi hb).trans (h.block i hi hb)⟩
theorem But.mono {b B B' : Nat} {w w' : World} (h : But b B w w') (hB : B' ≤ B) : But b B' w w' := ⟨h.os, h.tape, h.output, h.size, fun k hk hb => h.block k (Nat.lt_of_lt_of_le hk hB) hb⟩
theorem But.of_below {b B : Nat} {w w' : World} (h : Below B w w') : But b B w w' := ⟨h.os, h.tape, h.output, h.size, fun k hk _ => h.block k hk⟩
theorem But.below {b B N : Nat} {w w' : World} (h : But b B w w') (h1 : N ≤ b) (h2 : N ≤ B) : Below N w w' := ⟨h.os, h.tape, h.output, h.size, fun k hk => h.block k (by omega) (by omega)⟩
theorem But.drew {b B : Nat} {w w' : World} (h : But b B w w') : But b B w w'.drew := ⟨h.os, h.tape, h.output, h.size, h.block⟩
theorem But.drewN {b B : Nat} {w w' : World} (n : Nat) (h : But b B w w') : But b B w (w'.drewN n) := ⟨h.os, h.tape, h.output, h.size, h.block⟩
theorem But.setCell {b B : Nat} {w w' : World} (h : But b B w w') (o : Nat) (u : Value) : But b B w (w'.setCell ⟨b, o, none⟩ u) :=
  h.trans ⟨rfl, rfl, rfl, by simp [World.setCell], fun k _ hb => Below.heap_setCell _ _ _ _ hb⟩
theorem But.setNew {b B : Nat} {w w' : World} (h : But b B w w') {p : Addr} (hp : B ≤ p.block) (u : Value) : But b B w (w'.setCell p u) :=
  h.trans ⟨rfl, rfl, rfl, by simp [World.setCell], fun k hk _ => Below.heap_setCell _ _ _ _ (by omega)⟩
theorem But.alloc {b B : Nat} {w w' : World} (h : But b B w w') (hB : B ≤ w'.heap.size) (o : Obj) : But b B w (w'.alloc o) :=
  h.trans (But.of_below ((Below.refl _ _).alloc hB o))
theorem But.cell {b B : Nat} {w w' : World} (h : But b B w w') {p : Addr} (hp : p.block < B) (hb : p.block ≠ b) : w'.cell? p = w.cell? p := World.cell?_of_block (w := w) (h.block p.block hp hb)
theorem But.frozen {b B : Nat} {w w' : World} (h : But b B w w') {p : Addr} (hp : p.block < B) (hb : p.block ≠ b) : w'.frozen? p = w.frozen? p := World.frozen?_of_block (w := w) (h.block p.block hp hb)

/-- The bytes of a code: its cells lie below block N. -/
def CodeAt (N : Nat) (w : World) (a : Option Addr) (len : Nat) : Prop :=
  len ≤ maxLen ∧ (len = 0 ∨ ∃ (ab aoff : Nat) (z : Nat → Int), a = some ⟨ab, aoff, none⟩ ∧ ab < N ∧ ∀ i, i < len → w.cell? ⟨ab, aoff + i, none⟩ = some (.int .u8 (z i)) ∧ 0 ≤ z i ∧ z i < 256)
theorem CodeAt.below {N : Nat} {w w' : World} {a : Option Addr} {len : Nat} (h : CodeAt N w a len) (hb : Below N w w') : CodeAt N w' a len := by
  obtain ⟨h1, h2⟩ := h
  refine ⟨h1, ?_⟩
  rcases h2 with h2 | ⟨ab, aoff, z, rfl, h3, h4⟩
  · exact .inl h2
  · exact .inr ⟨ab, aoff, z, rfl, h3, fun i hi => ⟨by rw [hb.cell (p := ⟨ab, _, none⟩) h3]; exact (h4 i hi).1, (h4 i hi).2⟩⟩

/-- The reader at block b: its code, and that at most p picks were made. -/
def Rd (N : Nat) (w : World) (b p : Nat) : Prop :=
  N ≤ b ∧ b < w.heap.size ∧ ∃ (a : Option Addr) (len cap q : Nat), w.cell? ⟨b, 0, none⟩ = some (.slice a len cap) ∧ w.cell? ⟨b, 1, none⟩ = some (.int .i64 q) ∧ w.frozen? ⟨b, 1, none⟩ = false ∧ q ≤ p ∧ CodeAt N w a len
theorem Rd.mono {N : Nat} {w : World} {b p p' : Nat} (h : Rd N w b p) (hp : p ≤ p') : Rd N w b p' := by
  obtain ⟨h1, h2, a, len, cap, q, h3, h4, h5, h6, h7⟩ := h
  exact ⟨h1, h2, a, len, cap, q, h3, h4, h5, by omega, h7⟩
/-- The reader is kept where nothing below B turns, its block among it. -/
theorem Rd.below {N : Nat} {w w' : World} {b p B : Nat} (h : Rd N w b p) (hb : Below B w w') (hB : b < B) : Rd N w' b p := by
  obtain ⟨h1, h2, a, len, cap, q, h3, h4, h5, h6, h7⟩ := h
  exact ⟨h1, by have := hb.size; omega, a, len, cap, q, by rw [hb.cell hB]; exact h3, by rw [hb.cell hB]; exact h4, by rw [hb.frozen hB]; exact h5, h6, h7.below (hb.mono (by omega))⟩

theorem xor_nat (a b : Nat) (ha : a < 1099511627776) (hb : b < 1099511627776) : bits .xor .i64 (a : Int) (b : Int) = ((a ^^^ b : Nat) : Int) ∧ a ^^^ b < 1099511627776 := by
  have hx : a ^^^ b < 2 ^ 40 := Nat.xor_lt_two_pow (by omega) (by omega)
  refine ⟨?_, by omega⟩
  show IntKind.i64.wrap ((BitVec.ofInt 64 (a : Int) ^^^ BitVec.ofInt 64 (b : Int)).toNat : Int) = _
  rw [BitVec.toNat_xor, ofInt_u64 a (by omega), ofInt_u64 b (by omega), IntKind.wrap_i64]
  omega
theorem xor_bd (x y : Int) (h0 : 0 ≤ x) (h1 : x < 1099511627776) (h2 : 0 ≤ y) (h3 : y < 1099511627776) : 0 ≤ bits .xor .i64 x y := by
  obtain ⟨A, rfl⟩ := Int.eq_ofNat_of_zero_le h0
  obtain ⟨B, rfl⟩ := Int.eq_ofNat_of_zero_le h2
  rw [(xor_nat A B (by omega) (by omega)).1]
  omega
/-- The number that a pick beyond the code's end comes to lies in range. -/
theorem mix_bd (x n : Int) (h0 : 0 ≤ x) (h1 : x < 1099511627776) (hn : 1 ≤ n) :
    0 ≤ (bits .xor .i64 x (x / 64)).tmod n ∧ (bits .xor .i64 x (x / 64)).tmod n < n := by
  have h := xor_bd x (x / 64) h0 h1 (by omega) (by omega)
  rw [Int.tmod_eq_emod_of_nonneg h]
  exact ⟨Int.emod_nonneg _ (by omega), Int.emod_lt_of_pos _ (by omega)⟩

theorem rd_step {N b p q : Nat} {w : World} {a : Option Addr} {len cap : Nat} (hNb : N ≤ b) (hbw : b < w.heap.size) (c0 : w.cell? ⟨b, 0, none⟩ = some (.slice a len cap)) (c1 : w.cell? ⟨b, 1, none⟩ = some (.int .i64 q))
    (fz : w.frozen? ⟨b, 1, none⟩ = false) (hq : q ≤ p) (hc : CodeAt N w a len) :
    But b w.heap.size w (w.setCell ⟨b, 1, none⟩ (.int .i64 ((q : Int) + 1))) ∧ w.heap.size ≤ (w.setCell ⟨b, 1, none⟩ (.int .i64 ((q : Int) + 1))).heap.size ∧ Rd N (w.setCell ⟨b, 1, none⟩ (.int .i64 ((q : Int) + 1))) b (p + 1) := by
  have hbut : But b w.heap.size w (w.setCell ⟨b, 1, none⟩ (.int .i64 ((q : Int) + 1))) := (But.refl b _ w).setCell 1 _
  have hsz : (w.setCell ⟨b, 1, none⟩ (.int .i64 ((q : Int) + 1))).heap.size = w.heap.size := by simp [World.setCell]
  refine ⟨hbut, by omega, hNb, by omega, a, len, cap, q + 1, ?_, ?_, ?_, by omega, hc.below (hbut.below hNb (by omega))⟩
  · go_simp
  · go_simp
  · go_simp
def Picked (N b p : Nat) (n : Int) (w : World) (e : Ending) (w' : World) : Prop := ∃ k : Int, 0 ≤ k ∧ k < n ∧ e = .returned (.int .i64 k) ∧ But b w.heap.size w w' ∧ w.heap.size ≤ w'.heap.size ∧ Rd N w' b (p + 1)

theorem pick_any (N b p : Nat) (n : Int) (w : World) (hr : Rd N w b p) (hp : p < 1000000000) (hn : 1 ≤ n) (hn2 : n ≤ 1000000000) :
    Calls Tryd.prog 55 #[.pointer (some ⟨b, 0, none⟩), .int .i64 n] w (Picked N b p n w) := by
  obtain ⟨hNb, hbw, a, len, cap, q, c0, c1, fz, hq, hcode⟩ := hr
  obtain ⟨s1, s2, s3⟩ := rd_step hNb hbw c0 c1 fz hq hcode
  obtain ⟨hlen, hcode⟩ := hcode
  unfold maxLen at hlen
  have q0 : 0 ≤ (q : Int) := by omega
  have q1 : (q : Int) < 1000000000 := by omega
  have hn3 : ¬ n < 1 := by omega
  rcases hcode with rfl | ⟨ab, aoff, z, rfl, hab, hz⟩
  · go_enter Tryd.func55, Tryd.ntmps55
    go_wp2
    go_ret
    exact ⟨0, by omega, by omega, rfl, s1, s2, s3⟩
  · by_cases hlt : q < len
    · obtain ⟨cz, z0, z1⟩ := hz q hlt
      have hbb : ab ≠ b := by omega
      have hl0 : ((len : Int) == 0) = false := by simp; omega
      go_enter Tryd.func55, Tryd.ntmps55
      go_wp2
      go_ret
      exact ⟨z q % n, Int.emod_nonneg _ (by omega), Int.emod_lt_of_pos _ (by omega), rfl, s1, s2, s3⟩
    · by_cases hl0 : len = 0
      · subst hl0
        go_enter Tryd.func55, Tryd.ntmps55
        go_wp2
        go_ret
        exact ⟨0, by omega, by omega, rfl, s1, s2, s3⟩
      · have hl1 : ((len : Int) == 0) = false := by simp; omega
        have hl2 : (0 : Int) < (len : Int) := by omega
        obtain ⟨i1, hi1⟩ : ∃ i : Nat, (q : Int) % (len : Int) = (i : Int) := Int.eq_ofNat_of_zero_le (Int.emod_nonneg _ (by omega))
        obtain ⟨i2, hi2⟩ : ∃ i : Nat, ((q : Int) * 7 + 3) % (len : Int) = (i : Int) := Int.eq_ofNat_of_zero_le (Int.emod_nonneg _ (by omega))
        have l1 : (i1 : Int) < (len : Int) := by rw [← hi1]; exact Int.emod_lt_of_pos _ hl2
        have l2 : (i2 : Int) < (len : Int) := by rw [← hi2]; exact Int.emod_lt_of_pos _ hl2
        obtain ⟨cz1, z0, z1⟩ := hz i1 (by omega)
        obtain ⟨cz2, z2, z3⟩ := hz i2 (by omega)
        have hbb : ab ≠ b := by omega
        have d0 : 0 ≤ (q : Int) / (len : Int) := Int.ediv_nonneg (by omega) (by omega)
        have d1 : (q : Int) / (len : Int) < 1000000000 := Int.lt_of_le_of_lt (Int.ediv_le_self _ (by omega)) q1
        obtain ⟨m0, m1⟩ := mix_bd (z i1 * 131 + z i2 * 1117 + (q : Int) * 29 + (q : Int) / (len : Int) * 53) n (by omega) (by omega) hn
        clear hz
        go_enter Tryd.func55, Tryd.ntmps55
        go_wp2
        go_quiet (fail)
        go_wp2
        go_ret
        exact ⟨_, m0, m1, rfl, s1.drewN nq, s2, s3.below ⟨rfl, rfl, rfl, Nat.le_refl _, fun _ _ => rfl⟩ (Nat.lt_succ_self b)⟩
/-- An argument of bytes: what the walks are told of it. -/
def Bytes (W : World) (a : Option Addr) (len cap : Nat) : Prop := len ≤ cap ∧ cap ≤ maxLen ∧ CodeAt W.heap.size W a len
theorem bytes_of {H : Type} {enc : TypeId × Value → H} {W : World} {spare : Nat → Bool} {held : Bool} {t e : TypeId} {a : Option Addr} {len cap : Nat} {d : DataW H} {p : List MemPlace}
    (ht : Tryd.prog.underlying t = some (.slice e)) (he : Tryd.prog.underlying e = some (.int .u8)) (hc : Tryd.prog.cellsOf e = 1) (h : DataW.Trod enc Tryd.prog W 0 spare held t (.slice a len cap) d p) : Bytes W a len cap := by
  have hlt : ∀ x ∈ p, x.block < W.heap.size := by obtain ⟨m, hm⟩ := h; exact DataW.trod_lt m _ _ _ hm
  obtain ⟨fuel, hf⟩ := h
  rcases open_ints ht he hc hf with ⟨hcs, _⟩ | ⟨x, l, c, zs, hcs, _, hl, hm, hz, hx, hcell, hwz⟩
  · simp [Value.cells] at hcs
    obtain ⟨rfl, rfl, rfl⟩ := hcs
    exact ⟨Nat.le_refl _, Nat.zero_le _, Nat.zero_le _, .inl rfl⟩
  · simp [Value.cells] at hcs
    obtain ⟨rfl, rfl, rfl⟩ := hcs
    refine ⟨hl, hm, by omega, ?_⟩
    by_cases h0 : len = 0
    · exact .inl h0
    · refine .inr ?_
      obtain ⟨ab, aoff, spot⟩ := x
      have hzl : len ≤ zs.length := by rw [hz]; split <;> omega
      have hc0 := hcell 0 (by omega)
      have hspot : spot = none := by simpa [Addr.add] using World.cell?_spot hc0
      subst hspot
      refine ⟨ab, aoff, fun i => zs.getD i 0, rfl, ?_, fun i hi => ?_⟩
      · rcases Nat.lt_or_ge ab W.heap.size with h | h
        · exact h
        · have hn : W.heap[ab]? = none := by simp; omega
          simp [World.cell?, Addr.add, hn] at hc0
      · have h1 := hcell i (by omega)
        have hmem : zs.getD i 0 ∈ zs := by rw [List.getD_eq_getElem?_getD, List.getElem?_eq_getElem (show i < zs.length by omega)]; exact List.getElem_mem _
        have h2 := hwz _ hmem
        simp [Lit.wf, IntKind.min, IntKind.max, IntKind.signed, IntKind.bits] at h2
        have h3 : (⟨ab, aoff, none⟩ : Addr).add i = ⟨ab, aoff + i, none⟩ := by
          unfold Addr.add; split <;> simp_all
        rw [h3] at h1
        exact ⟨h1, by simpa using h2.1, by have := h2.2; simp at this ⊢; omega⟩
def Opened (N : Nat) (w : World) (e : Ending) (w' : World) : Prop := e = .returned (.pointer (some ⟨w.heap.size, 0, none⟩)) ∧ Below w.heap.size w w' ∧ w.heap.size < w'.heap.size ∧ Rd N w' w.heap.size 0
theorem opened_mk {N : Nat} {w : World} {a : Option Addr} {len cap : Nat} (hN : N ≤ w.heap.size) (hc : CodeAt N w a len) : Opened N w (.returned (.pointer (some ⟨w.heap.size, 0, none⟩))) (w.alloc (.cells #[.slice a len cap, .int .i64 0] 135)) := by
  have hb : Below w.heap.size w (w.alloc (.cells #[.slice a len cap, .int .i64 0] 135)) := (Below.refl _ _).alloc (Nat.le_refl _) _
  refine ⟨rfl, hb, by simp, hN, by simp, a, len, cap, 0, ?_, ?_, ?_, Nat.le_refl _, hc.below (hb.mono hN)⟩
  · simp [go_sem]
  · simp [go_sem]
  · simp [go_sem]
theorem l6Open_any (N : Nat) (a : Option Addr) (len cap : Nat) (w : World) (hN : N ≤ w.heap.size) (hl : len ≤ cap) (hm : cap ≤ maxLen) (hc : CodeAt N w a len) :
    Calls Tryd.prog 53 #[.slice a len cap] w (Opened N w) := by
  unfold maxLen at hm
  by_cases h : len ≤ 2000
  · go_enter Tryd.func53, Tryd.ntmps53
    go_wp2
    go_ret
    exact opened_mk hN hc
  · have hc2 : CodeAt N w a 2000 := by
      obtain ⟨h1, h2⟩ := hc
      refine ⟨by omega, ?_⟩
      rcases h2 with h2 | ⟨ab, aoff, z, rfl, h3, h4⟩
      · omega
      · exact .inr ⟨ab, aoff, z, rfl, h3, fun i hi => h4 i (by omega)⟩
    obtain ⟨ab, aoff, z, rfl, _⟩ := hc.2.resolve_left (by omega)
    have h1 : (2000 : Int) ≤ (cap : Int) := by omega
    go_enter Tryd.func53, Tryd.ntmps53
    go_wp2
    go_ret
    exact opened_mk hN hc2
end Go.Proofs.YtclhjgcapalniaaDoor
/-
  A row that lies in a block of its own. Conditions: none beyond the lemmas' own premises.
-/
namespace Go.Proofs.YtclhjgcapalniaaDoor
open Go.ChangeShapes Go.WideShapes Go.ChangeAt Go.RowKit Go.Joins

theorem below_set {B : Nat} {a w : World} (h : Below B a w) (k o : Nat) (hk : B ≤ k) (u : Value) : Below B a (w.setCell ⟨k, o, none⟩ u) := h.setCell hk u
/-- A row that lies in block k. -/
def RowAt (w : World) (k : Nat) (id d : Int) (t : ByteArray) : Prop :=
  (w.cell? ⟨k, 0, none⟩ = some (.int .i64 id) ∧ w.cell? ⟨k, 1, none⟩ = some (.int .i64 d) ∧ w.cell? ⟨k, 2, none⟩ = some (.string t)) ∧ w.frozen? ⟨k, 0, none⟩ = false ∧ w.frozen? ⟨k, 1, none⟩ = false ∧ w.frozen? ⟨k, 2, none⟩ = false
theorem RowAt.new (w : World) (id d : Int) (t : ByteArray) : RowAt (w.alloc (.cells #[.int .i64 id, .int .i64 d, .string t] 39)) w.heap.size id d t := by
  refine ⟨⟨?_, ?_, ?_⟩, ?_, ?_, ?_⟩ <;> simp [go_sem]
theorem RowAt.below {w w' : World} {k B : Nat} {id d : Int} {t : ByteArray} (h : RowAt w k id d t) (hb : Below B w w') (hk : k < B) : RowAt w' k id d t := by
  unfold RowAt
  rw [hb.cell hk, hb.cell hk, hb.cell hk, hb.frozen hk, hb.frozen hk, hb.frozen hk]; exact h
theorem RowAt.but {w w' : World} {k b B : Nat} {id d : Int} {t : ByteArray} (h : RowAt w k id d t) (hb : But b B w w') (hk : k < B) (hkb : k ≠ b) : RowAt w' k id d t := by
  unfold RowAt
  rw [hb.cell hk hkb, hb.cell hk hkb, hb.cell hk hkb, hb.frozen hk hkb, hb.frozen hk hkb, hb.frozen hk hkb]; exact h
end Go.Proofs.YtclhjgcapalniaaDoor
/-
  Regions that leave their order of evaluation open, whose operations only read and whose callees make memory and turn nothing old: one walk in the order of the text serves every order. Conditions: as each theorem says.
-/
namespace Go.Proofs.YtclhjgcapalniaaDoor
open Go.ChangeShapes Go.WideShapes Go.ChangeAt Go.RowKit Go.Joins

/-- A world that comes behind w: of what lay in w nothing has turned. -/
structure Later (w : World) where
  x : World
  h : Below w.heap.size w x
instance laterNonempty (w : World) : Nonempty (Later w) := ⟨⟨w, Below.refl _ _⟩⟩
theorem wp_region_later {P : Program} {id : Nat} {Q : Exit → Act → World → Prop} {a : Act} {w : World} {l : List Oper} (hm : P.follows .mixedOrders = true) (hB : Region.lexB .any l.toArray = true)
    (h : wpQuiet P l.toArray (fun w' => ∃ u : Later w, w' = u.x) (fun a' => ∀ w', (∃ u : Later w, w' = u.x) → Q .normal a' w') l a) : (Code.region id l.toArray true).wp P Q a w :=
  wp_region_quiet (C := fun w' => ∃ u : Later w, w' = u.x) hm hB ⟨⟨{ w with drawn := w.drawn + 1 }, ⟨rfl, rfl, rfl, Nat.le_refl _, fun _ _ => rfl⟩⟩, rfl⟩ (by simpa using h)
def RetBelow (v : Value) (w : World) (e : Ending) (w' : World) : Prop := e = .returned v ∧ Below w.heap.size w w'
theorem later_of {P : Program} {f : FuncId} {args : Array Value} {w : World} {u : Later w} {v : Value} (h : Calls P f args u.x (RetBelow v u.x)) :
    Calls P f args u.x fun e w'' => e = .returned v ∧ ∃ n : Later w, w'' = n.x :=
  h.mono fun _ w' ⟨he, hb⟩ => ⟨he, ⟨w', u.h.trans (hb.mono u.h.size)⟩, rfl⟩
theorem later_same {P : Program} {f : FuncId} {args : Array Value} {w : World} {u : Later w} {v : Value} (h : Calls P f args u.x fun e w' => e = .returned v ∧ u.x = w') :
    Calls P f args u.x fun e w'' => e = .returned v ∧ ∃ n : Later w, w'' = n.x :=
  h.mono fun _ _ ⟨he, hb⟩ => ⟨he, u, hb.symm⟩
theorem later_cell {w : World} {p : Addr} {v : Value} (h : w.cell? p = some v) (hp : p.block < w.heap.size) (u : Later w) : u.x.cell? p = some v := (u.h.cell hp).trans h
theorem below_drewN {B : Nat} {a w : World} (n : Nat) (h : Below B a w) : Below B a (w.drewN n) := ⟨h.os, h.tape, h.output, h.size, h.block⟩
end Go.Proofs.YtclhjgcapalniaaDoor
/-
  Rows in memory, and the contracts of the model's small functions on them. Conditions: the rows lie in memory as a slice of rows.
-/
namespace Go.Proofs.YtclhjgcapalniaaDoor
open Go.ChangeShapes Go.WideShapes Go.ChangeAt Go.RowKit Go.Joins

/-- The rows rs lie at address a, below block B. -/
def RowsAt (B : Nat) (w : World) (a : Option Addr) (rs : List RowD) : Prop :=
  rs.length = 0 ∨ ∃ b off, a = some ⟨b, off, none⟩ ∧ b < B ∧ ∀ i, i < rs.length →
    w.cell? ⟨b, off + i * 3, none⟩ = some (.int .i64 (rat rs i).id) ∧ w.cell? ⟨b, off + i * 3 + 1, none⟩ = some (.int .i64 (rat rs i).dep) ∧ w.cell? ⟨b, off + i * 3 + 2, none⟩ = some (.string (rat rs i).txt)
/-- Numbers that fit and texts that are not too long. -/
def Fit (rs : List RowD) : Prop := rs.length ≤ 1048576 ∧ ∀ i, i < rs.length → I64 (rat rs i).id ∧ I64 (rat rs i).dep ∧ (rat rs i).txt.size ≤ maxLen
theorem RowsAt.below {B : Nat} {w w' : World} {a : Option Addr} {rs : List RowD} (h : RowsAt B w a rs) (hb : Below B w w') : RowsAt B w' a rs := by
  rcases h with h | ⟨b, off, rfl, hB, hc⟩
  · exact .inl h
  · refine .inr ⟨b, off, rfl, hB, fun i hi => ?_⟩
    rw [hb.cell (p := ⟨b, _, none⟩) hB, hb.cell (p := ⟨b, _, none⟩) hB, hb.cell (p := ⟨b, _, none⟩) hB]
    exact hc i hi
theorem RowsAt.mono {B B' : Nat} {w : World} {a : Option Addr} {rs : List RowD} (h : RowsAt B w a rs) (hb : B ≤ B') : RowsAt B' w a rs := by
  rcases h with h | ⟨b, off, rfl, hB, hc⟩
  · exact .inl h
  · exact .inr ⟨b, off, rfl, by omega, hc⟩
theorem RowsAt.at_ {B : Nat} {w : World} {a : Option Addr} {rs : List RowD} (h : RowsAt B w a rs) {i : Nat} (hi : i < rs.length) :
    ∃ b off, a = some ⟨b, off, none⟩ ∧ b < B ∧ w.cell? ⟨b, off + i * 3, none⟩ = some (.int .i64 (rat rs i).id) ∧ w.cell? ⟨b, off + i * 3 + 1, none⟩ = some (.int .i64 (rat rs i).dep) ∧ w.cell? ⟨b, off + i * 3 + 2, none⟩ = some (.string (rat rs i).txt) := by
  rcases h with h | ⟨b, off, rfl, hB, hc⟩
  · omega
  · exact ⟨b, off, rfl, hB, hc i hi⟩

theorem atI_found {rs : List RowD} {id : Int} {k : Nat} (hk : k < rs.length) (h : ∀ j, j < k → (rat rs j).id ≠ id) (e : ((rat rs k).id == id) = true) : atI rs id = (k : Int) := by
  have := atN_mk hk (by simpa using e) h
  rw [atI_pos (by omega), this]
theorem atI_missed {rs : List RowD} {id : Int} {k : Nat} (hk : ¬ k < rs.length) (h : ∀ j, j < k → (rat rs j).id ≠ id) : atI rs id = -1 :=
  atI_neg (atN_none fun j hj => h j (by omega))
theorem next_missed {rs : List RowD} {id : Int} {k : Nat} (h : ∀ j, j < k → (rat rs j).id ≠ id) (e : ((rat rs k).id == id) = false) : ∀ j, j < k + 1 → (rat rs j).id ≠ id := fun j hj => by
  by_cases ej : j = k
  · subst ej; simpa using e
  · exact h j (by omega)
theorem l2At_any (B : Nat) (a : Option Addr) (cap : Nat) (rs : List RowD) (id : Int) (w : World) (h : RowsAt B w a rs) (hf : Fit rs) :
    Calls Tryd.prog 82 #[.slice a rs.length cap, .int .i64 id] w fun e w' => e = .returned (.int .i64 (atI rs id)) ∧ w = w' := by
  have hl := hf.1
  go_enter Tryd.func82, Tryd.ntmps82
  go_wp2
  go_loop [5] (fun i => ∃ k : Nat, k ≤ rs.length ∧ i = .int .i64 k ∧ Hid (∀ j, j < k → (rat rs j).id ≠ id)) (fun i => rs.length - (intOf i).toNat)
  case atStart => exact ⟨0, Nat.zero_le _, rfl, fun j hj => by omega⟩
  case round =>
    obtain ⟨k, hk, rfl, ha⟩ := hrel
    by_cases hlt : k < rs.length
    · obtain ⟨b, off, rfl, hB, c0, c1, c2⟩ := h.at_ hlt
      cases he : ((rat rs k).id == id)
      · have HN := Lib.hid (next_missed ha.out he)
        go_wp2
        go_round
        case rel => exact ⟨k + 1, by omega, by go_num, HN⟩
        case measure => simp [intOf]; omega
      · have HF := Lib.hid (atI_found hlt ha.out he)
        go_wp2
        go_ret
        exact ⟨by rw [HF.out]; rfl, rfl⟩
    · have HF := Lib.hid (atI_missed hlt ha.out)
      go_wp2
      go_ret
      exact ⟨by rw [HF.out]; rfl, rfl⟩
theorem lpAt_any (B : Nat) (a : Option Addr) (cap : Nat) (rs : List RowD) (id : Int) (w : World) (h : RowsAt B w a rs) (hf : Fit rs) :
    Calls Tryd.prog 18 #[.slice a rs.length cap, .int .i64 id] w fun e w' => e = .returned (.int .i64 (atI rs id)) ∧ w = w' := by
  have hl := hf.1
  go_enter Tryd.func18, Tryd.ntmps18
  go_wp2
  go_loop [5] (fun i => ∃ k : Nat, k ≤ rs.length ∧ i = .int .i64 k ∧ Hid (∀ j, j < k → (rat rs j).id ≠ id)) (fun i => rs.length - (intOf i).toNat)
  case atStart => exact ⟨0, Nat.zero_le _, rfl, fun j hj => by omega⟩
  case round =>
    obtain ⟨k, hk, rfl, ha⟩ := hrel
    by_cases hlt : k < rs.length
    · obtain ⟨b, off, rfl, hB, c0, c1, c2⟩ := h.at_ hlt
      cases he : ((rat rs k).id == id)
      · have HN := Lib.hid (next_missed ha.out he)
        go_wp2
        go_round
        case rel => exact ⟨k + 1, by omega, by go_num, HN⟩
        case measure => simp [intOf]; omega
      · have HF := Lib.hid (atI_found hlt ha.out he)
        go_wp2
        go_ret
        exact ⟨by rw [HF.out]; rfl, rfl⟩
    · have HF := Lib.hid (atI_missed hlt ha.out)
      go_wp2
      go_ret
      exact ⟨by rw [HF.out]; rfl, rfl⟩

end Go.Proofs.YtclhjgcapalniaaDoor
/-
  Contracts of the model's l2End. 
-/
namespace Go.Proofs.YtclhjgcapalniaaDoor
open Go.ChangeShapes Go.WideShapes Go.ChangeAt Go.RowKit Go.Joins
/-! ### l2End -/
theorem enR_mk {rs : List RowD} {i k : Nat} (h1 : i < k) (h2 : k ≤ rs.length) (h : ∀ j, i < j → j < k → rdep rs i < rdep rs j) (e : k < rs.length → ¬ rdep rs i < rdep rs k) : enR rs i = k :=
  en_uniq h1 h2 h (fun g => by have := e g; omega)
theorem l2End_any (B : Nat) (a : Option Addr) (cap i : Nat) (rs : List RowD) (w : World) (hB : B ≤ w.heap.size) (h : RowsAt B w a rs) (hf : Fit rs) (hi : i < rs.length) :
    Calls Tryd.prog 84 #[.slice a rs.length cap, .int .i64 i] w (RetBelow (.int .i64 (enR rs i)) w) := by
  have hl := hf.1
  go_enter Tryd.func84, Tryd.ntmps84
  go_wp2
  go_loopw [5] (fun e w' => ∃ k : Nat, i < k ∧ k ≤ rs.length ∧ e = .int .i64 k ∧ Hid (∀ j, i < j → j < k → rdep rs i < rdep rs j) ∧ Below w.heap.size w w') (fun e _ => rs.length - (intOf e).toNat)
  case atStart => exact ⟨i + 1, by omega, by omega, by go_num, fun j h1 h2 => by omega, Below.refl _ _⟩
  case round =>
    obtain ⟨k, hk1, hk2, rfl, ha, hb⟩ := hrel
    have hr := h.below (hb.mono hB)
    by_cases hlt : k < rs.length
    · obtain ⟨b, off, rfl, _, c0, c1, c2⟩ := hr.at_ hlt
      obtain ⟨b', off', e1, _, d0, d1, d2⟩ := hr.at_ hi
      cases e1
      have i1 : (k : Int) < (rs.length : Int) := by omega
      have i2 : (i : Int) < (rs.length : Int) := by omega
      by_cases hd : (rat rs i).dep < (rat rs k).dep
      · have HN : Hid (∀ j, i < j → j < k + 1 → rdep rs i < rdep rs j) := fun j h1 h2 => by
          by_cases e : j = k
          · subst e; exact hd
          · exact ha.out j h1 (by omega)
        go_wp2
        go_quiet (fail)
        go_wp2
        go_roundw
        case rel => exact ⟨k + 1, by omega, by omega, by go_num, HN, below_drewN _ hb⟩
        case measure => simp [intOf]; omega
      · have HF := Lib.hid (enR_mk hk1 hk2 ha.out (fun _ => hd))
        go_wp2
        go_quiet (fail)
        go_wp2
        go_ret
        exact ⟨by rw [HF.out]; rfl, below_drewN _ hb⟩
    · have HF := Lib.hid (enR_mk hk1 hk2 ha.out (fun g => absurd g hlt))
      have hd : decide ((k : Int) < (rs.length : Int)) = false := by simp; omega
      go_wp2
      go_quiet (fail)
      go_wp2
      go_ret
      exact ⟨by rw [HF.out]; rfl, below_drewN _ hb⟩
end Go.Proofs.YtclhjgcapalniaaDoor
/-
  Contracts of the model's l2Up, l2Ahead, l2Under. Conditions: the rows lie in memory as a slice of rows.
-/
namespace Go.Proofs.YtclhjgcapalniaaDoor
open Go.ChangeShapes Go.WideShapes Go.ChangeAt Go.RowKit Go.Joins

theorem upAt_hit {rs : List RowD} {i q : Nat} (hq : q < i) (h : ∀ j, q < j → j < i → rdep rs i ≤ rdep rs j) (e : rdep rs q < rdep rs i) : upAt rs i = (rat rs q).id := by
  unfold upAt; rw [lstBelow_mk _ i q hq (by simpa using e) (fun j a b => by simpa using h j a b)]
theorem upAt_none {rs : List RowD} {i : Nat} (h : ∀ j, j < i → rdep rs i ≤ rdep rs j) : upAt rs i = 0 := by
  unfold upAt; rw [lstBelow_mk_none _ i (fun j a => by simpa using h j a)]
theorem ahAt_hit {rs : List RowD} {i q : Nat} (hq : q < i) (h : ∀ j, q < j → j < i → rdep rs i < rdep rs j) (e : rdep rs q = rdep rs i) : ahAt rs i = (rat rs q).id := by
  unfold ahAt; rw [lstBelow_mk _ i q hq (by simp; omega) (fun j a b => by simpa using h j a b)]
  simp [e]
theorem ahAt_stop {rs : List RowD} {i q : Nat} (hq : q < i) (h : ∀ j, q < j → j < i → rdep rs i < rdep rs j) (e : rdep rs q < rdep rs i) : ahAt rs i = 0 := by
  unfold ahAt; rw [lstBelow_mk _ i q hq (by simp; omega) (fun j a b => by simpa using h j a b)]
  simp only
  rw [if_neg (by omega)]
theorem ahAt_none {rs : List RowD} {i : Nat} (h : ∀ j, j < i → rdep rs i < rdep rs j) : ahAt rs i = 0 := by
  unfold ahAt; rw [lstBelow_mk_none _ i (fun j a => by simpa using h j a)]
theorem l2Ahead_any (B : Nat) (a : Option Addr) (cap i : Nat) (rs : List RowD) (w : World) (hB : B ≤ w.heap.size) (h : RowsAt B w a rs) (hf : Fit rs) (hi : i < rs.length) :
    Calls Tryd.prog 83 #[.slice a rs.length cap, .int .i64 i] w (RetBelow (.int .i64 (ahAt rs i)) w) := by
  have hl := hf.1
  go_enter Tryd.func83, Tryd.ntmps83
  go_wp2
  go_loopw [5] (fun e w' => ∃ k : Nat, k ≤ i ∧ e = .int .i64 ((k : Int) - 1) ∧ Hid (∀ j, k ≤ j → j < i → rdep rs i < rdep rs j) ∧ Below w.heap.size w w') (fun e _ => (intOf e + 1).toNat)
  case atStart => exact ⟨i, Nat.le_refl _, rfl, fun j h1 h2 => by omega, Below.refl _ _⟩
  case round =>
    obtain ⟨k, hk, rfl, ha, hb⟩ := hrel
    have hr := h.below (hb.mono hB)
    cases k with
    | succ q =>
      have e1 : (((q + 1 : Nat) : Int) - 1) = (q : Int) := by omega
      rw [e1]
      clear e1
      have hq : q < rs.length := by omega
      obtain ⟨b, off, rfl, _, c0, c1, c2⟩ := hr.at_ hq
      obtain ⟨b', off', e2, _, d0, d1, d2⟩ := hr.at_ hi
      cases e2
      have i1 : (q : Int) < (rs.length : Int) := by omega
      have i2 : (i : Int) < (rs.length : Int) := by omega
      have i3 : (0 : Int) ≤ (q : Int) := by omega
      by_cases hd : (rat rs i).dep ≤ (rat rs q).dep
      · cases he : ((rat rs q).dep == (rat rs i).dep)
        · have HN : Hid (∀ j, q ≤ j → j < i → rdep rs i < rdep rs j) := fun j h1 h2 => by
            by_cases e : j = q
            · subst e
              have : (rat rs j).dep ≠ (rat rs i).dep := by simpa using he
              show (rat rs i).dep < (rat rs j).dep
              omega
            · exact ha.out j (by omega) h2
          go_wp2
          go_quiet (fail)
          go_wp2
          go_quiet (fail)
          go_wp2
          go_roundw
          case rel => exact ⟨q, by omega, rfl, HN, below_drewN _ hb⟩
          case measure => simp [intOf]
        · have HF := Lib.hid (ahAt_hit (show q < i by omega) ha.out (show (rat rs q).dep = (rat rs i).dep by simpa using he))
          go_wp2
          go_quiet (fail)
          go_wp2
          go_quiet (fail)
          go_wp2
          go_ret
          exact ⟨by rw [HF.out]; rfl, below_drewN _ hb⟩
      · have HF := Lib.hid (ahAt_stop (show q < i by omega) ha.out (by unfold rdep; omega))
        go_wp2
        go_quiet (fail)
        go_wp2
        go_ret
        exact ⟨by rw [HF.out]; rfl, below_drewN _ hb⟩
    | zero =>
      have HF := Lib.hid (ahAt_none fun j hj => ha.out j (Nat.zero_le _) hj)
      have e1 : (((0 : Nat) : Int) - 1) = (-1 : Int) := by omega
      rw [e1]
      clear e1
      have hd : decide ((0 : Int) ≤ -1) = false := by decide
      go_wp2
      go_quiet (fail)
      go_wp2
      go_ret
      exact ⟨by rw [HF.out]; rfl, below_drewN _ hb⟩

/-! ### l2Under -/
theorem undB_no1 {rs : List RowD} {id under : Int} (h : ¬ atN rs id < rs.length) : undB rs id under = false := by simp [undB, h]
theorem undB_no2 {rs : List RowD} {id under : Int} (h : ¬ atN rs under < rs.length) : undB rs id under = false := by simp [undB, h]
theorem undB_inB {rs : List RowD} {id under : Int} (h1 : atN rs id < rs.length) (h2 : atN rs under < rs.length) : undB rs id under = inB (atN rs id : Int) (atN rs under : Int) ((enR rs (atN rs under) : Int) - 1) := by
  unfold undB inB
  rw [Bool.eq_iff_iff]
  simp only [h1, h2, decide_true, Bool.true_and, Bool.and_eq_true, decide_eq_true_eq]
  omega
theorem l2Under_any (B : Nat) (a : Option Addr) (cap : Nat) (rs : List RowD) (id under : Int) (w : World) (hB : B ≤ w.heap.size) (h : RowsAt B w a rs) (hf : Fit rs) :
    Calls Tryd.prog 123 #[.slice a rs.length cap, .int .i64 id, .int .i64 under] w (RetBelow (.bool (undB rs id under)) w) := by
  have hl := hf.1
  by_cases h1 : atN rs id < rs.length
  · by_cases h2 : atN rs under < rs.length
    · have HU := Lib.hid (undB_inB h1 h2)
      have H1 := Lib.hid (atI_pos h1)
      have H2 := Lib.hid (atI_pos h2)
      have he : enR rs (atN rs under) ≤ rs.length := (en_spec (D := rdep rs) h2).2.1
      go_enter Tryd.func123, Tryd.ntmps123
      go_wp2_with fail
      refine (l2At_any B _ _ _ _ _ h hf).mono ?_
      rintro e w' ⟨rfl, rfl⟩
      rw [H1.out]
      go_wp2_with fail
      refine (l2At_any B _ _ _ _ _ h hf).mono ?_
      rintro e w' ⟨rfl, rfl⟩
      rw [H2.out]
      generalize atN rs id = p at *
      go_wp2_with fail
      refine (l2End_any B _ _ _ _ _ hB h hf h2).mono ?_
      rintro e w1 ⟨rfl, hb⟩
      generalize atN rs under = q at *
      go_wp2_with fail
      refine (l6In_any _ _ _ _).mono ?_
      rintro e w' ⟨rfl, rfl⟩
      rw [← HU.out]
      go_wp2
      go_ret
      exact ⟨rfl, hb⟩
    · have HU := Lib.hid (undB_no2 (id := id) h2)
      have H1 := Lib.hid (atI_pos h1)
      have H2 := Lib.hid (atI_neg (rs := rs) (id := under) (by have := atN_le rs under; omega))
      go_enter Tryd.func123, Tryd.ntmps123
      go_wp2_with fail
      refine (l2At_any B _ _ _ _ _ h hf).mono ?_
      rintro e w' ⟨rfl, rfl⟩
      rw [H1.out]
      go_wp2_with fail
      refine (l2At_any B _ _ _ _ _ h hf).mono ?_
      rintro e w' ⟨rfl, rfl⟩
      rw [H2.out]
      go_wp2
      go_ret
      exact ⟨by rw [HU.out]; rfl, Below.refl _ _⟩
  · have HU := Lib.hid (undB_no1 (under := under) h1)
    have H1 := Lib.hid (atI_neg (rs := rs) (id := id) (by have := atN_le rs id; omega))
    go_enter Tryd.func123, Tryd.ntmps123
    go_wp2_with fail
    refine (l2At_any B _ _ _ _ _ h hf).mono ?_
    rintro e w' ⟨rfl, rfl⟩
    rw [H1.out]
    go_wp2_with fail
    refine (l2At_any B _ _ _ _ _ h hf).mono ?_
    rintro e w' ⟨rfl, rfl⟩
    go_wp2
    go_ret
    exact ⟨by rw [HU.out]; rfl, Below.refl _ _⟩
end Go.Proofs.YtclhjgcapalniaaDoor
/-
  Contract of the model's l2Kids: it returns the children's numbers in memory of its own. Conditions: the rows lie in memory as a slice of rows.
-/
namespace Go.Proofs.YtclhjgcapalniaaDoor
open Go.ChangeShapes Go.WideShapes Go.ChangeAt Go.RowKit Go.Joins

/-- A slice of ints of the call's own, and nothing old turned. -/
def RetInts (xs : List Int) (w : World) (e : Ending) (w' : World) : Prop :=
  ∃ v, e = .returned v ∧ w'.ownsRow w.heap.size 3 1 v xs.length (xs.map (Value.int .i64)) ∧ Below w.heap.size w w'
theorem infoInt : (Tryd.prog.info? 3).map (fun i => (i.zero, i.size, i.bytes)) = some (some (.int .i64 0), 1, 8) := by kernel_rfl
theorem own_empty (w : World) (t : TypeId) : (w.alloc (.cells #[] t)).ownsRow w.heap.size t 1 (.slice (some ⟨w.heap.size, 0, none⟩) 0 0) 0 [] :=
  ⟨rfl, .inr ⟨w.heap.size, 0, #[], rfl, Nat.le_refl _, heap_alloc_new _ _, Nat.le_refl _, Nat.zero_le _, rfl, rfl⟩⟩
theorem own_below {w w' : World} {base : Nat} {e : TypeId} {size : Nat} {v : Value} {n : Nat} {xs : List Value} (h : w.ownsRow base e size v n xs) (hb : Below w.heap.size w w') : w'.ownsRow base e size v n xs := by
  obtain ⟨h1, h2⟩ := h
  refine ⟨h1, ?_⟩
  rcases h2 with h2 | ⟨g, cap, cur, hv, hg, hh, r⟩
  · exact .inl h2
  · have hlt : g < w.heap.size := by
      rcases Nat.lt_or_ge g w.heap.size with q | q
      · exact q
      · rw [Array.getElem?_eq_none q] at hh; cases hh
    exact .inr ⟨g, cap, cur, hv, hg, by rw [hb.block g hlt]; exact hh, r⟩
theorem own_drewN {w : World} {base : Nat} {e : TypeId} {size : Nat} {v : Value} {n : Nat} {xs : List Value} (k : Nat) (h : w.ownsRow base e size v n xs) : (w.drewN k).ownsRow base e size v n xs := h
theorem own_slice {w : World} {base : Nat} {e : TypeId} {size : Nat} {v : Value} {n : Nat} {xs : List Value} (h : w.ownsRow base e size v n xs) : ∃ a cap, v = .slice a n cap ∧ n ≤ cap := by
  rcases h.2 with ⟨rfl, rfl⟩ | ⟨g, cap, cur, hv, _, _, hc, _⟩
  · exact ⟨none, 0, rfl, Nat.le_refl _⟩
  · exact ⟨_, cap, hv, hc⟩
theorem own_block {w : World} {base : Nat} {e : TypeId} {size : Nat} {v : Value} {n : Nat} {xs : List Value} (h : w.ownsRow base e size v n xs) : ∀ k, v.ownBlock = some k → base ≤ k := by
  intro k hk
  rcases h.2 with ⟨rfl, rfl⟩ | ⟨g, cap, cur, rfl, hg, _⟩
  · cases hk
  · cases hk; exact hg
theorem kids_step_no {rs : List RowD} {i k : Nat} (hik : i + 1 ≤ k) (h : ((rat rs k).dep == (rat rs i).dep + 1) = false) : kidsOf rs i (i + 1) (k + 1 - (i + 1)) = kidsOf rs i (i + 1) (k - (i + 1)) := by
  rw [show k + 1 - (i + 1) = (k - (i + 1)) + 1 by omega, kidsOf_snoc, show i + 1 + (k - (i + 1)) = k by omega, if_neg (by unfold rdep; simpa using h), List.append_nil]
theorem kids_step_yes {rs : List RowD} {i k : Nat} (hik : i + 1 ≤ k) (h : ((rat rs k).dep == (rat rs i).dep + 1) = true) : kidsOf rs i (i + 1) (k + 1 - (i + 1)) = kidsOf rs i (i + 1) (k - (i + 1)) ++ [(rat rs k).id] := by
  rw [show k + 1 - (i + 1) = (k - (i + 1)) + 1 by omega, kidsOf_snoc, show i + 1 + (k - (i + 1)) = k by omega, if_pos (by unfold rdep; simpa using h)]
theorem kidsL_no {rs : List RowD} {id : Int} (h : ¬ atN rs id < rs.length) : kidsL rs id = [] := by unfold kidsL; rw [if_neg h]
theorem kidsL_yes {rs : List RowD} {id : Int} (h : atN rs id < rs.length) : kidsL rs id = kidsOf rs (atN rs id) (atN rs id + 1) (enR rs (atN rs id) - (atN rs id + 1)) := by unfold kidsL; rw [if_pos h]; rfl
theorem own_snoc {w : World} {base : Nat} {e : TypeId} {v : Value} {xs : List Int} {x : Int} (h : w.ownsRow base e 1 v (xs.length + 1) (xs.map (Value.int .i64) ++ [.int .i64 x])) : w.ownsRow base e 1 v (xs ++ [x]).length ((xs ++ [x]).map (Value.int .i64)) := by
  simpa using h
def SmallDep (rs : List RowD) : Prop := ∀ i, i < rs.length → -1000000 ≤ (rat rs i).dep ∧ (rat rs i).dep ≤ 1000000
set_option maxRecDepth 100000 in
set_option maxHeartbeats 1000000 in
theorem l2Kids_any (B : Nat) (a : Option Addr) (cap : Nat) (rs : List RowD) (id : Int) (w : World) (hB : B ≤ w.heap.size) (h : RowsAt B w a rs) (hf : Fit rs) (hs : SmallDep rs) :
    Calls Tryd.prog 41 #[.slice a rs.length cap, .int .i64 id] w (RetInts (kidsL rs id) w) := by
  have hl := hf.1
  obtain ⟨i0, hi, hz0, hz1, hz2⟩ := info_parts infoInt
  by_cases h1 : atN rs id < rs.length
  · have H1 := Lib.hid (atI_pos h1)
    have HK := Lib.hid (kidsL_yes h1)
    generalize atN rs id = i at *
    have he := (en_spec (D := rdep rs) (m := rs.length) h1).2.1
    have he' : i + 1 ≤ enR rs i := (en_spec (D := rdep rs) (m := rs.length) h1).1
    have he2 : enR rs i ≤ rs.length := he
    clear he
    go_enter Tryd.func41, Tryd.ntmps41
    go_wp2_with fail
    refine (l2At_any B _ _ _ _ _ (h.below ((Below.refl _ _).alloc hB _)) hf).mono ?_
    rintro e w' ⟨rfl, rfl⟩
    rw [H1.out]
    go_wp2_with fail
    go_loopw [5, 7] (fun v t wr => ∃ k : Nat, i + 1 ≤ k ∧ k ≤ enR rs i ∧ t = .int .i64 k ∧ wr.ownsRow w.heap.size 3 1 v (kidsOf rs i (i + 1) (k - (i + 1))).length ((kidsOf rs i (i + 1) (k - (i + 1))).map (Value.int .i64)) ∧ Below w.heap.size w wr) (fun _ t _ => enR rs i - (intOf t).toNat)
    case atStart => exact ⟨i + 1, by omega, by omega, by go_num, by rw [Nat.sub_self]; exact own_empty w _, (Below.refl _ _).alloc (Nat.le_refl _) _⟩
    case round =>
      obtain ⟨k, hk1, hk2, rfl, hown, hb⟩ := hrel
      have hr := h.below (hb.mono hB)
      obtain ⟨sa, sc, rfl, _⟩ := own_slice hown
      go_wp2_with fail
      refine (l2End_any B _ _ _ _ _ (Nat.le_trans hB hb.size) hr hf h1).mono ?_
      rintro e w1 ⟨rfl, hb1⟩
      have hown1 := own_below hown hb1
      have hb2 : Below w.heap.size w w1 := hb.trans (hb1.mono hb.size)
      have hr1 := h.below (hb2.mono hB)
      clear hown hr hb1 hb
      by_cases hlt : k < enR rs i
      · obtain ⟨b, off, rfl, _, c0, c1, c2⟩ := hr1.at_ (show k < rs.length by omega)
        obtain ⟨b', off', e2, _, d0, d1, d2⟩ := hr1.at_ h1
        cases e2
        have i1 : (k : Int) < (rs.length : Int) := by omega
        have i2 : (i : Int) < (rs.length : Int) := by omega
        obtain ⟨s1, s2⟩ := hs i h1
        have hkl := kidsOf_len rs i (k - (i + 1)) (i + 1)
        have hw1 : IntKind.i64.wrap ((rat rs i).dep + 1) = (rat rs i).dep + 1 := IntWalk.i64_in _ (by omega)
        cases hd : ((rat rs k).dep == (rat rs i).dep + 1)
        · have HN := Lib.hid (kids_step_no hk1 hd)
          go_wp2
          go_quiet (fail)
          go_wp2
          go_roundw
          case rel => exact ⟨k + 1, by omega, by omega, by go_num, by rw [HN.out]; exact hown1, below_drewN _ hb2⟩
          case measure => simp [intOf]; omega
        · have HN := Lib.hid (kids_step_yes hk1 hd)
          go_wp2
          go_quiet (fail)
          go_wp2_with (at_builtin; refine wpList_append_own _ rfl _ _ 34 rfl w.heap.size 3 i0 (.int .i64 0) 1 8 Tryd.underlying34 hi hz0 hz1 hz2 rfl (by decide) _ _ _ rfl (own_drewN nq (hown1.alloc _)) ⟨w1.heap.size, 0, none⟩ 1 1 [.int .i64 (rat rs k).id] rfl rfl ?c1 ?c2 ?c3 ?c4 ?c5 ?_)
          case c1 => exact cell_one_new w1 _ _
          case c2 => intro u hu; simp at hu; subst hu; rfl
          case c3 => unfold maxLen; omega
          case c4 => omega
          case c5 => have := hb2.size; simp; omega
          intro v' w2 hown2 hgrow _
          have hb3 : Below w.heap.size w w2 := (below_drewN nq (hb2.alloc hb2.size (.cells #[.int .i64 (rat rs k).id] 3))).grown hgrow (by have := hb2.size; simp; omega) (own_block hown1)
          obtain ⟨va, vc, rfl, _⟩ := own_slice hown2
          have hown3 := own_snoc hown2
          clear hown2 hgrow hown1
          go_wp2
          go_roundw
          case rel => exact ⟨k + 1, by omega, by omega, by go_num, by rw [HN.out]; exact hown3, hb3⟩
          case measure => simp [intOf]; omega
      · obtain rfl : k = enR rs i := by omega
        go_wp2
        go_ret
        exact ⟨_, rfl, by rw [HK.out]; exact hown1, hb2⟩
  · have H1 := Lib.hid (atI_neg (rs := rs) (id := id) (by have := atN_le rs id; omega))
    have HK := Lib.hid (kidsL_no h1)
    go_enter Tryd.func41, Tryd.ntmps41
    go_wp2_with fail
    refine (l2At_any B _ _ _ _ _ (h.below ((Below.refl _ _).alloc hB _)) hf).mono ?_
    rintro e w' ⟨rfl, rfl⟩
    rw [H1.out]
    go_wp2
    go_ret
    exact ⟨_, rfl, by rw [HK.out]; exact own_empty w _, (Below.refl _ _).alloc (Nat.le_refl _) _⟩
end Go.Proofs.YtclhjgcapalniaaDoor
/-
  Contract of the model's TreeOk. Conditions: the rows lie in memory as a slice of rows.
-/
namespace Go.Proofs.YtclhjgcapalniaaDoor
open Go.ChangeShapes Go.WideShapes Go.ChangeAt Go.RowKit Go.Joins

theorem step_bad1 {rs : List RowD} {k : Nat} (h : rowB (rat rs k).id (rat rs k).dep (rat rs k).txt = false) : stepB rs k = false := by simp [stepB, rokB, h]
theorem step_bad2 {rs : List RowD} {k : Nat} (h : riseB rs k = false) : stepB rs k = false := by simp [stepB, h]
theorem step_bad3 {rs : List RowD} {k : Nat} (h : rordB rs k = false) : stepB rs k = false := by simp [stepB, h]
theorem step_bad4 {rs : List RowD} {k j : Nat} (hj : j < k) (h : ((rat rs j).id == (rat rs k).id) = true) : stepB rs k = false := by
  have : freshTo rs k k = false := by
    rw [Bool.eq_false_iff]; intro g
    have := freshTo_iff.1 g j hj
    simp at h; exact this h
  simp [stepB, this]
theorem step_good {rs : List RowD} {k : Nat} (h1 : okTo rs k = true) (h2 : rowB (rat rs k).id (rat rs k).dep (rat rs k).txt = true) (h3 : riseB rs k = true) (h4 : rordB rs k = true) (h5 : freshTo rs k k = true) : okTo rs (k + 1) = true := by
  rw [okTo_succ, h1]; simp [stepB, rokB, h2, h3, h4, h5]
def badAt (rs : List RowD) (k : Nat) : Bool := !(rowB (rat rs k).id (rat rs k).dep (rat rs k).txt && riseB rs k)
theorem badAt_1 {rs : List RowD} {k : Nat} (h : rowB (rat rs k).id (rat rs k).dep (rat rs k).txt = false) : badAt rs k = true := by simp [badAt, h]
theorem badAt_0 {rs : List RowD} (h : rowB (rat rs 0).id (rat rs 0).dep (rat rs 0).txt = true) : badAt rs 0 = false := by simp [badAt, h, riseB]
theorem badAt_r {rs : List RowD} {k : Nat} (h : rowB (rat rs (k + 1)).id (rat rs (k + 1)).dep (rat rs (k + 1)).txt = true) : badAt rs (k + 1) = decide ((rat rs k).dep + 1 < (rat rs (k + 1)).dep) := by
  rw [Bool.eq_iff_iff]
  simp [badAt, h, riseB]
theorem step_rok {rs : List RowD} {k : Nat} (h : stepB rs k = true) : rokB (rat rs k) = true := by simp only [stepB, Bool.and_eq_true] at h; exact h.1.1.1
theorem badAt_not {rs : List RowD} {k : Nat} (h : badAt rs k = false) : rowB (rat rs k).id (rat rs k).dep (rat rs k).txt = true ∧ riseB rs k = true := by simpa [badAt] using h
theorem step_bad12 {rs : List RowD} {k : Nat} (h : badAt rs k = true) : stepB rs k = false := by
  cases h1 : rowB (rat rs k).id (rat rs k).dep (rat rs k).txt
  · exact step_bad1 h1
  · refine step_bad2 ?_
    simpa [badAt, h1] using h
theorem rord_not {rs : List RowD} {k : Nat} (h : rootB (rat rs k).id = false) : rordB rs k = true := by simp [rordB, h]
theorem nroots_not {rs : List RowD} {k : Nat} (h : rootB (rat rs k).id = false) : nroots rs (k + 1) = nroots rs k := by simp [nroots, h]
theorem nroots_yes {rs : List RowD} {k : Nat} (h : rootB (rat rs k).id = true) : nroots rs (k + 1) = nroots rs k + 1 := by simp [nroots, h]
theorem rord_yes {rs : List RowD} {k : Nat} (h : rootB (rat rs k).id = true) : rordB rs k = ((rat rs k).id == (nroots rs k : Int) + 1) := by simp [rordB, h]
theorem tree_no3 {rs : List RowD} (h : ((nroots rs rs.length : Int) == 3) = false) : treeB rs = false := by
  have : (nroots rs rs.length == 3) = false := by simp at h ⊢; omega
  simp [treeB, this]
theorem tree_yes3 {rs : List RowD} (h1 : okTo rs rs.length = true) (h : ((nroots rs rs.length : Int) == 3) = true) : treeB rs = ((rat rs 0).id == 1) := by
  have : (nroots rs rs.length == 3) = true := by simp at h ⊢; omega
  simp [treeB, this, h1]
theorem keep3 {w w1 : World} {b o o1 o2 : Nat} {v0 v1 v2 : Value} (hb : Below w.heap.size w w1) (hlt : b < w.heap.size) (c0 : w.cell? ⟨b, o, none⟩ = some v0) (c1 : w.cell? ⟨b, o1, none⟩ = some v1) (c2 : w.cell? ⟨b, o2, none⟩ = some v2) :
    w1.cell? ⟨b, o, none⟩ = some v0 ∧ w1.cell? ⟨b, o1, none⟩ = some v1 ∧ w1.cell? ⟨b, o2, none⟩ = some v2 :=
  ⟨(hb.cell (p := ⟨b, o, none⟩) hlt).trans c0, (hb.cell (p := ⟨b, o1, none⟩) hlt).trans c1, (hb.cell (p := ⟨b, o2, none⟩) hlt).trans c2⟩
set_option maxRecDepth 100000 in
set_option maxHeartbeats 1000000 in
theorem specTreeOk_any (B : Nat) (a : Option Addr) (cap : Nat) (rs : List RowD) (w : World) (hB : B ≤ w.heap.size) (h : RowsAt B w a rs) (hf : Fit rs) :
    Calls Tryd.prog 11 #[.slice a rs.length cap] w (RetBelow (.bool (treeB rs)) w) := by
  have hl := hf.1
  go_enter Tryd.func11, Tryd.ntmps11
  go_wp2_with fail
  go_loopw [3, 4] (fun r t wr => ∃ k : Nat, k ≤ rs.length ∧ t = .int .i64 k ∧ r = .int .i64 (nroots rs k) ∧ Hid (okTo rs k = true) ∧ Below w.heap.size w wr) (fun _ t _ => rs.length - (intOf t).toNat)
  case atStart => exact ⟨0, Nat.zero_le _, rfl, rfl, okTo_zero rs, Below.refl _ _⟩
  case round =>
    obtain ⟨k, hk, rfl, rfl, ho, hb⟩ := hrel
    have hr := h.below (hb.mono hB)
    have hn := nroots_le rs k
    by_cases hlt : k < rs.length
    · obtain ⟨b, off, rfl, hbB, c0, c1, c2⟩ := hr.at_ hlt
      have i1 : (k : Int) < (rs.length : Int) := by omega
      obtain ⟨f1, f2, f3⟩ := hf.2 k hlt
      have hbw : b < wr.heap.size := by have := hb.size; omega
      have CR : ∀ u : World, Calls Tryd.prog 44 #[.agg #[.int .i64 (rat rs k).id, .int .i64 (rat rs k).dep, .string (rat rs k).txt]] u (RetBelow (.bool (rowB (rat rs k).id (rat rs k).dep (rat rs k).txt)) u) := fun u => specRowOk_any (rat rs k).id (rat rs k).dep (rat rs k).txt u f1 f3
      have HC := Lib.hid CR
      clear CR
      go_upto_region 5 with fail
      go_cut [36] (fun s wx => s = .bool (badAt rs k) ∧ Below w.heap.size w wx)
      case first =>
        have L0 := later_cell c0 hbw
        have L1 := later_cell c1 hbw
        have L2 := later_cell c2 hbw
        cases hrow : rowB (rat rs k).id (rat rs k).dep (rat rs k).txt
        · have HF := Lib.hid (badAt_1 hrow)
          rw [hrow] at HC
          refine wp_region_later (by kernel_rfl) (by kernel_rfl) ?_
          repeat (go_big_quiet_step ((go_at_call 44; exact later_of (HC.out _))))
          refine wpQuiet_nil ?_
          rintro wn ⟨⟨_, hbn⟩, rfl⟩
          go_wp2_with fail
          go_meet
          exact ⟨by rw [HF.out], hb.trans (hbn.mono hb.size)⟩
        · rw [hrow] at HC
          by_cases hk0 : k = 0
          · have HF : Hid (badAt rs k = false) := by subst hk0; exact badAt_0 hrow
            have hd : decide (0 < k) = false := by simp; omega
            clear hk0
            refine wp_region_later (by kernel_rfl) (by kernel_rfl) ?_
            repeat (go_big_quiet_step ((go_at_call 44; exact later_of (HC.out _))))
            refine wpQuiet_nil ?_
            rintro wn ⟨⟨_, hbn⟩, rfl⟩
            go_wp2_with fail
            go_meet
            exact ⟨by rw [HF.out], hb.trans (hbn.mono hb.size)⟩
          · have HF : Hid (badAt rs k = decide ((rat rs (k - 1)).dep + 1 < (rat rs k).dep)) := by
              obtain ⟨q, rfl⟩ : ∃ q, k = q + 1 := ⟨k - 1, by omega⟩
              exact badAt_r hrow
            obtain ⟨b', off', e2, _, d0, d1, d2⟩ := hr.at_ (show k - 1 < rs.length by omega)
            cases e2
            have i3 : 0 < k := by omega
            have i4 : (0 : Int) ≤ (k : Int) - 1 := by omega
            have i5 : (k : Int) - 1 < (rs.length : Int) := by omega
            have M1 := later_cell d1 hbw
            have g5 : 0 ≤ (rat rs (k - 1)).dep ∧ (rat rs (k - 1)).dep ≤ 18 := rok_dep (step_rok (okTo_at ho.out (show k - 1 < k by omega)))
            have g6 := g5.1
            have g7 := g5.2
            clear g5
            have g8 : IntKind.i64.wrap ((rat rs (k - 1)).dep + 1) = (rat rs (k - 1)).dep + 1 := IntWalk.i64_in _ (by omega)
            clear hk0
            refine wp_region_later (by kernel_rfl) (by kernel_rfl) ?_
            repeat (go_big_quiet_step ((go_at_call 44; exact later_of (HC.out _))))
            refine wpQuiet_nil ?_
            rintro wn ⟨⟨_, hbn⟩, rfl⟩
            go_wp2_with fail
            go_meet
            exact ⟨by rw [HF.out], hb.trans (hbn.mono hb.size)⟩
      case rest =>
        obtain ⟨rfl, hbx⟩ := hcut
        have hrx := h.below (hbx.mono hB)
        obtain ⟨b', off', e2, _, d0, d1, d2⟩ := hrx.at_ hlt
        cases e2
        cases hbad : badAt rs k
        · obtain ⟨q1, q2⟩ := badAt_not hbad
          cases hroot : rootB (rat rs k).id
          · have HR := Lib.hid (rord_not hroot)
            have HN := Lib.hid (nroots_not hroot)
            go_wp2_with fail
            refine (l1Root_any _ _).mono ?_
            rintro e w' ⟨rfl, rfl⟩
            rw [hroot]
            go_wp2_with fail
            go_loopw [5] (fun t wr => ∃ j : Nat, j ≤ k ∧ t = .int .i64 j ∧ Hid (freshTo rs k j = true) ∧ Below w.heap.size w wr) (fun t _ => k - (intOf t).toNat)
            case atStart => exact ⟨0, Nat.zero_le _, rfl, rfl, hbx⟩
            case round =>
              obtain ⟨j, hj, rfl, hfr, hbj⟩ := hrel
              have hrj := h.below (hbj.mono hB)
              by_cases hjk : j < k
              · obtain ⟨b', off', e2, _, p0, p1, p2⟩ := hrj.at_ (show j < rs.length by omega)
                cases e2
                obtain ⟨b', off', e2, _, r0, r1, r2⟩ := hrj.at_ hlt
                cases e2
                have j1 : (j : Int) < (rs.length : Int) := by omega
                cases he : ((rat rs j).id == (rat rs k).id)
                · have HS : Hid (freshTo rs k (j + 1) = true) := by
                    show freshTo rs k (j + 1) = true
                    rw [freshTo_succ, hfr.out, he]; rfl
                  go_wp2
                  go_quiet (fail)
                  go_wp2
                  go_roundw
                  case rel => exact ⟨j + 1, by omega, by go_num, HS, below_drewN _ hbj⟩
                  case measure => simp [intOf]; omega
                · have HF := Lib.hid (treeB_bad hlt (step_bad4 hjk he))
                  go_wp2
                  go_quiet (fail)
                  go_wp2
                  go_ret
                  exact ⟨by rw [HF.out]; rfl, below_drewN _ hbj⟩
              · obtain rfl : j = k := by omega
                have HS := Lib.hid (step_good ho.out q1 q2 HR.out hfr.out)
                go_wp2
                go_roundw
                case rel => exact ⟨j + 1, by omega, by go_num, by rw [HN.out], HS, hbj⟩
                case measure => simp [intOf]; omega
          · have HN := Lib.hid (nroots_yes hroot)
            have HO := Lib.hid (rord_yes hroot)
            go_wp2_with fail
            refine (l1Root_any _ _).mono ?_
            rintro e w' ⟨rfl, rfl⟩
            rw [hroot]
            cases hid : ((rat rs k).id == (nroots rs k : Int) + 1)
            · have hid2 : ((rat rs k).id != (nroots rs k : Int) + 1) = true := by simp [bne, hid]
              have HF := Lib.hid (treeB_bad hlt (step_bad3 (HO.out.trans hid)))
              go_wp2
              go_ret
              exact ⟨by rw [HF.out]; rfl, hbx⟩
            have hid2 : ((rat rs k).id != (nroots rs k : Int) + 1) = false := by simp [bne, hid]
            have HR := Lib.hid (HO.out.trans hid)
            go_wp2_with fail
            go_loopw [5] (fun t wr => ∃ j : Nat, j ≤ k ∧ t = .int .i64 j ∧ Hid (freshTo rs k j = true) ∧ Below w.heap.size w wr) (fun t _ => k - (intOf t).toNat)
            case atStart => exact ⟨0, Nat.zero_le _, rfl, rfl, hbx⟩
            case round =>
              obtain ⟨j, hj, rfl, hfr, hbj⟩ := hrel
              have hrj := h.below (hbj.mono hB)
              by_cases hjk : j < k
              · obtain ⟨b', off', e2, _, p0, p1, p2⟩ := hrj.at_ (show j < rs.length by omega)
                cases e2
                obtain ⟨b', off', e2, _, r0, r1, r2⟩ := hrj.at_ hlt
                cases e2
                have j1 : (j : Int) < (rs.length : Int) := by omega
                cases he : ((rat rs j).id == (rat rs k).id)
                · have HS : Hid (freshTo rs k (j + 1) = true) := by
                    show freshTo rs k (j + 1) = true
                    rw [freshTo_succ, hfr.out, he]; rfl
                  go_wp2
                  go_quiet (fail)
                  go_wp2
                  go_roundw
                  case rel => exact ⟨j + 1, by omega, by go_num, HS, below_drewN _ hbj⟩
                  case measure => simp [intOf]; omega
                · have HF := Lib.hid (treeB_bad hlt (step_bad4 hjk he))
                  go_wp2
                  go_quiet (fail)
                  go_wp2
                  go_ret
                  exact ⟨by rw [HF.out]; rfl, below_drewN _ hbj⟩
              · obtain rfl : j = k := by omega
                have HS := Lib.hid (step_good ho.out q1 q2 HR.out hfr.out)
                go_wp2
                go_roundw
                case rel => exact ⟨j + 1, by omega, by go_num, by rw [HN.out]; go_num, HS, hbj⟩
                case measure => simp [intOf]; omega
        · have HF := Lib.hid (treeB_bad hlt (step_bad12 hbad))
          go_wp2
          go_ret
          exact ⟨by rw [HF.out]; rfl, hbx⟩
    · obtain rfl : k = rs.length := by omega
      cases h3 : ((nroots rs rs.length : Int) == 3)
      · have HF := Lib.hid (tree_no3 h3)
        go_wp2
        go_ret
        exact ⟨by rw [HF.out]; rfl, hb⟩
      · have HF := Lib.hid (tree_yes3 ho.out h3)
        have h4 : 0 < rs.length := by have : (nroots rs rs.length : Int) = 3 := by simpa using h3
                                      omega
        obtain ⟨b, off, rfl, _, c0, c1, c2⟩ := hr.at_ h4
        have i0 : (0 : Int) < (rs.length : Int) := by omega
        rw [Nat.zero_mul, Nat.add_zero] at c0
        go_wp2
        go_ret
        exact ⟨by rw [HF.out]; rfl, hb⟩
end Go.Proofs.YtclhjgcapalniaaDoor
/-
  Contracts of the model's TreeUp, TreeKids, TreeUnder, TreeAhead. Conditions: the rows lie in memory as a slice of rows.
-/
namespace Go.Proofs.YtclhjgcapalniaaDoor
open Go.ChangeShapes Go.WideShapes Go.ChangeAt Go.RowKit Go.Joins

def hasB (rs : List RowD) (id : Int) : Bool := treeB rs && decide (atN rs id < rs.length)
def upI (rs : List RowD) (id : Int) : Int := if hasB rs id then upAt rs (atN rs id) else 0
def ahB (rs : List RowD) (id : Int) : Bool := hasB rs id && !rootB id
def ahI (rs : List RowD) (id : Int) : Int := if ahB rs id then ahAt rs (atN rs id) else 0
def kidsT (rs : List RowD) (id : Int) : List Int := if treeB rs then kidsL rs id else []
def undT (rs : List RowD) (id under : Int) : Bool := treeB rs && undB rs id under
theorem treeP_small {rs : List RowD} (h : treeB rs = true) : SmallDep rs := fun i hi => by have := rok_dep ((treeP_of h).rok i hi); omega
theorem hasB_not {rs : List RowD} {id : Int} (h : treeB rs = false) : hasB rs id = false ∧ upI rs id = 0 ∧ ahB rs id = false ∧ ahI rs id = 0 := by
  have h1 : hasB rs id = false := by simp [hasB, h]
  exact ⟨h1, by simp [upI, h1], by simp [ahB, h1], by simp [ahI, ahB, h1]⟩
theorem hasB_miss {rs : List RowD} {id : Int} (h : ¬ atN rs id < rs.length) : hasB rs id = false ∧ upI rs id = 0 ∧ ahB rs id = false ∧ ahI rs id = 0 := by
  have h1 : hasB rs id = false := by simp [hasB, h]
  exact ⟨h1, by simp [upI, h1], by simp [ahB, h1], by simp [ahI, ahB, h1]⟩
theorem hasB_yes {rs : List RowD} {id : Int} (h : treeB rs = true) (h1 : atN rs id < rs.length) : hasB rs id = true ∧ upI rs id = upAt rs (atN rs id) := by
  have h2 : hasB rs id = true := by simp [hasB, h, h1]
  exact ⟨h2, by simp [upI, h2]⟩
theorem ahB_root {rs : List RowD} {id : Int} (h : rootB id = true) : ahB rs id = false ∧ ahI rs id = 0 := by
  have h1 : ahB rs id = false := by simp [ahB, h]
  exact ⟨h1, by simp [ahI, h1]⟩
theorem ahB_yes {rs : List RowD} {id : Int} (h : hasB rs id = true) (h1 : rootB id = false) : ahB rs id = true ∧ ahI rs id = ahAt rs (atN rs id) := by
  have h2 : ahB rs id = true := by simp [ahB, h, h1]
  exact ⟨h2, by simp [ahI, h2]⟩
theorem atI_cases (rs : List RowD) (id : Int) : (atN rs id < rs.length ∧ atI rs id = (atN rs id : Int)) ∨ (¬ atN rs id < rs.length ∧ atI rs id = -1) := by
  by_cases h : atN rs id < rs.length
  · exact .inl ⟨h, atI_pos h⟩
  · exact .inr ⟨h, atI_neg (by have := atN_le rs id; omega)⟩

theorem specTreeAhead_any (B : Nat) (a : Option Addr) (cap : Nat) (rs : List RowD) (id : Int) (w : World) (hB : B ≤ w.heap.size) (h : RowsAt B w a rs) (hf : Fit rs) :
    Calls Tryd.prog 40 #[.slice a rs.length cap, .int .i64 id] w (RetBelow (.tuple #[.int .i64 (ahI rs id), .bool (ahB rs id)]) w) := by
  have hl := hf.1
  rcases atI_cases rs id with ⟨h1, h2⟩ | ⟨h1, h2⟩
  · have HA := Lib.hid h2
    clear h2
    cases ht : treeB rs
    · obtain ⟨_, _, e1, e2⟩ := hasB_not (id := id) ht
      rw [e1, e2]; clear e1 e2
      go_enter Tryd.func40, Tryd.ntmps40
      go_wp2_with fail
      refine (l2At_any B _ _ _ _ _ h hf).mono ?_
      rintro e w' ⟨rfl, rfl⟩
      rw [HA.out]
      go_wp2_with fail
      refine (specTreeOk_any B _ _ _ _ hB h hf).mono ?_
      rintro e w1 ⟨rfl, hb⟩
      go_wp2
      go_ret2
      exact ⟨rfl, hb⟩
    · obtain ⟨e1, _⟩ := hasB_yes ht h1
      have i0 : ¬ ((atN rs id : Nat) : Int) < 0 := by omega
      cases hr : rootB id
      · obtain ⟨e3, e4⟩ := ahB_yes e1 hr
        rw [e3, e4]; clear e1 e3 e4
        generalize atN rs id = i at *
        go_enter Tryd.func40, Tryd.ntmps40
        go_wp2_with fail
        refine (l2At_any B _ _ _ _ _ h hf).mono ?_
        rintro e w' ⟨rfl, rfl⟩
        rw [HA.out]
        go_wp2_with fail
        refine (specTreeOk_any B _ _ _ _ hB h hf).mono ?_
        rintro e w1 ⟨rfl, hb⟩
        go_wp2_with fail
        refine (l1Root_any _ _).mono ?_
        rintro e w' ⟨rfl, rfl⟩
        go_wp2_with fail
        refine (l2Ahead_any B _ _ _ _ _ (Nat.le_trans hB hb.size) (h.below (hb.mono hB)) hf h1).mono ?_
        rintro e w2 ⟨rfl, hb2⟩
        go_wp2
        go_ret2
        exact ⟨rfl, hb.trans (hb2.mono hb.size)⟩
      · obtain ⟨e3, e4⟩ := ahB_root (rs := rs) hr
        rw [e3, e4]; clear e1 e3 e4
        generalize atN rs id = i at *
        go_enter Tryd.func40, Tryd.ntmps40
        go_wp2_with fail
        refine (l2At_any B _ _ _ _ _ h hf).mono ?_
        rintro e w' ⟨rfl, rfl⟩
        rw [HA.out]
        go_wp2_with fail
        refine (specTreeOk_any B _ _ _ _ hB h hf).mono ?_
        rintro e w1 ⟨rfl, hb⟩
        go_wp2_with fail
        refine (l1Root_any _ _).mono ?_
        rintro e w' ⟨rfl, rfl⟩
        go_wp2
        go_ret2
        exact ⟨rfl, hb⟩
  · have HA := Lib.hid h2
    clear h2
    obtain ⟨_, _, e1, e2⟩ := hasB_miss h1
    rw [e1, e2]; clear e1 e2
    cases ht : treeB rs
    · go_enter Tryd.func40, Tryd.ntmps40
      go_wp2_with fail
      refine (l2At_any B _ _ _ _ _ h hf).mono ?_
      rintro e w' ⟨rfl, rfl⟩
      rw [HA.out]
      go_wp2_with fail
      refine (specTreeOk_any B _ _ _ _ hB h hf).mono ?_
      rintro e w1 ⟨rfl, hb⟩
      go_wp2
      go_ret2
      exact ⟨rfl, hb⟩
    · go_enter Tryd.func40, Tryd.ntmps40
      go_wp2_with fail
      refine (l2At_any B _ _ _ _ _ h hf).mono ?_
      rintro e w' ⟨rfl, rfl⟩
      rw [HA.out]
      go_wp2_with fail
      refine (specTreeOk_any B _ _ _ _ hB h hf).mono ?_
      rintro e w1 ⟨rfl, hb⟩
      go_wp2
      go_ret2
      exact ⟨rfl, hb⟩

theorem own_mono {w : World} {base base' : Nat} {e : TypeId} {size : Nat} {v : Value} {n : Nat} {xs : List Value} (h : w.ownsRow base e size v n xs) (hb : base' ≤ base) : w.ownsRow base' e size v n xs := by
  obtain ⟨h1, h2⟩ := h
  refine ⟨h1, ?_⟩
  rcases h2 with h2 | ⟨g, cap, cur, hv, hg, hh⟩
  · exact .inl h2
  · exact .inr ⟨g, cap, cur, hv, by omega, hh⟩
end Go.Proofs.YtclhjgcapalniaaDoor
/-
  Plain mathematics of changes of outlines (lists of rows), and rows as cells. Nothing of the program is run here. Conditions: none beyond the lemmas' own premises.
-/
namespace Go.Proofs.YtclhjgcapalniaaDoor
open Go.ChangeShapes Go.WideShapes Go.ChangeAt Go.RowKit Go.Joins

structure OpD where
  kind : Int
  id : Int
  up : Int
  at_ : Int
  txt : ByteArray
def thereB (rs : List RowD) (id : Int) : Bool := decide (atN rs id < rs.length)
def noWhereB (rs : List RowD) (o : OpD) : Bool := (o.kind == 2) || (thereB rs o.id != (o.kind == 3)) || (thereB rs o.id && undB rs o.up o.id)
def atOfL (ks : List Int) (o : OpD) : Int := if ks.any (fun x => (x == o.at_) && (o.at_ != o.id)) then o.at_ else 0
def whereU (rs : List RowD) (o : OpD) : Int := if noWhereB rs o then 0 else if thereB rs o.up then o.up else 3
def whereA (rs : List RowD) (o : OpD) : Int := if noWhereB rs o then 0 else if thereB rs o.up then atOfL (kidsL rs o.up) o else 0
def shiftR (d : Int) (r : RowD) : RowD := ⟨r.id, r.dep + d, r.txt⟩
def placeN (rs : List RowD) (up at' : Int) : Nat := if 0 < at' then enR rs (atN rs at') else atN rs up + 1
def deepI' (rs rows : List RowD) (up : Int) : Int := rdep rs (atN rs up) + 1 - rdep rows 0
def putR (rs rows : List RowD) (up at' : Int) : List RowD := rs.take (placeN rs up at') ++ rows.map (shiftR (deepI' rs rows up)) ++ rs.drop (placeN rs up at')
def setTxt (rs : List RowD) (k : Nat) (t : ByteArray) : List RowD := rs.modify k (fun r => ⟨r.id, r.dep, t⟩)
def doR (rs : List RowD) (o : OpD) : List RowD :=
  if o.kind = 2 then (if thereB rs o.id then setTxt rs (atN rs o.id) o.txt else rs)
  else if noWhereB rs o then rs
  else if o.kind = 1 then putR rs [⟨o.id, 0, o.txt⟩] (whereU rs o) (whereA rs o)
  else putR (rs.take (atN rs o.id) ++ rs.drop (enR rs (atN rs o.id))) ((rs.drop (atN rs o.id)).take (enR rs (atN rs o.id) - atN rs o.id)) (whereU rs o) (whereA rs o)

/-! ### rows as cells -/
def cellsL (rs : List RowD) : List Value := rs.flatMap fun r => [.int .i64 r.id, .int .i64 r.dep, .string r.txt]
theorem cellsL_len (rs : List RowD) : (cellsL rs).length = rs.length * 3 := by
  induction rs with
  | nil => rfl
  | cons r rs ih => simp [cellsL] at ih ⊢; omega
theorem cellsL_append (a b : List RowD) : cellsL (a ++ b) = cellsL a ++ cellsL b := by simp [cellsL]
theorem cellsL_one (r : RowD) : cellsL [r] = [.int .i64 r.id, .int .i64 r.dep, .string r.txt] := rfl
theorem cellsL_plain (rs : List RowD) : ∀ u ∈ cellsL rs, u.oneCell' = true := by
  intro u hu
  simp only [cellsL, List.mem_flatMap, List.mem_cons, List.not_mem_nil, or_false] at hu
  obtain ⟨r, _, rfl | rfl | rfl⟩ := hu <;> rfl
theorem rat_cons_zero (r : RowD) (rs : List RowD) : rat (r :: rs) 0 = r := rfl
theorem rat_cons_succ (r : RowD) (rs : List RowD) (i : Nat) : rat (r :: rs) (i + 1) = rat rs i := by simp [rat]
theorem cellsL_at : ∀ (rs : List RowD) (i : Nat), i < rs.length → (cellsL rs)[i * 3]? = some (.int .i64 (rat rs i).id) ∧ (cellsL rs)[i * 3 + 1]? = some (.int .i64 (rat rs i).dep) ∧ (cellsL rs)[i * 3 + 2]? = some (.string (rat rs i).txt)
  | [], i, h => by simp at h
  | r :: rs, 0, _ => ⟨rfl, rfl, rfl⟩
  | r :: rs, i + 1, h => by
    have := cellsL_at rs i (by simpa using h)
    rw [rat_cons_succ]
    have e : cellsL (r :: rs) = [.int .i64 r.id, .int .i64 r.dep, .string r.txt] ++ cellsL rs := rfl
    rw [e]
    refine ⟨?_, ?_, ?_⟩
    · rw [List.getElem?_append_right (by simp; omega)]
      simpa [show (i + 1) * 3 - 3 = i * 3 by omega] using this.1
    · rw [List.getElem?_append_right (by simp; omega)]
      simpa [show (i + 1) * 3 + 1 - 3 = i * 3 + 1 by omega] using this.2.1
    · rw [List.getElem?_append_right (by simp; omega)]
      simpa [show (i + 1) * 3 + 2 - 3 = i * 3 + 2 by omega] using this.2.2
/-- A slice of rows in a row of the call's own. -/
theorem rowsAt_own {w : World} {base : Nat} {a : Option Addr} {cap : Nat} {rs : List RowD} (h : w.ownsRow base 39 3 (.slice a rs.length cap) rs.length (cellsL rs)) : RowsAt w.heap.size w a rs := by
  rcases h.2 with ⟨_, h0⟩ | ⟨g, cap', cur, hv, hg, hh, h1, h2, h3, h4⟩
  · exact .inl h0
  · cases hv
    refine .inr ⟨g, 0, rfl, (Array.getElem?_eq_some_iff.1 hh).1, fun i hi => ?_⟩
    have hc : ∀ j, j < rs.length * 3 → w.cell? ⟨g, j, none⟩ = (cellsL rs)[j]? := fun j hj => by
      unfold World.cell?
      simp only [hh]
      have : (cur.toList.take (rs.length * 3))[j]? = (cellsL rs)[j]? := by rw [h4]
      rw [List.getElem?_take_of_lt hj] at this
      simpa using this
    obtain ⟨q0, q1, q2⟩ := cellsL_at rs i hi
    rw [Nat.zero_add, hc _ (by omega), hc _ (by omega), hc _ (by omega)]
    exact ⟨q0, q1, q2⟩
/-- The cells that an append copies: a stretch of rows that lie in memory. -/
theorem rat_drop_take (rs : List RowD) (s n i : Nat) (hi : i < n) : rat ((rs.drop s).take n) i = rat rs (s + i) := by
  unfold rat
  rw [List.getD_eq_getElem?_getD, List.getD_eq_getElem?_getD, List.getElem?_take_of_lt hi, List.getElem?_drop]
theorem RowsAt.news {B : Nat} {w : World} {b off : Nat} {rs : List RowD} (h : RowsAt B w (some ⟨b, off, none⟩) rs) {s n : Nat} (hs : s + n ≤ rs.length) :
    ∀ j u, (cellsL ((rs.drop s).take n))[j]? = some u → w.cell? ((⟨b, off + s * 3, none⟩ : Addr).add j) = some u := by
  intro j u hu
  have hlen : ((rs.drop s).take n).length = n := by simp; omega
  have hj : j < n * 3 := by
    have := (List.getElem?_eq_some_iff.1 hu).1
    rw [cellsL_len, hlen] at this; exact this
  have hi : j / 3 < n := by omega
  rcases h with h | ⟨b', off', e, _, hc⟩
  · omega
  · cases e
    obtain ⟨c0, c1, c2⟩ := hc (s + j / 3) (by omega)
    obtain ⟨q0, q1, q2⟩ := cellsL_at ((rs.drop s).take n) (j / 3) (by omega)
    rw [rat_drop_take rs s n (j / 3) hi] at q0 q1 q2
    have ha : ∀ x, (⟨b, off + s * 3, none⟩ : Addr).add x = ⟨b, off + s * 3 + x, none⟩ := fun x => by unfold Addr.add; split <;> simp_all
    rw [ha]
    rcases (by omega : j = j / 3 * 3 ∨ j = j / 3 * 3 + 1 ∨ j = j / 3 * 3 + 2) with e | e | e
    · rw [e] at hu ⊢
      rw [q0] at hu; cases hu
      rw [show off + s * 3 + j / 3 * 3 = off + (s + j / 3) * 3 by omega]; exact c0
    · rw [e] at hu ⊢
      rw [q1] at hu; cases hu
      rw [show off + s * 3 + (j / 3 * 3 + 1) = off + (s + j / 3) * 3 + 1 by omega]; exact c1
    · rw [e] at hu ⊢
      rw [q2] at hu; cases hu
      rw [show off + s * 3 + (j / 3 * 3 + 2) = off + (s + j / 3) * 3 + 2 by omega]; exact c2
theorem own_empty3 (w : World) (t : TypeId) : (w.alloc (.cells #[] t)).ownsRow w.heap.size t 3 (.slice (some ⟨w.heap.size, 0, none⟩) 0 0) 0 [] :=
  ⟨rfl, .inr ⟨w.heap.size, 0, #[], rfl, Nat.le_refl _, heap_alloc_new _ _, Nat.le_refl _, Nat.zero_le _, rfl, rfl⟩⟩
/-- Rows of the call's own, and nothing old turned. -/
def RetOwn (rs : List RowD) (w : World) (e : Ending) (w' : World) : Prop :=
  ∃ a cap, e = .returned (.slice a rs.length cap) ∧ w'.ownsRow w.heap.size 39 3 (.slice a rs.length cap) rs.length (cellsL rs) ∧ rs.length ≤ cap ∧ Below w.heap.size w w'
end Go.Proofs.YtclhjgcapalniaaDoor
/-
  An argument that is a slice of rows, opened; the laws' own helpers szRowS, toRowS, eqRow, eqRowS. Conditions: as each theorem says.
-/
namespace Go.Proofs.YtclhjgcapalniaaDoor
open Go.ChangeShapes Go.WideShapes Go.ChangeAt Go.RowKit Go.Joins

def FitW (rs : List RowD) : Prop := ∀ i, i < rs.length → I64 (rat rs i).id ∧ I64 (rat rs i).dep ∧ (rat rs i).txt.size ≤ maxLen
def CellsR (w : World) (b o : Nat) (r : RowD) : Prop := w.cell? ⟨b, o, none⟩ = some (.int .i64 r.id) ∧ w.cell? ⟨b, o + 1, none⟩ = some (.int .i64 r.dep) ∧ w.cell? ⟨b, o + 2, none⟩ = some (.string r.txt)
theorem rat_map (f : Nat → RowD) (n i : Nat) (h : i < n) : rat ((List.range n).map f) i = f i := by simp [rat, h]
theorem addr_add (b o n : Nat) : (⟨b, o, none⟩ : Addr).add n = ⟨b, o + n, none⟩ := by
  unfold Addr.add; split <;> simp_all
theorem cellsInt1 : Tryd.prog.cellsOf 3 = 1 := by kernel_rfl
theorem cellsStr1 : Tryd.prog.cellsOf 9 = 1 := by kernel_rfl
/-! ### szRowS -/
def Sized (rs : List RowD) (w : World) (e : Ending) (w' : World) : Prop := ∃ z : Int, e = .returned (.int .i64 z) ∧ (z < 0 ∨ (0 ≤ z ∧ rs.length ≤ 1048576)) ∧ Below w.heap.size w w'
end Go.Proofs.YtclhjgcapalniaaDoor
/-
  The laws' own helpers toRowS, eqRow, eqRowS. Conditions: as each theorem says.
-/
namespace Go.Proofs.YtclhjgcapalniaaDoor
open Go.ChangeShapes Go.WideShapes Go.ChangeAt Go.RowKit Go.Joins

def RowsF (f : Nat → Value) (rs : List RowD) (k : Nat) : Prop := ∀ i, i < k → f (i * 3) = .int .i64 (rat rs i).id ∧ f (i * 3 + 1) = .int .i64 (rat rs i).dep ∧ f (i * 3 + 2) = .string (rat rs i).txt
/-- Block g holds the rows rs and nothing else; none of its cells is frozen. -/
def OwnRows (w : World) (g : Nat) (rs : List RowD) : Prop := ∃ f, w.rowIs g 39 (rs.length * 3) f ∧ RowsF f rs rs.length
theorem OwnRows.below {w w' : World} {g B : Nat} {rs : List RowD} (h : OwnRows w g rs) (hb : Below B w w') (hg : g < B) : OwnRows w' g rs := by
  obtain ⟨f, h1, h2⟩ := h
  exact ⟨f, h1.of_block (hb.block g hg), h2⟩
theorem OwnRows.lt {w : World} {g : Nat} {rs : List RowD} (h : OwnRows w g rs) : g < w.heap.size := by obtain ⟨f, h1, _⟩ := h; exact h1.lt
theorem OwnRows.at_ {w : World} {g B : Nat} {rs : List RowD} (h : OwnRows w g rs) (hg : g < B) : RowsAt B w (some ⟨g, 0, none⟩) rs := by
  obtain ⟨f, h1, h2⟩ := h
  refine .inr ⟨g, 0, rfl, hg, fun i hi => ?_⟩
  obtain ⟨a, b, c⟩ := h2 i hi
  rw [Nat.zero_add, h1.cell (show i * 3 < _ by omega), h1.cell (show i * 3 + 1 < _ by omega), h1.cell (show i * 3 + 2 < _ by omega), a, b, c]
  exact ⟨rfl, rfl, rfl⟩
def RetRows (rs : List RowD) (w : World) (e : Ending) (w' : World) : Prop := ∃ g, e = .returned (.slice (some ⟨g, 0, none⟩) rs.length rs.length) ∧ w.heap.size ≤ g ∧ OwnRows w' g rs ∧ Below w.heap.size w w'
theorem infoRow : (Tryd.prog.info? 39).map (fun i => (i.zero, i.size, i.bytes)) = some (some (.agg #[.int .i64 0, .int .i64 0, .string ⟨#[]⟩]), 3, 32) := by kernel_rfl
theorem rowIs_of_own {w : World} {base g n : Nat} {e : TypeId} {size : Nat} {xs : List Value} (h : w.ownsRow base e size (.slice (some ⟨g, 0, none⟩) n n) n xs) : ∃ f, w.rowIs g e (n * size) f := by
  rcases h.2 with ⟨h1, _⟩ | ⟨g', cap, cur, hv, _, hh, _, _, hs, _⟩
  · cases h1
  · cases hv
    exact ⟨fun i => cur.getD i undef, cur, hh, hs, fun i hi => by rw [Array.getElem?_eq_getElem (by omega)]; simp [Array.getD, show i < cur.size by omega]⟩
theorem rowsF_set {f : Nat → Value} {rs : List RowD} {k : Nat} (h : RowsF f rs k) :
    RowsF (fun j => if j = k * 3 + 2 then .string (rat rs k).txt else if j = k * 3 + 1 then .int .i64 (rat rs k).dep else if j = k * 3 then .int .i64 (rat rs k).id else f j) rs (k + 1) := by
  intro i hi
  by_cases e : i = k
  · subst e
    refine ⟨?_, ?_, ?_⟩
    · show (if _ then _ else if _ then _ else if _ then _ else _) = _
      rw [if_neg (by omega), if_neg (by omega), if_pos rfl]
    · show (if _ then _ else if _ then _ else if _ then _ else _) = _
      rw [if_neg (by omega), if_pos rfl]
    · show (if _ then _ else if _ then _ else if _ then _ else _) = _
      rw [if_pos rfl]
  · obtain ⟨a, b, c⟩ := h i (by omega)
    refine ⟨?_, ?_, ?_⟩
    · show (if _ then _ else if _ then _ else if _ then _ else _) = _
      rw [if_neg (by omega), if_neg (by omega), if_neg (by omega)]; exact a
    · show (if _ then _ else if _ then _ else if _ then _ else _) = _
      rw [if_neg (by omega), if_neg (by omega), if_neg (by omega)]; exact b
    · show (if _ then _ else if _ then _ else if _ then _ else _) = _
      rw [if_neg (by omega), if_neg (by omega), if_neg (by omega)]; exact c
/-! ### eqRow, eqRowS of one and the same -/
end Go.Proofs.YtclhjgcapalniaaDoor
/-
  Contract of the model's l3Put: it puts rows under a row, behind one. Conditions: as the theorem says.
-/
namespace Go.Proofs.YtclhjgcapalniaaDoor
open Go.ChangeShapes Go.WideShapes Go.ChangeAt Go.RowKit Go.Joins

theorem placeN_bd {rs : List RowD} {up at' : Int} (h1 : atN rs up < rs.length) (h2 : 0 < at' → atN rs at' < rs.length) : 1 ≤ placeN rs up at' ∧ placeN rs up at' ≤ rs.length := by
  unfold placeN
  split
  · rename_i h
    have := en_spec (D := rdep rs) (m := rs.length) (h2 h)
    have e : enR rs (atN rs at') = en (rdep rs) rs.length (atN rs at') := rfl
    omega
  · omega
def midR (rs rows : List RowD) (P k : Nat) (dd : Int) : List RowD := rs.take P ++ (rows.take k).map (shiftR dd)
theorem midR_zero (rs rows : List RowD) (P : Nat) (dd : Int) : midR rs rows P 0 dd = rs.take P := by simp [midR]
theorem snoc_rows (rs rows : List RowD) (P k : Nat) (dd : Int) (h : k < rows.length) :
    cellsL (midR rs rows P k dd) ++ cellsL [shiftR dd (rat rows k)] = cellsL (midR rs rows P (k + 1) dd) := by
  unfold midR
  rw [← cellsL_append, List.append_assoc]
  congr 2
  rw [List.take_succ_eq_append_getElem h, List.map_append]
  congr 1
  simp [rat, h]
theorem fin_rows (rs rows : List RowD) (P : Nat) (dd : Int) (_h : P ≤ rs.length) :
    cellsL (midR rs rows P rows.length dd) ++ cellsL ((rs.drop P).take (rs.length - P)) = cellsL (rs.take P ++ rows.map (shiftR dd) ++ rs.drop P) := by
  unfold midR
  rw [← cellsL_append, List.take_length (l := rows), List.take_of_length_le (l := rs.drop P) (by simp)]
theorem cells_new3 (w : World) (v0 v1 v2 : Value) (t : TypeId) (g : Nat) (hg : g = w.heap.size) : ∀ j u, [v0, v1, v2][j]? = some u → (w.alloc (.cells #[v0, v1, v2] t)).cell? ((⟨g, 0, none⟩ : Addr).add j) = some u := by
  subst hg
  intro j u hj
  match j, hj with
  | 0, hj => simp at hj; subst hj; simp [Addr.add, go_sem]
  | 1, hj => simp at hj; subst hj; simp [Addr.add, go_sem]
  | 2, hj => simp at hj; subst hj; simp [Addr.add, go_sem]
set_option maxRecDepth 100000 in
set_option maxHeartbeats 1000000 in
theorem l3Put_any (B : Nat) (a a' : Option Addr) (cap cap' : Nat) (rs rows : List RowD) (up at' : Int) (w : World) (hB : B ≤ w.heap.size) (h : RowsAt B w a rs) (h' : RowsAt B w a' rows) (hf : Fit rs) (hc : rs.length ≤ cap) (hcm : cap ≤ maxLen) (hs : SmallDep rs) (hs' : SmallDep rows)
    (hup : atN rs up < rs.length) (hat : 0 < at' → atN rs at' < rs.length) (hr : 0 < rows.length) (hl : rs.length + rows.length ≤ 1048576) :
    Calls Tryd.prog 112 #[.slice a rs.length cap, .slice a' rows.length cap', .int .i64 up, .int .i64 at'] w (RetOwn (putR rs rows up at') w) := by
  unfold maxLen at hcm
  obtain ⟨i0, hi, hz0, hz1, hz2⟩ := info_parts infoRow
  obtain ⟨p1, p2⟩ := placeN_bd hup hat
  obtain ⟨b, off, rfl, hbB, c0, c1, c2⟩ := h.at_ hup
  obtain ⟨b', off', rfl, hbB', d0, d1, d2⟩ := h'.at_ hr
  rw [Nat.zero_mul, Nat.add_zero] at d0 d1 d2
  obtain ⟨s1, s2⟩ := hs _ hup
  obtain ⟨s3, s4⟩ := hs' _ hr
  have H1 := Lib.hid (atI_pos hup)
  have HP : Hid (placeN rs up at' = if 0 < at' then enR rs (atN rs at') else atN rs up + 1) := rfl
  have HDp : Hid (deepI' rs rows up = (rat rs (atN rs up)).dep + 1 - (rat rows 0).dep) := rfl
  have HPut : Hid (putR rs rows up at' = rs.take (placeN rs up at') ++ rows.map (shiftR (deepI' rs rows up)) ++ rs.drop (placeN rs up at')) := rfl
  generalize putR rs rows up at' = res at *
  generalize placeN rs up at' = P at *
  generalize deepI' rs rows up = dd at *
  have dd1 : -2000001 ≤ dd ∧ dd ≤ 2000001 := by have := HDp.out; omega
  obtain ⟨dd1, dd2⟩ := dd1
  have i1 : ((atN rs up : Nat) : Int) < (rs.length : Int) := by omega
  have i2 : (0 : Int) < (rows.length : Int) := by omega
  have e1 : IntKind.i64.wrap ((rat rs (atN rs up)).dep + 1) = (rat rs (atN rs up)).dep + 1 := IntWalk.i64_in _ (by omega)
  have e2 : IntKind.i64.wrap ((rat rs (atN rs up)).dep + 1 - (rat rows 0).dep) = (rat rs (atN rs up)).dep + 1 - (rat rows 0).dep := IntWalk.i64_in _ (by omega)
  by_cases ha : 0 < at'
  · have hat2 := hat ha
    have H2 := Lib.hid (atI_pos hat2)
    have HP' : Hid (P = enR rs (atN rs at')) := HP.out.trans (if_pos ha)
    go_enter Tryd.func112, Tryd.ntmps112
    go_wp2_with fail
    refine (l2At_any B _ _ _ _ _ h hf).mono ?_
    rintro e w' ⟨rfl, rfl⟩
    rw [H1.out]
    generalize atN rs up = x at *
    go_wp2
    go_quiet (fail)
    clear e1 e2
    go_wp2_with fail
    refine (l2At_any B _ _ _ _ (w.drewN nq) (h.below (below_drewN nq (Below.refl _ _))) hf).mono ?_
    rintro e w' ⟨rfl, rfl⟩
    rw [H2.out]
    go_wp2_with fail
    refine (l2End_any B _ _ _ _ (w.drewN nq) hB (h.below (below_drewN nq (Below.refl _ _))) hf hat2).mono ?_
    rintro e W ⟨rfl, hbW0⟩
    rw [← HP'.out]
    rw [← HDp.out]
    have hWb : Below w.heap.size w W := (below_drewN nq (Below.refl _ w)).trans hbW0
    have HR := h.below (hWb.mono hB)
    have HR' := h'.below (hWb.mono hB)
    have hbW : b < W.heap.size := by have := hWb.size; omega
    have hown0 := own_empty3 W 39
    have hnews0 := (RowsAt.news (s := 0) (n := P) HR (by omega))
    rw [Nat.zero_mul, Nat.add_zero, List.drop_zero] at hnews0
    go_wp2_with (at_builtin; refine wpList_append_own _ rfl _ _ 23 rfl W.heap.size 39 i0 (.agg #[.int .i64 0, .int .i64 0, .string ⟨#[]⟩]) 3 32 Tryd.underlying23 hi hz0 hz1 hz2 rfl (by decide) _ _ _ rfl hown0 ⟨b, off, none⟩ P cap (cellsL (rs.take P)) rfl ?c0 ?c1 ?c2 ?c3 ?c4 ?c5 ?_)
    case c0 => rw [cellsL_len]; simp; omega
    case c1 => intro j u hu; rw [World.cell?_alloc_lt _ _ _ (by rw [addr_add]; exact hbW)]; exact hnews0 j u hu
    case c2 => exact cellsL_plain _
    case c3 => unfold maxLen; omega
    case c4 => omega
    case c5 => simp
    intro v1 w1 own1 grow1 _
    have hb1 : Below W.heap.size W w1 := ((Below.refl _ W).alloc (Nat.le_refl _) (.cells #[] 39)).grown grow1 (by simp) (own_block hown0)
    have hw1 : Below w.heap.size w w1 := hWb.trans (hb1.mono hWb.size)
    obtain ⟨va, vc, rfl, _⟩ := own_slice own1
    clear grow1 hown0 hnews0
    go_wp2_with fail
    go_loopw [12, 13] (fun v t wr => ∃ k : Nat, k ≤ rows.length ∧ t = .int .i64 k ∧ wr.ownsRow W.heap.size 39 3 v (P + k) (cellsL (midR rs rows P k dd)) ∧ Below W.heap.size W wr) (fun _ t _ => rows.length - (intOf t).toNat)
    case atStart => exact ⟨0, Nat.zero_le _, rfl, by rw [midR_zero]; exact own1, hb1⟩
    case round =>
      obtain ⟨k, hk, rfl, own, hbr⟩ := hrel
      obtain ⟨sa, sc, rfl, hsc⟩ := own_slice own
      have hrr := HR'.below (hbr.mono (Nat.le_trans hB hWb.size))
      by_cases hlt : k < rows.length
      · obtain ⟨_, _, e3, _, r0, r1, r2⟩ := hrr.at_ hlt
        cases e3
        have j1 : (k : Int) < (rows.length : Int) := by omega
        obtain ⟨t1, t2⟩ := hs' _ hlt
        have hst := snoc_rows rs rows P k dd hlt
        have HST := Lib.hid hst
        clear hst
        go_wp2_with (at_builtin; refine wpList_append_own _ rfl _ _ 23 rfl W.heap.size 39 i0 (.agg #[.int .i64 0, .int .i64 0, .string ⟨#[]⟩]) 3 32 Tryd.underlying23 hi hz0 hz1 hz2 rfl (by decide) _ _ _ rfl ((own.alloc _).alloc _) ⟨wr.heap.size + 1, 0, none⟩ 1 1 (cellsL [shiftR dd (rat rows k)]) rfl ?c0 ?c1 ?c2 ?c3 ?c4 ?c5 ?_)
        case c0 => rfl
        case c1 => exact cells_new3 (wr.alloc _) _ _ _ _ _ (by simp)
        case c2 => exact cellsL_plain _
        case c3 => unfold maxLen; omega
        case c4 => omega
        case c5 => have := hbr.size; simp; omega
        intro v2 w2 own2 grow2 _
        have hb2 : Below W.heap.size W w2 := ((hbr.alloc hbr.size (.cells #[.int .i64 (rat rows k).id, .int .i64 ((rat rows k).dep + dd), .string (rat rows k).txt] 39)).alloc (by have := hbr.size; simp; omega) (.cells #[.int .i64 (rat rows k).id, .int .i64 ((rat rows k).dep + dd), .string (rat rows k).txt] 39)).grown grow2 (by have := hbr.size; simp; omega) (own_block own)
        obtain ⟨va2, vc2, rfl, _⟩ := own_slice own2
        rw [HST.out] at own2
        clear grow2 own
        go_wp2
        go_roundw
        case rel => exact ⟨k + 1, by omega, by go_num, own2, hb2⟩
        case measure => simp [intOf]; omega
      · obtain rfl : k = rows.length := by omega
        have HRr := HR.below (hbr.mono (Nat.le_trans hB hWb.size))
        have hw2 : Below w.heap.size w wr := hWb.trans (hbr.mono hWb.size)
        have hbr' : b < wr.heap.size := by have := hbr.size; omega
        have ip : (P : Int) ≤ (rs.length : Int) := by omega
        have ip2 : (P : Int) ≤ (cap : Int) := by omega
        have hfin := fin_rows rs rows P dd p2
        rw [← HPut.out] at hfin
        have HFIN := Lib.hid hfin
        have hlr : res.length = P + rows.length + (rs.length - P) := by rw [HPut.out]; simp; omega
        have HLR := Lib.hid hlr
        clear hfin hlr
        by_cases hcp : cap = P
        · subst hcp
          have hz : rs.length - cap = 0 := by omega
          have hfin2 : cellsL (midR rs rows cap rows.length dd) = cellsL res := by
            have := HFIN.out
            rw [hz, List.take_zero] at this
            simpa [cellsL] using this
          have hlr2 : res.length = cap + rows.length := by have := HLR.out; omega
          have HF2 := Lib.hid hfin2
          have HL2 := Lib.hid hlr2
          clear hfin2 hlr2 hz
          go_wp2_with (at_builtin; refine wpList_append_own _ rfl _ _ 23 rfl W.heap.size 39 i0 (.agg #[.int .i64 0, .int .i64 0, .string ⟨#[]⟩]) 3 32 Tryd.underlying23 hi hz0 hz1 hz2 rfl (by decide) _ _ _ rfl own ⟨b, off, none⟩ 0 _ [] rfl ?c0 ?c1 ?c2 ?c3 ?c4 ?c5 ?_)
          case c0 => rfl
          case c1 => intro j u hu; simp at hu
          case c2 => intro u hu; simp at hu
          case c3 => unfold maxLen; omega
          case c4 => omega
          case c5 => exact hbr.size
          intro v3 w3 own3 grow3 _
          have hb3 : Below W.heap.size W w3 := hbr.grown grow3 hbr.size (own_block own)
          obtain ⟨va3, vc3, rfl, hvc3⟩ := own_slice own3
          have own4 : w3.ownsRow W.heap.size 39 3 (.slice va3 (cap + rows.length) vc3) (cap + rows.length) (cellsL res) := by rw [← HF2.out]; simpa using own3
          go_wp2
          go_ret
          rw [← HL2.out] at own4
          refine ⟨va3, vc3, by rw [HL2.out]; rfl, own_mono own4 hWb.size, by rw [HL2.out]; simpa using hvc3, hWb.trans (hb3.mono hWb.size)⟩
        · go_wp2_with (at_builtin; refine wpList_append_own _ rfl _ _ 23 rfl W.heap.size 39 i0 (.agg #[.int .i64 0, .int .i64 0, .string ⟨#[]⟩]) 3 32 Tryd.underlying23 hi hz0 hz1 hz2 rfl (by decide) _ _ _ rfl own ⟨b, off + P * 3, none⟩ (rs.length - P) _ (cellsL ((rs.drop P).take (rs.length - P))) rfl ?c0 ?c1 ?c2 ?c3 ?c4 ?c5 ?_)
          case c0 => rw [cellsL_len]; simp
          case c1 => exact RowsAt.news HRr (by omega)
          case c2 => exact cellsL_plain _
          case c3 => unfold maxLen; omega
          case c4 => omega
          case c5 => exact hbr.size
          intro v3 w3 own3 grow3 _
          have hb3 : Below W.heap.size W w3 := hbr.grown grow3 hbr.size (own_block own)
          obtain ⟨va3, vc3, rfl, hvc3⟩ := own_slice own3
          rw [HFIN.out] at own3
          go_wp2
          go_ret
          rw [← HLR.out] at own3 hvc3
          refine ⟨va3, vc3, by rw [HLR.out]; rfl, own_mono own3 hWb.size, hvc3, hWb.trans (hb3.mono hWb.size)⟩
  · have HP' : Hid (P = atN rs up + 1) := HP.out.trans (if_neg ha)
    have ha' : at' ≤ 0 := by omega
    go_enter Tryd.func112, Tryd.ntmps112
    go_wp2_with fail
    refine (l2At_any B _ _ _ _ _ h hf).mono ?_
    rintro e w' ⟨rfl, rfl⟩
    rw [H1.out]
    generalize atN rs up = x at *
    obtain rfl : P = x + 1 := HP'.out
    go_wp2
    go_quiet (fail)
    clear e1 e2
    rw [← HDp.out]
    have hWb : Below w.heap.size w (w.drewN nq) := below_drewN nq (Below.refl _ w)
    have HR := h.below (hWb.mono hB)
    have HR' := h'.below (hWb.mono hB)
    have hbW : b < (w.drewN nq).heap.size := by have := hWb.size; omega
    generalize w.drewN nq = W at *
    have hown0 := own_empty3 W 39
    have hnews0 := (RowsAt.news (s := 0) (n := (x + 1)) HR (by omega))
    rw [Nat.zero_mul, Nat.add_zero, List.drop_zero] at hnews0
    go_wp2_with (at_builtin; refine wpList_append_own _ rfl _ _ 23 rfl W.heap.size 39 i0 (.agg #[.int .i64 0, .int .i64 0, .string ⟨#[]⟩]) 3 32 Tryd.underlying23 hi hz0 hz1 hz2 rfl (by decide) _ _ _ rfl hown0 ⟨b, off, none⟩ (x + 1) cap (cellsL (rs.take (x + 1))) rfl ?c0 ?c1 ?c2 ?c3 ?c4 ?c5 ?_)
    case c0 => rw [cellsL_len]; simp; omega
    case c1 => intro j u hu; rw [World.cell?_alloc_lt _ _ _ (by rw [addr_add]; exact hbW)]; exact hnews0 j u hu
    case c2 => exact cellsL_plain _
    case c3 => unfold maxLen; omega
    case c4 => omega
    case c5 => simp
    intro v1 w1 own1 grow1 _
    have hb1 : Below W.heap.size W w1 := ((Below.refl _ W).alloc (Nat.le_refl _) (.cells #[] 39)).grown grow1 (by simp) (own_block hown0)
    have hw1 : Below w.heap.size w w1 := hWb.trans (hb1.mono hWb.size)
    obtain ⟨va, vc, rfl, _⟩ := own_slice own1
    clear grow1 hown0 hnews0
    go_wp2_with fail
    go_loopw [12, 13] (fun v t wr => ∃ k : Nat, k ≤ rows.length ∧ t = .int .i64 k ∧ wr.ownsRow W.heap.size 39 3 v ((x + 1) + k) (cellsL (midR rs rows (x + 1) k dd)) ∧ Below W.heap.size W wr) (fun _ t _ => rows.length - (intOf t).toNat)
    case atStart => exact ⟨0, Nat.zero_le _, rfl, by rw [midR_zero]; exact own1, hb1⟩
    case round =>
      obtain ⟨k, hk, rfl, own, hbr⟩ := hrel
      obtain ⟨sa, sc, rfl, hsc⟩ := own_slice own
      have hrr := HR'.below (hbr.mono (Nat.le_trans hB hWb.size))
      by_cases hlt : k < rows.length
      · obtain ⟨_, _, e3, _, r0, r1, r2⟩ := hrr.at_ hlt
        cases e3
        have j1 : (k : Int) < (rows.length : Int) := by omega
        obtain ⟨t1, t2⟩ := hs' _ hlt
        have hst := snoc_rows rs rows (x + 1) k dd hlt
        have HST := Lib.hid hst
        clear hst
        go_wp2_with (at_builtin; refine wpList_append_own _ rfl _ _ 23 rfl W.heap.size 39 i0 (.agg #[.int .i64 0, .int .i64 0, .string ⟨#[]⟩]) 3 32 Tryd.underlying23 hi hz0 hz1 hz2 rfl (by decide) _ _ _ rfl ((own.alloc _).alloc _) ⟨wr.heap.size + 1, 0, none⟩ 1 1 (cellsL [shiftR dd (rat rows k)]) rfl ?c0 ?c1 ?c2 ?c3 ?c4 ?c5 ?_)
        case c0 => rfl
        case c1 => exact cells_new3 (wr.alloc _) _ _ _ _ _ (by simp)
        case c2 => exact cellsL_plain _
        case c3 => unfold maxLen; omega
        case c4 => omega
        case c5 => have := hbr.size; simp; omega
        intro v2 w2 own2 grow2 _
        have hb2 : Below W.heap.size W w2 := ((hbr.alloc hbr.size (.cells #[.int .i64 (rat rows k).id, .int .i64 ((rat rows k).dep + dd), .string (rat rows k).txt] 39)).alloc (by have := hbr.size; simp; omega) (.cells #[.int .i64 (rat rows k).id, .int .i64 ((rat rows k).dep + dd), .string (rat rows k).txt] 39)).grown grow2 (by have := hbr.size; simp; omega) (own_block own)
        obtain ⟨va2, vc2, rfl, _⟩ := own_slice own2
        rw [HST.out] at own2
        clear grow2 own
        go_wp2
        go_roundw
        case rel => exact ⟨k + 1, by omega, by go_num, own2, hb2⟩
        case measure => simp [intOf]; omega
      · obtain rfl : k = rows.length := by omega
        have HRr := HR.below (hbr.mono (Nat.le_trans hB hWb.size))
        have hw2 : Below w.heap.size w wr := hWb.trans (hbr.mono hWb.size)
        have hbr' : b < wr.heap.size := by have := hbr.size; omega
        have ip : ((x + 1) : Int) ≤ (rs.length : Int) := by omega
        have ip2 : ((x + 1) : Int) ≤ (cap : Int) := by omega
        have hfin := fin_rows rs rows (x + 1) dd p2
        rw [← HPut.out] at hfin
        have HFIN := Lib.hid hfin
        have hlr : res.length = (x + 1) + rows.length + (rs.length - (x + 1)) := by rw [HPut.out]; simp; omega
        have HLR := Lib.hid hlr
        clear hfin hlr
        by_cases hcp : cap = (x + 1)
        · subst hcp
          have hz : rs.length - (x + 1) = 0 := by omega
          have hfin2 : cellsL (midR rs rows (x + 1) rows.length dd) = cellsL res := by
            have := HFIN.out
            rw [hz, List.take_zero] at this
            simpa [cellsL] using this
          have hlr2 : res.length = (x + 1) + rows.length := by have := HLR.out; omega
          have HF2 := Lib.hid hfin2
          have HL2 := Lib.hid hlr2
          clear hfin2 hlr2 hz
          go_wp2_with (at_builtin; refine wpList_append_own _ rfl _ _ 23 rfl W.heap.size 39 i0 (.agg #[.int .i64 0, .int .i64 0, .string ⟨#[]⟩]) 3 32 Tryd.underlying23 hi hz0 hz1 hz2 rfl (by decide) _ _ _ rfl own ⟨b, off, none⟩ 0 _ [] rfl ?c0 ?c1 ?c2 ?c3 ?c4 ?c5 ?_)
          case c0 => rfl
          case c1 => intro j u hu; simp at hu
          case c2 => intro u hu; simp at hu
          case c3 => unfold maxLen; omega
          case c4 => omega
          case c5 => exact hbr.size
          intro v3 w3 own3 grow3 _
          have hb3 : Below W.heap.size W w3 := hbr.grown grow3 hbr.size (own_block own)
          obtain ⟨va3, vc3, rfl, hvc3⟩ := own_slice own3
          have own4 : w3.ownsRow W.heap.size 39 3 (.slice va3 ((x + 1) + rows.length) vc3) ((x + 1) + rows.length) (cellsL res) := by rw [← HF2.out]; simpa using own3
          go_wp2
          go_ret
          rw [← HL2.out] at own4
          refine ⟨va3, vc3, by rw [HL2.out]; rfl, own_mono own4 hWb.size, by rw [HL2.out]; simpa using hvc3, hWb.trans (hb3.mono hWb.size)⟩
        · go_wp2_with (at_builtin; refine wpList_append_own _ rfl _ _ 23 rfl W.heap.size 39 i0 (.agg #[.int .i64 0, .int .i64 0, .string ⟨#[]⟩]) 3 32 Tryd.underlying23 hi hz0 hz1 hz2 rfl (by decide) _ _ _ rfl own ⟨b, off + (x + 1) * 3, none⟩ (rs.length - (x + 1)) _ (cellsL ((rs.drop (x + 1)).take (rs.length - (x + 1)))) rfl ?c0 ?c1 ?c2 ?c3 ?c4 ?c5 ?_)
          case c0 => rw [cellsL_len]; simp
          case c1 => exact RowsAt.news HRr (by omega)
          case c2 => exact cellsL_plain _
          case c3 => unfold maxLen; omega
          case c4 => omega
          case c5 => exact hbr.size
          intro v3 w3 own3 grow3 _
          have hb3 : Below W.heap.size W w3 := hbr.grown grow3 hbr.size (own_block own)
          obtain ⟨va3, vc3, rfl, hvc3⟩ := own_slice own3
          rw [HFIN.out] at own3
          go_wp2
          go_ret
          rw [← HLR.out] at own3 hvc3
          refine ⟨va3, vc3, by rw [HLR.out]; rfl, own_mono own3 hWb.size, hvc3, hWb.trans (hb3.mono hWb.size)⟩
end Go.Proofs.YtclhjgcapalniaaDoor
/-
  The laws' own helpers on slices of ints and rows: eqIntS, markText, markRowS, markIntS, heldIntS. Conditions: as each theorem says.
-/
namespace Go.Proofs.YtclhjgcapalniaaDoor
open Go.ChangeShapes Go.WideShapes Go.ChangeAt Go.RowKit Go.Joins

/-- The ints xs lie at address a, in a block from base on, none of the cells frozen. -/
def IntsAt (base : Nat) (w : World) (a : Option Addr) (xs : List Int) : Prop :=
  xs.length = 0 ∨ ∃ g, a = some ⟨g, 0, none⟩ ∧ base ≤ g ∧ g < w.heap.size ∧ ∀ i, i < xs.length → w.cell? ⟨g, i, none⟩ = some (.int .i64 (xs.getD i 0)) ∧ w.frozen? ⟨g, i, none⟩ = false
theorem ints_of_own {w : World} {base : Nat} {e : TypeId} {a : Option Addr} {cap : Nat} {xs : List Int} (h : w.ownsRow base e 1 (.slice a xs.length cap) xs.length (xs.map (Value.int .i64))) : IntsAt base w a xs := by
  rcases h.2 with ⟨_, h0⟩ | ⟨g, cap', cur, hv, hg, hh, h1, h2, h3, h4⟩
  · exact .inl h0
  · cases hv
    refine .inr ⟨g, rfl, hg, (Array.getElem?_eq_some_iff.1 hh).1, fun i hi => ?_⟩
    have h5 : cur.toList[i]? = some (.int .i64 (xs.getD i 0)) := by
      have : (cur.toList.take (xs.length * 1))[i]? = (xs.map (Value.int .i64))[i]? := by rw [h4]
      rw [List.getElem?_take_of_lt (by omega)] at this
      rw [this, List.getElem?_map, List.getElem?_eq_getElem hi]
      simp [List.getD_eq_getElem?_getD, List.getElem?_eq_getElem hi]
    constructor
    · unfold World.cell?
      simp only [hh]
      simpa using h5
    · simp [World.frozen?, hh]
theorem IntsAt.below {base B : Nat} {w w' : World} {a : Option Addr} {xs : List Int} (h : IntsAt base w a xs) (hb : Below B w w') (hB : w.heap.size ≤ B) : IntsAt base w' a xs := by
  rcases h with h | ⟨g, rfl, hg, hl, hc⟩
  · exact .inl h
  · refine .inr ⟨g, rfl, hg, by have := hb.size; omega, fun i hi => ?_⟩
    rw [hb.cell (p := ⟨g, i, none⟩) (show g < B by omega), hb.frozen (p := ⟨g, i, none⟩) (show g < B by omega)]; exact hc i hi
theorem IntsAt.but {base b : Nat} {w w' : World} {a : Option Addr} {xs : List Int} (h : IntsAt base w a xs) (hb : But b w.heap.size w w') (hlt : b < base) : IntsAt base w' a xs := by
  rcases h with h | ⟨g, rfl, hg, hl, hc⟩
  · exact .inl h
  · refine .inr ⟨g, rfl, hg, by have := hb.size; omega, fun i hi => ?_⟩
    rw [hb.cell (p := ⟨g, i, none⟩) hl (show g ≠ b by omega), hb.frozen (p := ⟨g, i, none⟩) hl (show g ≠ b by omega)]; exact hc i hi
/-- Ints that lie below base are kept where nothing below base turns. -/
def IntsLow (base : Nat) (w : World) (a : Option Addr) (xs : List Int) : Prop :=
  xs.length = 0 ∨ ∃ g, a = some ⟨g, 0, none⟩ ∧ g < base ∧ ∀ i, i < xs.length → w.cell? ⟨g, i, none⟩ = some (.int .i64 (xs.getD i 0))
theorem IntsLow.below {base : Nat} {w w' : World} {a : Option Addr} {xs : List Int} (h : IntsLow base w a xs) (hb : Below base w w') : IntsLow base w' a xs := by
  rcases h with h | ⟨g, rfl, hg, hc⟩
  · exact .inl h
  · exact .inr ⟨g, rfl, hg, fun i hi => by rw [hb.cell (p := ⟨g, i, none⟩) hg]; exact hc i hi⟩
theorem IntsLow.mono {base base' : Nat} {w : World} {a : Option Addr} {xs : List Int} (h : IntsLow base w a xs) (hb : base ≤ base') : IntsLow base' w a xs := by
  rcases h with h | ⟨g, rfl, hg, hc⟩
  · exact .inl h
  · exact .inr ⟨g, rfl, by omega, hc⟩
theorem IntsAt.low {base : Nat} {w : World} {a : Option Addr} {xs : List Int} (h : IntsAt base w a xs) : IntsLow w.heap.size w a xs := by
  rcases h with h | ⟨g, rfl, hg, hl, hc⟩
  · exact .inl h
  · exact .inr ⟨g, rfl, hl, fun i hi => (hc i hi).1⟩
theorem IntsLow.at_ {base : Nat} {w : World} {a : Option Addr} {xs : List Int} (h : IntsLow base w a xs) {i : Nat} (hi : i < xs.length) : ∃ g, a = some ⟨g, 0, none⟩ ∧ g < base ∧ w.cell? ⟨g, i, none⟩ = some (.int .i64 (xs.getD i 0)) := by
  rcases h with h | ⟨g, rfl, hg, hc⟩
  · omega
  · exact ⟨g, rfl, hg, hc i hi⟩
/-! ### markIntS, heldIntS -/
def marks (n : Nat) : List Int := (List.range n).map fun (i : Nat) => ((i : Int) + 1)
theorem marks_len (n : Nat) : (marks n).length = n := by simp [marks]
theorem marks_at {n i : Nat} (h : i < n) : (marks n).getD i 0 = (i : Int) + 1 := by simp [marks, List.getD_eq_getElem?_getD, h]
def Marked (base : Nat) (a : Option Addr) (n : Nat) (w : World) (e : Ending) (w' : World) : Prop := e = .returned (.int .i64 ((n : Int) + 1)) ∧ IntsAt base w' a (marks n) ∧ Below base w w'
end Go.Proofs.YtclhjgcapalniaaDoor
/-
  Contract of the model's l3Where. Conditions: as the theorem says.
-/
namespace Go.Proofs.YtclhjgcapalniaaDoor
open Go.ChangeShapes Go.WideShapes Go.ChangeAt Go.RowKit Go.Joins

theorem there_no {rs : List RowD} {id : Int} (h : thereB rs id = false) : atI rs id = -1 := by
  simp only [thereB, decide_eq_false_iff_not] at h
  exact atI_neg (by have := atN_le rs id; omega)
theorem there_yes {rs : List RowD} {id : Int} (h : thereB rs id = true) : atI rs id = (atN rs id : Int) := by
  simp only [thereB, decide_eq_true_eq] at h
  exact atI_pos h
theorem kidsL_len {rs : List RowD} {id : Int} (hl : rs.length ≤ 1048576) : (kidsL rs id).length ≤ 1048576 := by
  unfold kidsL
  split
  · rename_i h
    have h1 := kidsOf_len rs (atN rs id) (enR rs (atN rs id) - (atN rs id + 1)) (atN rs id + 1)
    have h2 : enR rs (atN rs id) ≤ rs.length := (en_spec (D := rdep rs) h).2.1
    unfold kidsAt
    omega
  · simp
theorem atOfL_step (ks : List Int) (k : Nat) (o : OpD) (h : k < ks.length) : atOfL (ks.take (k + 1)) o = if (ks.getD k 0 == o.at_) && (o.at_ != o.id) then o.at_ else atOfL (ks.take k) o := by
  unfold atOfL
  rw [List.take_succ_eq_append_getElem h, List.any_append]
  have : ks.getD k 0 = ks[k] := by simp [List.getD_eq_getElem?_getD, h]
  rw [this]
  cases h1 : (List.take k ks).any (fun x => (x == o.at_) && (o.at_ != o.id)) <;> cases h2 : ((ks[k] == o.at_) && (o.at_ != o.id)) <;> simp_all
def opV (o : OpD) : Value := .agg #[.int .i64 o.kind, .int .i64 o.id, .int .i64 o.up, .int .i64 o.at_, .string o.txt]
def OpBox (w : World) (b : Nat) (o : OpD) : Prop := w.cell? ⟨b, 0, none⟩ = some (.int .i64 o.kind) ∧ w.cell? ⟨b, 1, none⟩ = some (.int .i64 o.id) ∧ w.cell? ⟨b, 2, none⟩ = some (.int .i64 o.up) ∧ w.cell? ⟨b, 3, none⟩ = some (.int .i64 o.at_)
theorem opbox_new (w : World) (o : OpD) (t : TypeId) : OpBox (w.alloc (.cells #[.int .i64 o.kind, .int .i64 o.id, .int .i64 o.up, .int .i64 o.at_, .string o.txt] t)) w.heap.size o := by
  refine ⟨?_, ?_, ?_, ?_⟩ <;> simp [go_sem]
theorem opbox_below {w w' : World} {b B : Nat} {o : OpD} (h : OpBox w b o) (hb : Below B w w') (hlt : b < B) : OpBox w' b o := by
  unfold OpBox
  rw [hb.cell (p := ⟨b, 0, none⟩) hlt, hb.cell (p := ⟨b, 1, none⟩) hlt, hb.cell (p := ⟨b, 2, none⟩) hlt, hb.cell (p := ⟨b, 3, none⟩) hlt]; exact h
set_option maxRecDepth 100000 in
set_option maxHeartbeats 2000000 in
theorem l3Where_any (B : Nat) (a : Option Addr) (cap : Nat) (rs : List RowD) (o : OpD) (w : World) (hB : B ≤ w.heap.size) (h : RowsAt B w a rs) (hf : Fit rs) (hs : SmallDep rs) :
    Calls Tryd.prog 111 #[.slice a rs.length cap, .agg #[.int .i64 o.kind, .int .i64 o.id, .int .i64 o.up, .int .i64 o.at_, .string o.txt]] w (RetBelow (.tuple #[.int .i64 (whereU rs o), .int .i64 (whereA rs o), .bool (!noWhereB rs o)]) w) := by
  have hl := hf.1
  have hb0 : Below w.heap.size w (w.alloc (.cells #[.int .i64 o.kind, .int .i64 o.id, .int .i64 o.up, .int .i64 o.at_, .string o.txt] 27)) := (Below.refl _ _).alloc (Nat.le_refl _) _
  have h0 := h.below (hb0.mono hB)
  have hx0 := opbox_new w o 27
  have hsz0 : (w.alloc (.cells #[.int .i64 o.kind, .int .i64 o.id, .int .i64 o.up, .int .i64 o.at_, .string o.txt] 27)).heap.size = w.heap.size + 1 := by simp
  have hB0 : B ≤ (w.alloc (.cells #[.int .i64 o.kind, .int .i64 o.id, .int .i64 o.up, .int .i64 o.at_, .string o.txt] 27)).heap.size := by omega
  have HSZ := Lib.hid hsz0
  clear hsz0
  cases hth : thereB rs o.id
  · have HTI := Lib.hid (there_no hth)
    cases hk2 : (o.kind == 2)
    · cases hk3 : (o.kind == 3)
      · have hno : noWhereB rs o = false := by simp [noWhereB, hth, hk2, hk3]
        go_enter Tryd.func111, Tryd.ntmps111
        go_wp2_with fail
        refine (l2At_any B _ _ _ _ _ h0 hf).mono ?_
        rintro e w' ⟨rfl, rfl⟩
        rw [HTI.out]
        obtain ⟨x0, x1, x2, x3⟩ := hx0
        have hbox : OpBox (w.alloc (.cells #[.int .i64 o.kind, .int .i64 o.id, .int .i64 o.up, .int .i64 o.at_, .string o.txt] 27)) w.heap.size o := ⟨x0, x1, x2, x3⟩
        have hbx : w.heap.size < (w.alloc (.cells #[.int .i64 o.kind, .int .i64 o.id, .int .i64 o.up, .int .i64 o.at_, .string o.txt] 27)).heap.size := by rw [HSZ.out]; omega
        have hWb := hb0
        have HRW := h0
        clear hb0 h0 HSZ
        generalize w.alloc (.cells #[.int .i64 o.kind, .int .i64 o.id, .int .i64 o.up, .int .i64 o.at_, .string o.txt] 27) = W at *
        have HN := Lib.hid hno
        cases hut : thereB rs o.up
        · have HU : Hid (whereU rs o = 3) := by unfold Hid whereU; rw [HN.out, hut]; rfl
          have HA : Hid (whereA rs o = 0) := by unfold Hid whereA; rw [HN.out, hut]; rfl
          have HT := Lib.hid (there_no hut)
          clear hut hno
          go_wp2_with fail
          refine (l2At_any B _ _ _ _ _ HRW hf).mono ?_
          rintro e w' ⟨rfl, rfl⟩
          rw [HT.out]
          go_wp2
          go_ret3
          exact ⟨by rw [HU.out, HA.out, HN.out]; rfl, hWb⟩
        · have HU : Hid (whereU rs o = o.up) := by unfold Hid whereU; rw [HN.out, hut]; rfl
          have HA : Hid (whereA rs o = atOfL (kidsL rs o.up) o) := by unfold Hid whereA; rw [HN.out, hut]; rfl
          have HT := Lib.hid (there_yes hut)
          have ht0 : ¬ ((atN rs o.up : Nat) : Int) < 0 := by omega
          clear hut hno
          go_wp2_with fail
          refine (l2At_any B _ _ _ _ _ HRW hf).mono ?_
          rintro e w' ⟨rfl, rfl⟩
          rw [HT.out]
          generalize atN rs o.up = x at *
          go_wp2_with fail
          refine (l2Kids_any B _ _ _ _ _ (Nat.le_trans hB hWb.size) HRW hf hs).mono ?_
          rintro e W1 ⟨v1, rfl, own1, hb1⟩
          obtain ⟨ka, kc, rfl, _⟩ := own_slice own1
          have hk := (ints_of_own own1).low
          have hW1 : Below w.heap.size w W1 := hWb.trans (hb1.mono hWb.size)
          have kl := kidsL_len (rs := rs) (id := o.up) hl
          obtain ⟨y0, y1, y2, y3⟩ := opbox_below hbox hb1 hbx
          generalize kidsL rs o.up = ks at *
          clear own1
          go_wp2_with fail
          go_loopw [9, 11] (fun v t wr => ∃ k : Nat, k ≤ ks.length ∧ t = .int .i64 k ∧ v = .int .i64 (atOfL (ks.take k) o) ∧ Below W1.heap.size W1 wr) (fun _ t _ => ks.length - (intOf t).toNat)
          case atStart => exact ⟨0, Nat.zero_le _, rfl, by simp [atOfL], Below.refl _ _⟩
          case round =>
            obtain ⟨k, hk1, rfl, rfl, hbr⟩ := hrel
            have hkr := hk.below hbr
            have hbx1 : w.heap.size < W1.heap.size := by have := hb1.size; omega
            have z1 := (hbr.cell (p := ⟨w.heap.size, 1, none⟩) hbx1).trans y1
            have z3 := (hbr.cell (p := ⟨w.heap.size, 3, none⟩) hbx1).trans y3
            by_cases hlt : k < ks.length
            · obtain ⟨g, rfl, hg, c0⟩ := hkr.at_ hlt
              have i1 : (k : Int) < (ks.length : Int) := by omega
              have hst := atOfL_step ks k o hlt
              generalize ks.getD k 0 = q at *
              cases hq : (q == o.at_)
              · have HS : Hid (atOfL (ks.take (k + 1)) o = atOfL (ks.take k) o) := by unfold Hid; rw [hst, hq]; rfl
                clear hst
                generalize atOfL (ks.take k) o = cur at *
                go_wp2
                go_quiet (fail)
                go_wp2
                go_roundw
                case rel => exact ⟨k + 1, by omega, by go_num, by rw [HS.out], below_drewN _ hbr⟩
                case measure => simp [intOf]; omega
              · cases hd : (o.at_ != o.id)
                · have HS : Hid (atOfL (ks.take (k + 1)) o = atOfL (ks.take k) o) := by unfold Hid; rw [hst, hq, hd]; rfl
                  clear hst
                  generalize atOfL (ks.take k) o = cur at *
                  go_wp2
                  go_quiet (fail)
                  go_wp2
                  go_roundw
                  case rel => exact ⟨k + 1, by omega, by go_num, by rw [HS.out], below_drewN _ hbr⟩
                  case measure => simp [intOf]; omega
                · have HS : Hid (atOfL (ks.take (k + 1)) o = o.at_) := by unfold Hid; rw [hst, hq, hd]; rfl
                  clear hst
                  generalize atOfL (ks.take k) o = cur at *
                  go_wp2
                  go_quiet (fail)
                  go_wp2
                  go_roundw
                  case rel => exact ⟨k + 1, by omega, by go_num, by rw [HS.out], below_drewN _ hbr⟩
                  case measure => simp [intOf]; omega
            · obtain rfl : k = ks.length := by omega
              go_wp2
              go_ret3
              exact ⟨by rw [HU.out, HA.out, HN.out, List.take_length]; rfl, hW1.trans (hbr.mono hW1.size)⟩
      · have hno : noWhereB rs o = true := by simp [noWhereB, hth, hk2, hk3]
        have HU : Hid (whereU rs o = 0) := by unfold Hid whereU; rw [hno]; rfl
        have HA : Hid (whereA rs o = 0) := by unfold Hid whereA; rw [hno]; rfl
        have HN := Lib.hid hno
        clear hno
        go_enter Tryd.func111, Tryd.ntmps111
        go_wp2_with fail
        refine (l2At_any B _ _ _ _ _ h0 hf).mono ?_
        rintro e w' ⟨rfl, rfl⟩
        rw [HTI.out]
        obtain ⟨x0, x1, x2, x3⟩ := hx0
        have hbox : OpBox (w.alloc (.cells #[.int .i64 o.kind, .int .i64 o.id, .int .i64 o.up, .int .i64 o.at_, .string o.txt] 27)) w.heap.size o := ⟨x0, x1, x2, x3⟩
        have hbx : w.heap.size < (w.alloc (.cells #[.int .i64 o.kind, .int .i64 o.id, .int .i64 o.up, .int .i64 o.at_, .string o.txt] 27)).heap.size := by rw [HSZ.out]; omega
        have hWb := hb0
        have HRW := h0
        clear hb0 h0 HSZ
        generalize w.alloc (.cells #[.int .i64 o.kind, .int .i64 o.id, .int .i64 o.up, .int .i64 o.at_, .string o.txt] 27) = W at *
        go_wp2
        go_ret3
        exact ⟨by rw [HU.out, HA.out, HN.out]; rfl, hWb⟩
    · have hno : noWhereB rs o = true := by simp [noWhereB, hk2]
      have HU : Hid (whereU rs o = 0) := by unfold Hid whereU; rw [hno]; rfl
      have HA : Hid (whereA rs o = 0) := by unfold Hid whereA; rw [hno]; rfl
      have HN := Lib.hid hno
      clear hno
      go_enter Tryd.func111, Tryd.ntmps111
      go_wp2_with fail
      refine (l2At_any B _ _ _ _ _ h0 hf).mono ?_
      rintro e w' ⟨rfl, rfl⟩
      rw [HTI.out]
      obtain ⟨x0, x1, x2, x3⟩ := hx0
      have hbox : OpBox (w.alloc (.cells #[.int .i64 o.kind, .int .i64 o.id, .int .i64 o.up, .int .i64 o.at_, .string o.txt] 27)) w.heap.size o := ⟨x0, x1, x2, x3⟩
      have hbx : w.heap.size < (w.alloc (.cells #[.int .i64 o.kind, .int .i64 o.id, .int .i64 o.up, .int .i64 o.at_, .string o.txt] 27)).heap.size := by rw [HSZ.out]; omega
      have hWb := hb0
      have HRW := h0
      clear hb0 h0 HSZ
      generalize w.alloc (.cells #[.int .i64 o.kind, .int .i64 o.id, .int .i64 o.up, .int .i64 o.at_, .string o.txt] 27) = W at *
      go_wp2
      go_ret3
      exact ⟨by rw [HU.out, HA.out, HN.out]; rfl, hWb⟩
  · have HTI := Lib.hid (there_yes hth)
    have hge : 0 ≤ ((atN rs o.id : Nat) : Int) := by omega
    cases hk2 : (o.kind == 2)
    · cases hk3 : (o.kind == 3)
      · have hno : noWhereB rs o = true := by simp [noWhereB, hth, hk2, hk3]
        have HU : Hid (whereU rs o = 0) := by unfold Hid whereU; rw [hno]; rfl
        have HA : Hid (whereA rs o = 0) := by unfold Hid whereA; rw [hno]; rfl
        have HN := Lib.hid hno
        clear hno
        go_enter Tryd.func111, Tryd.ntmps111
        go_wp2_with fail
        refine (l2At_any B _ _ _ _ _ h0 hf).mono ?_
        rintro e w' ⟨rfl, rfl⟩
        rw [HTI.out]
        obtain ⟨x0, x1, x2, x3⟩ := hx0
        have hbox : OpBox (w.alloc (.cells #[.int .i64 o.kind, .int .i64 o.id, .int .i64 o.up, .int .i64 o.at_, .string o.txt] 27)) w.heap.size o := ⟨x0, x1, x2, x3⟩
        have hbx : w.heap.size < (w.alloc (.cells #[.int .i64 o.kind, .int .i64 o.id, .int .i64 o.up, .int .i64 o.at_, .string o.txt] 27)).heap.size := by rw [HSZ.out]; omega
        have hWb := hb0
        have HRW := h0
        clear hb0 h0 HSZ
        generalize w.alloc (.cells #[.int .i64 o.kind, .int .i64 o.id, .int .i64 o.up, .int .i64 o.at_, .string o.txt] 27) = W at *
        go_wp2
        go_ret3
        exact ⟨by rw [HU.out, HA.out, HN.out]; rfl, hWb⟩
      · cases hu : undB rs o.up o.id
        · have hno : noWhereB rs o = false := by simp [noWhereB, hth, hk2, hk3, hu]
          go_enter Tryd.func111, Tryd.ntmps111
          go_wp2_with fail
          refine (l2At_any B _ _ _ _ _ h0 hf).mono ?_
          rintro e w' ⟨rfl, rfl⟩
          rw [HTI.out]
          obtain ⟨x0, x1, x2, x3⟩ := hx0
          have hbox : OpBox (w.alloc (.cells #[.int .i64 o.kind, .int .i64 o.id, .int .i64 o.up, .int .i64 o.at_, .string o.txt] 27)) w.heap.size o := ⟨x0, x1, x2, x3⟩
          have hbx : w.heap.size < (w.alloc (.cells #[.int .i64 o.kind, .int .i64 o.id, .int .i64 o.up, .int .i64 o.at_, .string o.txt] 27)).heap.size := by rw [HSZ.out]; omega
          have hWb := hb0
          have HRW := h0
          clear hb0 h0 HSZ
          generalize w.alloc (.cells #[.int .i64 o.kind, .int .i64 o.id, .int .i64 o.up, .int .i64 o.at_, .string o.txt] 27) = W at *
          go_wp2_with fail
          refine (l2Under_any B _ _ _ _ _ _ (Nat.le_trans hB hWb.size) HRW hf).mono ?_
          rintro e W2 ⟨rfl, hbu⟩
          rw [hu]
          have hbox2 := opbox_below hbox hbu hbx
          have hWb2 := hWb.trans (hbu.mono hWb.size)
          have hbx2 : w.heap.size < W2.heap.size := by have := hbu.size; omega
          have HRW2 := h.below (hWb2.mono hB)
          clear hbox hWb hbx HRW x0 x1 x2 x3
          obtain ⟨x0, x1, x2, x3⟩ := hbox2
          have hbox : OpBox W2 w.heap.size o := ⟨x0, x1, x2, x3⟩
          have hWb := hWb2
          have hbx := hbx2
          have HRW := HRW2
          clear hWb2 hbx2 HRW2 hbu
          have HN := Lib.hid hno
          cases hut : thereB rs o.up
          · have HU : Hid (whereU rs o = 3) := by unfold Hid whereU; rw [HN.out, hut]; rfl
            have HA : Hid (whereA rs o = 0) := by unfold Hid whereA; rw [HN.out, hut]; rfl
            have HT := Lib.hid (there_no hut)
            clear hut hno
            go_wp2_with fail
            refine (l2At_any B _ _ _ _ _ HRW hf).mono ?_
            rintro e w' ⟨rfl, rfl⟩
            rw [HT.out]
            go_wp2
            go_ret3
            exact ⟨by rw [HU.out, HA.out, HN.out]; rfl, hWb⟩
          · have HU : Hid (whereU rs o = o.up) := by unfold Hid whereU; rw [HN.out, hut]; rfl
            have HA : Hid (whereA rs o = atOfL (kidsL rs o.up) o) := by unfold Hid whereA; rw [HN.out, hut]; rfl
            have HT := Lib.hid (there_yes hut)
            have ht0 : ¬ ((atN rs o.up : Nat) : Int) < 0 := by omega
            clear hut hno
            go_wp2_with fail
            refine (l2At_any B _ _ _ _ _ HRW hf).mono ?_
            rintro e w' ⟨rfl, rfl⟩
            rw [HT.out]
            generalize atN rs o.up = x at *
            go_wp2_with fail
            refine (l2Kids_any B _ _ _ _ _ (Nat.le_trans hB hWb.size) HRW hf hs).mono ?_
            rintro e W1 ⟨v1, rfl, own1, hb1⟩
            obtain ⟨ka, kc, rfl, _⟩ := own_slice own1
            have hk := (ints_of_own own1).low
            have hW1 : Below w.heap.size w W1 := hWb.trans (hb1.mono hWb.size)
            have kl := kidsL_len (rs := rs) (id := o.up) hl
            obtain ⟨y0, y1, y2, y3⟩ := opbox_below hbox hb1 hbx
            generalize kidsL rs o.up = ks at *
            clear own1
            go_wp2_with fail
            go_loopw [9, 11] (fun v t wr => ∃ k : Nat, k ≤ ks.length ∧ t = .int .i64 k ∧ v = .int .i64 (atOfL (ks.take k) o) ∧ Below W1.heap.size W1 wr) (fun _ t _ => ks.length - (intOf t).toNat)
            case atStart => exact ⟨0, Nat.zero_le _, rfl, by simp [atOfL], Below.refl _ _⟩
            case round =>
              obtain ⟨k, hk1, rfl, rfl, hbr⟩ := hrel
              have hkr := hk.below hbr
              have hbx1 : w.heap.size < W1.heap.size := by have := hb1.size; omega
              have z1 := (hbr.cell (p := ⟨w.heap.size, 1, none⟩) hbx1).trans y1
              have z3 := (hbr.cell (p := ⟨w.heap.size, 3, none⟩) hbx1).trans y3
              by_cases hlt : k < ks.length
              · obtain ⟨g, rfl, hg, c0⟩ := hkr.at_ hlt
                have i1 : (k : Int) < (ks.length : Int) := by omega
                have hst := atOfL_step ks k o hlt
                generalize ks.getD k 0 = q at *
                cases hq : (q == o.at_)
                · have HS : Hid (atOfL (ks.take (k + 1)) o = atOfL (ks.take k) o) := by unfold Hid; rw [hst, hq]; rfl
                  clear hst
                  generalize atOfL (ks.take k) o = cur at *
                  go_wp2
                  go_quiet (fail)
                  go_wp2
                  go_roundw
                  case rel => exact ⟨k + 1, by omega, by go_num, by rw [HS.out], below_drewN _ hbr⟩
                  case measure => simp [intOf]; omega
                · cases hd : (o.at_ != o.id)
                  · have HS : Hid (atOfL (ks.take (k + 1)) o = atOfL (ks.take k) o) := by unfold Hid; rw [hst, hq, hd]; rfl
                    clear hst
                    generalize atOfL (ks.take k) o = cur at *
                    go_wp2
                    go_quiet (fail)
                    go_wp2
                    go_roundw
                    case rel => exact ⟨k + 1, by omega, by go_num, by rw [HS.out], below_drewN _ hbr⟩
                    case measure => simp [intOf]; omega
                  · have HS : Hid (atOfL (ks.take (k + 1)) o = o.at_) := by unfold Hid; rw [hst, hq, hd]; rfl
                    clear hst
                    generalize atOfL (ks.take k) o = cur at *
                    go_wp2
                    go_quiet (fail)
                    go_wp2
                    go_roundw
                    case rel => exact ⟨k + 1, by omega, by go_num, by rw [HS.out], below_drewN _ hbr⟩
                    case measure => simp [intOf]; omega
              · obtain rfl : k = ks.length := by omega
                go_wp2
                go_ret3
                exact ⟨by rw [HU.out, HA.out, HN.out, List.take_length]; rfl, hW1.trans (hbr.mono hW1.size)⟩
        · have hno : noWhereB rs o = true := by simp [noWhereB, hth, hu]
          have HU : Hid (whereU rs o = 0) := by unfold Hid whereU; rw [hno]; rfl
          have HA : Hid (whereA rs o = 0) := by unfold Hid whereA; rw [hno]; rfl
          have HN := Lib.hid hno
          clear hno
          go_enter Tryd.func111, Tryd.ntmps111
          go_wp2_with fail
          refine (l2At_any B _ _ _ _ _ h0 hf).mono ?_
          rintro e w' ⟨rfl, rfl⟩
          rw [HTI.out]
          obtain ⟨x0, x1, x2, x3⟩ := hx0
          have hbox : OpBox (w.alloc (.cells #[.int .i64 o.kind, .int .i64 o.id, .int .i64 o.up, .int .i64 o.at_, .string o.txt] 27)) w.heap.size o := ⟨x0, x1, x2, x3⟩
          have hbx : w.heap.size < (w.alloc (.cells #[.int .i64 o.kind, .int .i64 o.id, .int .i64 o.up, .int .i64 o.at_, .string o.txt] 27)).heap.size := by rw [HSZ.out]; omega
          have hWb := hb0
          have HRW := h0
          clear hb0 h0 HSZ
          generalize w.alloc (.cells #[.int .i64 o.kind, .int .i64 o.id, .int .i64 o.up, .int .i64 o.at_, .string o.txt] 27) = W at *
          go_wp2_with fail
          refine (l2Under_any B _ _ _ _ _ _ (Nat.le_trans hB hWb.size) HRW hf).mono ?_
          rintro e W2 ⟨rfl, hbu⟩
          rw [hu]
          go_wp2
          go_ret3
          exact ⟨by rw [HU.out, HA.out, HN.out]; rfl, hWb.trans (hbu.mono hWb.size)⟩
    · have hno : noWhereB rs o = true := by simp [noWhereB, hk2]
      have HU : Hid (whereU rs o = 0) := by unfold Hid whereU; rw [hno]; rfl
      have HA : Hid (whereA rs o = 0) := by unfold Hid whereA; rw [hno]; rfl
      have HN := Lib.hid hno
      clear hno
      go_enter Tryd.func111, Tryd.ntmps111
      go_wp2_with fail
      refine (l2At_any B _ _ _ _ _ h0 hf).mono ?_
      rintro e w' ⟨rfl, rfl⟩
      rw [HTI.out]
      obtain ⟨x0, x1, x2, x3⟩ := hx0
      have hbox : OpBox (w.alloc (.cells #[.int .i64 o.kind, .int .i64 o.id, .int .i64 o.up, .int .i64 o.at_, .string o.txt] 27)) w.heap.size o := ⟨x0, x1, x2, x3⟩
      have hbx : w.heap.size < (w.alloc (.cells #[.int .i64 o.kind, .int .i64 o.id, .int .i64 o.up, .int .i64 o.at_, .string o.txt] 27)).heap.size := by rw [HSZ.out]; omega
      have hWb := hb0
      have HRW := h0
      clear hb0 h0 HSZ
      generalize w.alloc (.cells #[.int .i64 o.kind, .int .i64 o.id, .int .i64 o.up, .int .i64 o.at_, .string o.txt] 27) = W at *
      go_wp2
      go_ret3
      exact ⟨by rw [HU.out, HA.out, HN.out]; rfl, hWb⟩
end Go.Proofs.YtclhjgcapalniaaDoor
/-
  Contract of the model's l3Do at a change that makes a row. Conditions: as the theorem says.
-/
namespace Go.Proofs.YtclhjgcapalniaaDoor
open Go.ChangeShapes Go.WideShapes Go.ChangeAt Go.RowKit Go.Joins

theorem there_at {rs : List RowD} {i : Nat} (hi : i < rs.length) : atN rs (rat rs i).id < rs.length := by
  rcases Nat.lt_or_ge (atN rs (rat rs i).id) rs.length with h | h
  · exact h
  · exact absurd rfl (atN_not (show i < atN rs (rat rs i).id by omega))
theorem kidsOf_mem (rs : List RowD) (x : Nat) : ∀ k s (q : Int), q ∈ kidsOf rs x s k → ∃ j, s ≤ j ∧ j < s + k ∧ (rat rs j).id = q
  | 0, s, q, h => by simp [kidsOf] at h
  | k + 1, s, q, h => by
    rw [kidsOf, List.mem_append] at h
    rcases h with h | h
    · split at h
      · simp at h; exact ⟨s, Nat.le_refl _, by omega, h.symm⟩
      · simp at h
    · obtain ⟨j, a, b, c⟩ := kidsOf_mem rs x k (s + 1) q h
      exact ⟨j, by omega, by omega, c⟩
theorem kidsL_there {rs : List RowD} {id q : Int} (h : q ∈ kidsL rs id) : atN rs q < rs.length := by
  unfold kidsL at h
  split at h
  · rename_i ha
    obtain ⟨j, a, b, c⟩ := kidsOf_mem rs _ _ _ q h
    have he : enR rs (atN rs id) ≤ rs.length := (en_spec (D := rdep rs) ha).2.1
    have hj : j < rs.length := by omega
    rw [← c]; exact there_at hj
  · simp at h
theorem atOfL_mem {ks : List Int} {o : OpD} (h : 0 < atOfL ks o) : atOfL ks o ∈ ks := by
  unfold atOfL at h ⊢
  split
  · rename_i g
    simp only [List.any_eq_true, Bool.and_eq_true, beq_iff_eq] at g
    obtain ⟨x, h1, h2, _⟩ := g
    rw [← h2]; exact h1
  · rename_i g
    rw [if_neg g] at h; omega
theorem whereA_there {rs : List RowD} {o : OpD} (h : 0 < whereA rs o) : atN rs (whereA rs o) < rs.length := by
  unfold whereA at h ⊢
  split
  · rename_i g; rw [if_pos g] at h; omega
  · rename_i g
    rw [if_neg g] at h
    split
    · rename_i g2
      rw [if_pos g2] at h
      exact kidsL_there (atOfL_mem h)
    · rename_i g2; rw [if_neg g2] at h; omega
theorem whereU_there {rs : List RowD} {o : OpD} (hn : noWhereB rs o = false) (h3 : thereB rs 3 = true) : atN rs (whereU rs o) < rs.length := by
  unfold whereU
  rw [hn]
  simp only [Bool.false_eq_true, if_false]
  split
  · rename_i g; simpa [thereB] using g
  · simpa [thereB] using h3
theorem doR_no {rs : List RowD} {o : OpD} (hk : o.kind = 1) (hn : noWhereB rs o = true) : doR rs o = rs := by simp [doR, hk, hn]
theorem doR_put {rs : List RowD} {o : OpD} (hk : o.kind = 1) (hn : noWhereB rs o = false) : doR rs o = putR rs [⟨o.id, 0, o.txt⟩] (whereU rs o) (whereA rs o) := by simp [doR, hk, hn]
theorem row_one (w : World) (id : Int) (t : ByteArray) (B : Nat) (hB : w.heap.size < B) : RowsAt B (w.alloc (.cells #[.int .i64 id, .int .i64 0, .string t] 39)) (some ⟨w.heap.size, 0, none⟩) [⟨id, 0, t⟩] := by
  refine .inr ⟨w.heap.size, 0, rfl, hB, fun i hi => ?_⟩
  have : i = 0 := by simp at hi; exact hi
  subst this
  refine ⟨?_, ?_, ?_⟩ <;> simp [go_sem, rat]
set_option maxRecDepth 100000 in
set_option maxHeartbeats 1000000 in
theorem l3DoMake_any (B : Nat) (a : Option Addr) (cap : Nat) (rs : List RowD) (o : OpD) (w : World) (hk : o.kind = 1) (hB : B ≤ w.heap.size) (h : RowsAt B w a rs) (hf : Fit rs) (hs : SmallDep rs) (hc : rs.length ≤ cap) (hcm : cap ≤ maxLen) (h0 : 0 < rs.length) (h3 : thereB rs 3 = true) (hl : rs.length + 1 ≤ 1048576) :
    Calls Tryd.prog 93 #[.slice a rs.length cap, .agg #[.int .i64 o.kind, .int .i64 o.id, .int .i64 o.up, .int .i64 o.at_, .string o.txt]] w (RetOwn (doR rs o) w) := by
  obtain ⟨i0, hi, hz0, hz1, hz2⟩ := info_parts infoRow
  have hb0 : Below w.heap.size w (w.alloc (.cells #[.int .i64 o.kind, .int .i64 o.id, .int .i64 o.up, .int .i64 o.at_, .string o.txt] 27)) := (Below.refl _ _).alloc (Nat.le_refl _) _
  have hr0 := h.below (hb0.mono hB)
  have hx0 := opbox_new w o 27
  have hsz0 : (w.alloc (.cells #[.int .i64 o.kind, .int .i64 o.id, .int .i64 o.up, .int .i64 o.at_, .string o.txt] 27)).heap.size = w.heap.size + 1 := by simp
  have hbx : w.heap.size < (w.alloc (.cells #[.int .i64 o.kind, .int .i64 o.id, .int .i64 o.up, .int .i64 o.at_, .string o.txt] 27)).heap.size := by omega
  have hk2 : (o.kind == 2) = false := by rw [hk]; rfl
  have hk1 : (o.kind == 1) = true := by rw [hk]; rfl
  have hx4 : (w.alloc (.cells #[.int .i64 o.kind, .int .i64 o.id, .int .i64 o.up, .int .i64 o.at_, .string o.txt] 27)).cell? ⟨w.heap.size, 4, none⟩ = some (.string o.txt) := by simp [go_sem]
  have HK := Lib.hid hk
  clear hk hsz0
  have hBW : B ≤ (w.alloc (.cells #[.int .i64 o.kind, .int .i64 o.id, .int .i64 o.up, .int .i64 o.at_, .string o.txt] 27)).heap.size := Nat.le_trans hB hb0.size
  go_enter Tryd.func93, Tryd.ntmps93
  go_wp2_with fail
  refine (l2At_any B _ _ _ _ _ hr0 hf).mono ?_
  rintro e w' ⟨rfl, rfl⟩
  obtain ⟨x0, x1, x2, x3⟩ := hx0
  generalize w.alloc (.cells #[.int .i64 o.kind, .int .i64 o.id, .int .i64 o.up, .int .i64 o.at_, .string o.txt] 27) = W at *
  go_wp2_with fail
  refine (l3Where_any B _ _ _ o W hBW hr0 hf hs).mono ?_
  rintro e W1 ⟨rfl, hb1⟩
  have hW1 : Below w.heap.size w W1 := hb0.trans (hb1.mono hb0.size)
  have hr1 := h.below (hW1.mono hB)
  have y0 := (hb1.cell (p := ⟨w.heap.size, 0, none⟩) hbx).trans x0
  have y1 := (hb1.cell (p := ⟨w.heap.size, 1, none⟩) hbx).trans x1
  have y4 := (hb1.cell (p := ⟨w.heap.size, 4, none⟩) hbx).trans hx4
  have hBW1 : B ≤ W1.heap.size := Nat.le_trans hB hW1.size
  clear x0 x1 x2 x3 hx4 hr0 hb0 hBW hbx hb1
  unfold maxLen at hcm
  cases hno : noWhereB rs o
  · have HF := Lib.hid (doR_put HK.out hno)
    have hup := whereU_there hno h3
    have hat : 0 < whereA rs o → atN rs (whereA rs o) < rs.length := fun g => whereA_there g
    have HUP := Lib.hid hup
    have HAT := Lib.hid hat
    clear hup hat
    go_wp2_with fail
    have hrow := row_one W1 o.id o.txt (W1.heap.size + 1) (by omega)
    have hal : Below W1.heap.size W1 (W1.alloc (.cells #[.int .i64 o.id, .int .i64 0, .string o.txt] 39)) := (Below.refl _ _).alloc (Nat.le_refl _) _
    have hsz : (W1.alloc (.cells #[.int .i64 o.id, .int .i64 0, .string o.txt] 39)).heap.size = W1.heap.size + 1 := by simp
    refine (l3Put_any (W1.heap.size + 1) _ _ _ _ rs [⟨o.id, 0, o.txt⟩] _ _ _ (by omega) ((h.below ((hW1.trans (hal.mono hW1.size)).mono hB)).mono (by omega)) hrow hf hc (by unfold maxLen; omega) hs (fun i hi => ?_) HUP.out HAT.out (by simp) (by simp; omega)).mono ?_
    · have : i = 0 := by simp at hi; exact hi
      subst this
      simp [rat]
    rintro e W2 ⟨ra, rc, rfl, own2, hrc, hb2⟩
    go_wp2
    go_ret
    exact ⟨ra, rc, by rw [HF.out]; rfl, by rw [HF.out]; exact own_mono own2 (Nat.le_trans hW1.size hal.size), by rw [HF.out]; exact hrc, (hW1.trans (hal.mono hW1.size)).trans (hb2.mono (Nat.le_trans hW1.size hal.size))⟩
  · have HF := Lib.hid (doR_no HK.out hno)
    obtain ⟨b, off, rfl, hbB, _⟩ := hr1.at_ h0
    have hown0 := own_empty3 W1 39
    have hnews0 := RowsAt.news (s := 0) (n := rs.length) hr1 (by omega)
    rw [Nat.zero_mul, Nat.add_zero, List.drop_zero, List.take_length] at hnews0
    have HNW := Lib.hid hnews0
    clear hnews0
    have hbW : b < W1.heap.size := by omega
    go_wp2_with (at_builtin; refine wpList_append_own _ rfl _ _ 23 rfl W1.heap.size 39 i0 (.agg #[.int .i64 0, .int .i64 0, .string ⟨#[]⟩]) 3 32 Tryd.underlying23 hi hz0 hz1 hz2 rfl (by decide) _ _ _ rfl hown0 ⟨b, off, none⟩ rs.length cap (cellsL rs) rfl ?c0 ?c1 ?c2 ?c3 ?c4 ?c5 ?_)
    case c0 => exact cellsL_len rs
    case c1 => intro j u hu; rw [World.cell?_alloc_lt _ _ _ (by rw [addr_add]; exact hbW)]; exact HNW.out j u hu
    case c2 => exact cellsL_plain _
    case c3 => unfold maxLen; omega
    case c4 => omega
    case c5 => simp
    intro v1 w1 own1 grow1 _
    have hb2 : Below W1.heap.size W1 w1 := ((Below.refl _ W1).alloc (Nat.le_refl _) (.cells #[] 39)).grown grow1 (by simp) (own_block hown0)
    have own2 : w1.ownsRow W1.heap.size 39 3 v1 rs.length (cellsL rs) := by simpa using own1
    obtain ⟨va, vc, rfl, hvc⟩ := own_slice own2
    go_wp2
    go_ret
    exact ⟨va, vc, by rw [HF.out]; rfl, by rw [HF.out]; exact own_mono own2 hW1.size, by rw [HF.out]; exact hvc, hW1.trans (hb2.mono hW1.size)⟩
end Go.Proofs.YtclhjgcapalniaaDoor
