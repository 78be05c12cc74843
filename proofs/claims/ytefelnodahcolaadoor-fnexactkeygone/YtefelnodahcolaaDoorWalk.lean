/-
  Contracts of the program's (*node).walk, below and find: the descendants of a node are gone over in preorder; find gives the first one with a number. Conditions: the nodes lie in memory as treeOf makes them.
-/
import Derived.Test.YtefelnodahcolaaDoorTreeOf
import Derived.RangeFuncNested
import Derived.RangeFuncBound
import Derived.RangeFuncCalls
import Derived.RangeFuncLeaves
import Derived.RangeFuncFrom
import Derived.Shelf.Abstract
import Derived.Shelf.RegionOpen
import Derived.OwnWalkIn
import Derived.TacticsInMore
import Derived.LoopNIn
import Derived.LoopIn
namespace Go.Proofs.YtefelnodahcolaaDoor
open Go.ChangeShapes Go.WideShapes Go.ChangeAt Go.RowKit Go.Joins Go.Shelf

attribute [local go_sem] Oper.semAt_some

/-- The places s, s + 1 and so on, k of them. -/
def seg (m : Nat) : Nat → Nat → List (Fin m)
  | _, 0 => []
  | s, k + 1 => (if h : s < m then [⟨s, h⟩] else []) ++ seg m (s + 1) k
theorem seg_add (m : Nat) : ∀ a s b, seg m s (a + b) = seg m s a ++ seg m (s + a) b
  | 0, s, b => by simp [seg]
  | a + 1, s, b => by
    rw [show a + 1 + b = (a + b) + 1 by omega, seg, seg, seg_add m a (s + 1) b, List.append_assoc, show s + 1 + a = s + (a + 1) by omega]
theorem seg_len (m : Nat) : ∀ k s, s + k ≤ m → (seg m s k).length = k
  | 0, s, _ => rfl
  | k + 1, s, h => by
    have := seg_len m k (s + 1) (by omega)
    rw [seg, dif_pos (show s < m by omega), List.length_append, this]; simp; omega
theorem seg_one (m s : Nat) (h : s < m) : seg m s 1 = [⟨s, h⟩] := by simp [seg, h]

def ptrLeft (n₀ : Nat) (v : Value) : Nat := match v with
  | .pointer (some a) => n₀ - a.block
  | _ => 0
/-- The nodes lie below block n₀. -/
def NodesB (n₀ : Nat) (w : World) (nb : Nat → Nat) (rs : List RowD) (m : Nat) : Prop := Nodes w nb rs m ∧ ∀ i, i < m → nb i < n₀
theorem NodesB.below {n₀ : Nat} {w w' : World} {nb : Nat → Nat} {rs : List RowD} {m : Nat} (h : NodesB n₀ w nb rs m) (hb : Below n₀ w w') : NodesB n₀ w' nb rs m :=
  ⟨⟨fun i hi => by rw [hb.block _ (h.2 i hi)]; exact h.1.blk i hi, h.1.inj⟩, h.2⟩
theorem room_none {F : Fence} (hd : F.depth = none) (k : Nat) : F.room k := fun d h => by rw [hd] at h; cases h
theorem yield_any {F : Fence} (hd : F.depth = none) {m : Nat} (m' : Nat) {P : Program} {l : Nat} {args : Array Value} {W : World} {R : Ending → World → Prop} (h : YieldAt F m P l args W R) : YieldAt F m' P l args W R := by
  obtain ⟨fn, tmps, assign, body, hy, hR⟩ := h
  exact ⟨fn, tmps, assign, body, hy, hR.1, fun c cs _ => hR.2 c cs (room_none hd _)⟩

/-- The pointer to the child at place c, if there is one ahead of place e. -/
def kidP (nb : Nat → Nat) (c e : Nat) : Option Addr := if c < e then some ⟨nb c, 0, none⟩ else none
theorem kidP_yes {nb : Nat → Nat} {c e : Nat} (h : c < e) : kidP nb c e = some ⟨nb c, 0, none⟩ := if_pos h
theorem kidP_no {nb : Nat → Nat} {c e : Nat} (h : ¬ c < e) : kidP nb c e = none := if_neg h
theorem padr_kid {nb : Nat → Nat} {c e : Nat} : padr nb (if c < e then some c else none) = kidP nb c e := by
  unfold kidP; split <;> rfl
theorem left_kid {n₀ : Nat} {nb : Nat → Nat} {c e : Nat} : ptrLeft n₀ (.pointer (kidP nb c e)) = if c < e then n₀ - nb c else 0 := by
  unfold kidP; split <;> rfl
def Walked {m : Nat} (n₀ : Nat) (J Jx : List (Fin m) → World → Prop) (pre xs : List (Fin m)) (W : World) (e : Ending) (W' : World) : Prop :=
  (e = .returned (.bool true) ∧ J (pre ++ xs) W' ∧ Below n₀ W W') ∨ (e = .returned (.bool false) ∧ ∃ q, q <+: xs ∧ Jx (pre ++ q) W')

set_option maxRecDepth 100000 in
set_option maxHeartbeats 2000000 in
theorem walkAll_in (F : Fence) (hd : F.depth = none) (hw : F.fn 76) (hro : F.round = none) (l n₀ N : Nat) (nb : Nat → Nat) (rs : List RowD) (m : Nat) (hD : Deps (dp rs) m) (J Jx : List (Fin m) → World → Prop)
    (hY : ∀ k pre (x : Fin m) W, J pre W → pre.length < N → YieldAt F k Tryd.prog l #[.pointer (some ⟨nb x.1, 0, none⟩)] W fun e W' =>
      (e = .returned (.bool true) ∧ J (pre ++ [x]) W' ∧ Below n₀ W W') ∨ (e = .returned (.bool false) ∧ Jx (pre ++ [x]) W')) (z : Nat) :
    ∀ (i n : Nat) (pre : List (Fin m)) (W : World), i < m → en (dp rs) m i - i ≤ z → NodesB n₀ W nb rs m → J pre W → pre.length + (en (dp rs) m i - (i + 1)) ≤ N →
      CallsIn F n Tryd.prog 76 #[.pointer (some ⟨nb i, 0, none⟩), .func (.yield l) #[] #[]] W (Walked n₀ J Jx pre (seg m (i + 1) (en (dp rs) m i - (i + 1))) W) := by
  induction z with
  | zero =>
    intro i n pre W hi hz
    have := (en_spec (D := dp rs) hi).1
    omega
  | succ z ih =>
    intro i n pre W hi hz hN hJ hlen
    have IH := Lib.hid ih
    have HY := Lib.hid hY
    clear ih hY
    obtain ⟨e1, e2, e3, e4⟩ := en_spec (D := dp rs) hi
    have hfi := fi_eq hD hi
    have hdd : ∀ k : Nat, (F.depth.isSome = true → 1 ≤ k) := fun k h => by rw [hd] at h; cases h
    obtain ⟨l3, l4, l5, l6, l7⟩ := hN.1.links hi
    rw [hfi, padr_kid] at l6
    clear hfi l3 l4 l5 l7
    refine callsIn_of_wp Tryd.func76 rfl hw ?_ hro
    simp only [Tryd.ntmps76, List.size_toArray, List.length_cons, List.length_nil, Nat.reduceAdd, Nat.reduceSub, Array.replicate_succ, Array.replicate_zero, List.push_toArray, List.append_toArray, List.nil_append, List.cons_append]
    gi_wp2
    gi_loopw [5] (fun p wr => ∃ c : Nat, i + 1 ≤ c ∧ c ≤ en (dp rs) m i ∧ p = .pointer (kidP nb c (en (dp rs) m i)) ∧ Hid (c < en (dp rs) m i → par (dp rs) c = i) ∧ NodesB n₀ wr nb rs m ∧ J (pre ++ seg m (i + 1) (c - (i + 1))) wr ∧ Below n₀ W wr) (fun p _ => ptrLeft n₀ p)
    case atStart =>
      refine ⟨i + 1, Nat.le_refl _, e1, rfl, fun hc => ?_, hN, by rw [Nat.sub_self]; simpa [seg] using hJ, Below.refl _ _⟩
      exact (isKid_iff.1 ((kid_iff hD hi (by omega)).2 ⟨by omega, hc, by have s := hD.step (i + 1) (by omega) (by omega); rw [Nat.add_sub_cancel] at s; have := e3 (i + 1) (by omega) hc; omega⟩)).2
    case round =>
      obtain ⟨c, hc1, hc2, rfl, hpar, hNr, hJr, hbr⟩ := hrel
      by_cases hlt : c < en (dp rs) m i
      · rw [kidP_yes hlt]
        have hcm : c < m := by omega
        have hp := hpar.out hlt
        obtain ⟨f1, f2, f3, f4⟩ := en_spec (D := dp rs) hcm
        have hek : en (dp rs) m c ≤ en (dp rs) m i := by have := en_kid hD (show 1 ≤ c by omega) hcm; rw [hp] at this; exact this
        have hsl : (seg m (i + 1) (c - (i + 1))).length = c - (i + 1) := seg_len m _ _ (by omega)
        have hs1 : pre ++ seg m (i + 1) (c - (i + 1)) ++ [⟨c, hcm⟩] = pre ++ seg m (i + 1) (c + 1 - (i + 1)) := by
          rw [show c + 1 - (i + 1) = (c - (i + 1)) + 1 by omega, seg_add, show i + 1 + (c - (i + 1)) = c by omega, seg_one m c hcm, List.append_assoc]
        have hs2 : pre ++ seg m (i + 1) (c + 1 - (i + 1)) ++ seg m (c + 1) (en (dp rs) m c - (c + 1)) = pre ++ seg m (i + 1) (en (dp rs) m c - (i + 1)) := by
          rw [show en (dp rs) m c - (i + 1) = (c + 1 - (i + 1)) + (en (dp rs) m c - (c + 1)) by omega, seg_add, show i + 1 + (c + 1 - (i + 1)) = c + 1 by omega, List.append_assoc]
        obtain ⟨fn, tmps, assign, body, hy, hR⟩ := HY.out (n - 1) _ ⟨c, hcm⟩ wr hJr (by simp [hsl]; omega)
        rw [hs1] at hR
        have HS := Lib.hid hs2
        have HP := Lib.hid hp
        have HL := Lib.hid hsl
        clear hs1 hs2 hp hsl
        dsimp only at hy
        gi_wp2
        refine hR.mono ?_
        clear hR hy
        rintro e W2 (⟨rfl, hJ2, hb2⟩ | ⟨rfl, hx2⟩)
        · have hN2 := hNr.below hb2
          have hb2' := hbr.trans hb2
          gi_wp2_with fail
          refine (IH.out c (n - 1) _ W2 hcm (by omega) hN2 hJ2 (by rw [List.length_append, seg_len m _ _ (by omega)]; omega)).mono ?_
          rintro e W3 (⟨rfl, hJ3, hb3⟩ | ⟨rfl, q, hq, hx3⟩)
          · have hN3 := hN2.below hb3
            have l5 := (hN3.1.links hcm).2.2.1
            have enx : padr nb (nxO rs m c) = kidP nb (en (dp rs) m c) (en (dp rs) m i) := by
              unfold nxO; rw [if_neg (by omega), nx_eq hD (by omega) hcm, HP.out, padr_kid]
            rw [enx] at l5
            rw [HS.out] at hJ3
            clear enx
            have hnx : Hid (en (dp rs) m c < en (dp rs) m i → par (dp rs) (en (dp rs) m c) = i) := fun h => by
              have d1 := par_dep hD (show 1 ≤ c by omega) hcm
              rw [HP.out] at d1
              have d2 := f4 (by omega)
              have d3 := e3 _ (by omega) h
              exact (isKid_iff.1 ((kid_iff hD hi (by omega)).2 ⟨by omega, h, by omega⟩)).2
            have hms : ptrLeft n₀ (.pointer (kidP nb (en (dp rs) m c) (en (dp rs) m i))) < ptrLeft n₀ (.pointer (some ⟨nb c, 0, none⟩)) := by
              have h1 := hN3.2 c hcm
              rw [left_kid]
              show _ < n₀ - nb c
              split
              · have h2 := hN3.1.inj c (en (dp rs) m c) (by omega) (by omega)
                have h3 := hN3.2 (en (dp rs) m c) (by omega)
                omega
              · omega
            gi_wp2
            exact ⟨⟨en (dp rs) m c, by omega, hek, rfl, hnx, hN3, hJ3, hb2'.trans hb3⟩, hms⟩
          · have hpf : seg m (i + 1) (c + 1 - (i + 1)) ++ q <+: seg m (i + 1) (en (dp rs) m i - (i + 1)) := by
              obtain ⟨r, hr⟩ := hq
              refine ⟨r ++ seg m (en (dp rs) m c) (en (dp rs) m i - en (dp rs) m c), ?_⟩
              rw [show en (dp rs) m i - (i + 1) = (c + 1 - (i + 1)) + ((en (dp rs) m c - (c + 1)) + (en (dp rs) m i - en (dp rs) m c)) by omega, seg_add, seg_add, show i + 1 + (c + 1 - (i + 1)) = c + 1 by omega, ← hr, show c + 1 + (en (dp rs) m c - (c + 1)) = en (dp rs) m c by omega]
              simp only [List.append_assoc]
            gi_wp2
            go_ret
            exact .inr ⟨rfl, _, hpf, by rw [← List.append_assoc]; exact hx3⟩
        · have hpf : seg m (i + 1) (c + 1 - (i + 1)) <+: seg m (i + 1) (en (dp rs) m i - (i + 1)) := by
            refine ⟨seg m (c + 1) (en (dp rs) m i - (c + 1)), ?_⟩
            rw [show en (dp rs) m i - (i + 1) = (c + 1 - (i + 1)) + (en (dp rs) m i - (c + 1)) by omega, seg_add, show i + 1 + (c + 1 - (i + 1)) = c + 1 by omega]
          gi_wp2
          go_ret
          exact .inr ⟨rfl, _, hpf, hx2⟩
      · rw [kidP_no hlt]
        obtain rfl : c = en (dp rs) m i := by omega
        gi_wp2
        go_ret
        exact .inl ⟨rfl, hJr, hbr⟩
end Go.Proofs.YtefelnodahcolaaDoor
