/-
  Joined texts, each with its own head: what it holds, and its conditions.
-/
import Derived.Test.YtclhjgcapalniaaDoorGA
import Derived.Test.YtclhjgcapalniaaDoorGB
import Derived.Handy

/-
  Plain mathematics of forests: first child and next sibling, preorder with depths, taking a node out, putting one in. Nothing of the program is named here. Conditions: none beyond the lemmas' own premises.
-/
namespace Go.Proofs.YtclhjgcapalniaaDoor

inductive Fo where
  | nil : Fo
  | cons (x : Nat) (k r : Fo) : Fo
def Fo.root : Fo → Option Nat
  | .nil => none
  | .cons x _ _ => some x
/-- The nodes in preorder, each with its depth. -/
def Fo.pre : Int → Fo → List (Nat × Int)
  | _, .nil => []
  | d, .cons x k r => (x, d) :: (k.pre (d + 1) ++ r.pre d)
def Fo.nodes : Fo → List Nat
  | .nil => []
  | .cons x k r => x :: (k.nodes ++ r.nodes)
structure Links where
  up : Nat → Option Nat
  nx : Nat → Option Nat
  fi : Nat → Option Nat
/-- The links say the forest, whose roots are the children of p. -/
def Fo.Ok (L : Links) : Nat → Fo → Prop
  | _, .nil => True
  | p, .cons x k r => L.up x = some p ∧ L.fi x = k.root ∧ L.nx x = r.root ∧ k.Ok L x ∧ r.Ok L p

theorem Fo.pre_nodes : ∀ (f : Fo) (d : Int), (f.pre d).map (·.1) = f.nodes
  | .nil, d => rfl
  | .cons x k r, d => by simp [Fo.pre, Fo.nodes, Fo.pre_nodes k, Fo.pre_nodes r]
theorem Fo.root_mem : ∀ {f : Fo} {x : Nat}, f.root = some x → x ∈ f.nodes
  | .nil, x, h => by cases h
  | .cons y k r, x, h => by cases h; simp [Fo.nodes]
theorem Fo.Ok.congr {L L' : Links} : ∀ {f : Fo} {p : Nat}, f.Ok L p → (∀ x ∈ f.nodes, L'.up x = L.up x ∧ L'.fi x = L.fi x ∧ L'.nx x = L.nx x) → f.Ok L' p
  | .nil, p, _, _ => trivial
  | .cons x k r, p, ⟨h1, h2, h3, h4, h5⟩, h => by
    obtain ⟨a, b, c⟩ := h x (by simp [Fo.nodes])
    exact ⟨a.trans h1, b.trans h2, c.trans h3, h4.congr (fun y hy => h y (by simp [Fo.nodes, hy])), h5.congr (fun y hy => h y (by simp [Fo.nodes, hy]))⟩
/-- Where the links of a forest's nodes lead: into the forest. -/
theorem Fo.Ok.into {L : Links} : ∀ {f : Fo} {p : Nat}, f.Ok L p → ∀ x ∈ f.nodes, (∀ y, L.fi x = some y → y ∈ f.nodes) ∧ (∀ y, L.nx x = some y → y ∈ f.nodes)
  | .nil, p, _, x, hx => by simp [Fo.nodes] at hx
  | .cons z k r, p, ⟨h1, h2, h3, h4, h5⟩, x, hx => by
    simp only [Fo.nodes, List.mem_cons, List.mem_append] at hx ⊢
    rcases hx with rfl | hx | hx
    · exact ⟨fun y hy => .inr (.inl (Fo.root_mem (h2.symm.trans hy))), fun y hy => .inr (.inr (Fo.root_mem (h3.symm.trans hy)))⟩
    · have := h4.into x hx
      exact ⟨fun y hy => .inr (.inl (this.1 y hy)), fun y hy => .inr (.inl (this.2 y hy))⟩
    · have := h5.into x hx
      exact ⟨fun y hy => .inr (.inr (this.1 y hy)), fun y hy => .inr (.inr (this.2 y hy))⟩
/-- The parent of a forest's node is the forest's own, or one of its nodes. -/
theorem Fo.Ok.ups {L : Links} : ∀ {f : Fo} {p : Nat}, f.Ok L p → ∀ x ∈ f.nodes, L.up x = some p ∨ ∃ y ∈ f.nodes, L.up x = some y
  | .nil, p, _, x, hx => by simp [Fo.nodes] at hx
  | .cons z k r, p, ⟨h1, h2, h3, h4, h5⟩, x, hx => by
    simp only [Fo.nodes, List.mem_cons, List.mem_append] at hx ⊢
    rcases hx with rfl | hx | hx
    · exact .inl h1
    · rcases h4.ups x hx with h | ⟨y, hy, h⟩
      · exact .inr ⟨z, .inl rfl, h⟩
      · exact .inr ⟨y, .inr (.inl hy), h⟩
    · rcases h5.ups x hx with h | ⟨y, hy, h⟩
      · exact .inl h
      · exact .inr ⟨y, .inr (.inr hy), h⟩
theorem Fo.pre_shift : ∀ (f : Fo) (d e : Int), f.pre (d + e) = (f.pre d).map (fun q => (q.1, q.2 + e))
  | .nil, d, e => rfl
  | .cons x k r, d, e => by
    simp only [Fo.pre, List.map_cons, List.map_append]
    rw [show d + e + 1 = (d + 1) + e by omega, Fo.pre_shift k, Fo.pre_shift r]
theorem Fo.pre_ge : ∀ (f : Fo) (d : Int) q, q ∈ f.pre d → d ≤ q.2
  | .nil, d, q, h => by simp [Fo.pre] at h
  | .cons x k r, d, q, h => by
    simp only [Fo.pre, List.mem_cons, List.mem_append] at h
    rcases h with rfl | h | h
    · exact Int.le_refl _
    · have := Fo.pre_ge k (d + 1) q h; omega
    · exact Fo.pre_ge r d q h
/-- The first one of what follows is at depth d at most. -/
def LeHead (B : List (Nat × Int)) (d : Int) : Prop := ∀ q, B.head? = some q → q.2 ≤ d
theorem leHead_pre (f : Fo) (d : Int) : LeHead (f.pre d) d := by
  intro q h
  cases f with
  | nil => simp [Fo.pre] at h
  | cons x k r => simp [Fo.pre] at h; subst h; exact Int.le_refl _
theorem leHead_app {A B : List (Nat × Int)} {d : Int} (h1 : LeHead A d) (h2 : LeHead B d) : LeHead (A ++ B) d := by
  intro q h
  cases A with
  | nil => exact h2 q h
  | cons a A => exact h1 q (by simpa using h)
theorem leHead_mono {B : List (Nat × Int)} {d e : Int} (h : LeHead B d) (he : d ≤ e) : LeHead B e := fun q hq => Int.le_trans (h q hq) he

/-! ### where a node stands -/
/-- Node n stands at depth dn behind A, its subtree is k, and B follows. -/
structure Stands (f : Fo) (d : Int) (n : Nat) (A : List (Nat × Int)) (dn : Int) (k : Fo) (B : List (Nat × Int)) : Prop where
  eq : f.pre d = A ++ ((n, dn) :: (k.pre (dn + 1) ++ B))
  low : d ≤ dn
  head : LeHead B dn
theorem Fo.stands {L : Links} : ∀ {f : Fo} {p : Nat} (d : Int), f.Ok L p → ∀ n ∈ f.nodes, ∃ A dn k B, Stands f d n A dn k B ∧ k.Ok L n ∧ L.fi n = k.root ∧ (∀ y ∈ k.nodes, y ∈ f.nodes)
  | .nil, p, d, _, n, hn => by simp [Fo.nodes] at hn
  | .cons x k r, p, d, ⟨h1, h2, h3, h4, h5⟩, n, hn => by
    simp only [Fo.nodes, List.mem_cons, List.mem_append] at hn ⊢
    by_cases e : n = x
    · subst e
      exact ⟨[], d, k, r.pre d, ⟨rfl, Int.le_refl _, leHead_pre r d⟩, h4, h2, fun y hy => .inr (.inl hy)⟩
    · rcases hn with hn | hn | hn
      · exact absurd hn e
      · obtain ⟨A, dn, kn, B, ⟨a, b, c⟩, o, fo, inn⟩ := Fo.stands (d + 1) h4 n hn
        refine ⟨(x, d) :: A, dn, kn, B ++ r.pre d, ⟨?_, by omega, leHead_app c (leHead_mono (leHead_pre r d) (by omega))⟩, o, fo, fun y hy => .inr (.inl (inn y hy))⟩
        simp [Fo.pre, a]
      · obtain ⟨A, dn, kn, B, ⟨a, b, c⟩, o, fo, inn⟩ := Fo.stands d h5 n hn
        refine ⟨(x, d) :: (k.pre (d + 1) ++ A), dn, kn, B, ⟨?_, b, c⟩, o, fo, fun y hy => .inr (.inr (inn y hy))⟩
        simp [Fo.pre, a]

/-! ### taking a node out -/
def Fo.cut (n : Nat) : Fo → Fo
  | .nil => .nil
  | .cons x k r => if x = n then r else .cons x (k.cut n) (r.cut n)
/-- Whatever led to n leads to what was behind it. -/
def cutL (L : Links) (n : Nat) : Links := ⟨L.up, fun y => if L.nx y = some n then L.nx n else L.nx y, fun y => if L.fi y = some n then L.nx n else L.fi y⟩
theorem Fo.cut_not {n : Nat} : ∀ {f : Fo}, n ∉ f.nodes → f.cut n = f
  | .nil, _ => rfl
  | .cons x k r, h => by
    simp only [Fo.nodes, List.mem_cons, List.mem_append, not_or] at h
    rw [Fo.cut, if_neg (fun e => h.1 e.symm), Fo.cut_not h.2.1, Fo.cut_not h.2.2]
theorem cutL_same {L : Links} {n : Nat} {f : Fo} {p : Nat} (h : f.Ok L p) (hn : n ∉ f.nodes) : f.Ok (cutL L n) p := by
  refine h.congr fun x hx => ⟨rfl, ?_, ?_⟩
  · exact if_neg fun e => hn ((h.into x hx).1 n e)
  · exact if_neg fun e => hn ((h.into x hx).2 n e)
theorem Fo.cut_ok {L : Links} {n : Nat} : ∀ {f : Fo} {p : Nat}, f.Ok L p → f.nodes.Nodup → (f.cut n).Ok (cutL L n) p ∧ (f.cut n).root = (if f.root = some n then L.nx n else f.root)
  | .nil, p, _, _ => ⟨trivial, rfl⟩
  | .cons x k r, p, ⟨h1, h2, h3, h4, h5⟩, hd => by
    simp only [Fo.nodes, List.nodup_cons, List.nodup_append, List.mem_append, not_or] at hd
    obtain ⟨⟨d1, d2⟩, d3, d4, d5⟩ := hd
    by_cases e : x = n
    · subst e
      rw [Fo.cut, if_pos rfl]
      exact ⟨cutL_same h5 d2, by simp [Fo.root, h3]⟩
    · rw [Fo.cut, if_neg e]
      obtain ⟨k1, k2⟩ := Fo.cut_ok (n := n) h4 d3
      obtain ⟨r1, r2⟩ := Fo.cut_ok (n := n) h5 d4
      refine ⟨⟨h1, ?_, ?_, k1, r1⟩, ?_⟩
      · rw [k2]; simp only [cutL, h2]
      · rw [r2]; simp only [cutL, h3]
      · simp [Fo.root, e]
theorem Fo.cut_nodes {n : Nat} : ∀ {f : Fo}, ∀ y ∈ (f.cut n).nodes, y ∈ f.nodes
  | .nil, y, h => h
  | .cons x k r, y, h => by
    rw [Fo.cut] at h
    simp only [Fo.nodes, List.mem_cons, List.mem_append] at h ⊢
    split at h
    · exact .inr (.inr h)
    · simp only [Fo.nodes, List.mem_cons, List.mem_append] at h
      rcases h with h | h | h
      · exact .inl h
      · exact .inr (.inl (Fo.cut_nodes y h))
      · exact .inr (.inr (Fo.cut_nodes y h))
theorem Fo.cut_pre {L : Links} {n : Nat} : ∀ {f : Fo} {p : Nat} (d : Int), f.Ok L p → f.nodes.Nodup → n ∈ f.nodes → ∃ A dn k B, Stands f d n A dn k B ∧ (f.cut n).pre d = A ++ B ∧ k.Ok L n ∧ L.fi n = k.root ∧ (∀ y ∈ k.nodes, y ∉ (f.cut n).nodes) ∧ n ∉ (f.cut n).nodes
  | .nil, p, d, _, _, hn => by simp [Fo.nodes] at hn
  | .cons x k r, p, d, ⟨h1, h2, h3, h4, h5⟩, hd, hn => by
    simp only [Fo.nodes, List.nodup_cons, List.nodup_append, List.mem_append, not_or] at hd
    obtain ⟨⟨d1, d2⟩, d3, d4, d5⟩ := hd
    simp only [Fo.nodes, List.mem_cons, List.mem_append] at hn
    by_cases e : x = n
    · subst e
      refine ⟨[], d, k, r.pre d, ⟨rfl, Int.le_refl _, leHead_pre r d⟩, ?_, h4, h2, ?_, ?_⟩
      · rw [Fo.cut, if_pos rfl]; rfl
      · intro y hy; rw [Fo.cut, if_pos rfl]; exact fun hr => d5 y hy y hr rfl
      · rw [Fo.cut, if_pos rfl]; exact d2
    · rw [Fo.cut, if_neg e]
      rcases hn with hn | hn | hn
      · exact absurd hn.symm e
      · have nr : n ∉ r.nodes := fun h => d5 n hn n h rfl
        rw [Fo.cut_not nr]
        obtain ⟨A, dn, kn, B, ⟨a, b, c⟩, g, o, fo, inn, nn⟩ := Fo.cut_pre (d + 1) h4 d3 hn
        have sub : ∀ y ∈ kn.nodes, y ∈ k.nodes := fun y hy => by
          have : y ∈ (k.pre (d + 1)).map (·.1) := by rw [a]; simp [Fo.pre_nodes, hy]
          rwa [Fo.pre_nodes] at this
        refine ⟨(x, d) :: A, dn, kn, B ++ r.pre d, ⟨?_, by omega, leHead_app c (leHead_mono (leHead_pre r d) (by omega))⟩, ?_, o, fo, fun y hy => ?_, ?_⟩
        · simp [Fo.pre, a]
        · simp [Fo.pre, g]
        · simp only [Fo.nodes, List.mem_cons, List.mem_append, not_or]
          exact ⟨fun e => d1 (e ▸ sub y hy), inn y hy, fun hr => d5 y (sub y hy) y hr rfl⟩
        · simp only [Fo.nodes, List.mem_cons, List.mem_append, not_or]
          exact ⟨fun q => e q.symm, nn, nr⟩
      · have nk : n ∉ k.nodes := fun h => d5 n h n hn rfl
        rw [Fo.cut_not nk]
        obtain ⟨A, dn, kn, B, ⟨a, b, c⟩, g, o, fo, inn, nn⟩ := Fo.cut_pre d h5 d4 hn
        have sub : ∀ y ∈ kn.nodes, y ∈ r.nodes := fun y hy => by
          have : y ∈ (r.pre d).map (·.1) := by rw [a]; simp [Fo.pre_nodes, hy]
          rwa [Fo.pre_nodes] at this
        refine ⟨(x, d) :: (k.pre (d + 1) ++ A), dn, kn, B, ⟨?_, b, c⟩, ?_, o, fo, fun y hy => ?_, ?_⟩
        · simp [Fo.pre, a]
        · simp [Fo.pre, g]
        · simp only [Fo.nodes, List.mem_cons, List.mem_append, not_or]
          exact ⟨fun e => d2 (e ▸ sub y hy), fun hk => d5 y hk y (sub y hy) rfl, inn y hy⟩
        · simp only [Fo.nodes, List.mem_cons, List.mem_append, not_or]
          exact ⟨fun q => e q.symm, nk, nn⟩

/-! ### putting a node in -/
/-- Node n with the subtree s as the first child of q. -/
def Fo.insF : Fo → Nat → Nat → Fo → Fo
  | .nil, _, _, _ => .nil
  | .cons x k r, q, n, s => if x = q then .cons x (.cons n s k) r else .cons x (k.insF q n s) (r.insF q n s)
def insFL (L : Links) (q n : Nat) : Links := ⟨fun y => if y = n then some q else L.up y, fun y => if y = n then L.fi q else L.nx y, fun y => if y = q then some n else L.fi y⟩
/-- Node n with the subtree s right behind a. -/
def Fo.insA : Fo → Nat → Nat → Fo → Fo
  | .nil, _, _, _ => .nil
  | .cons x k r, a, n, s => if x = a then .cons x k (.cons n s r) else .cons x (k.insA a n s) (r.insA a n s)
def insAL (L : Links) (q a n : Nat) : Links := ⟨fun y => if y = n then some q else L.up y, fun y => if y = n then L.nx a else if y = a then some n else L.nx y, L.fi⟩
theorem Fo.insF_root (q n : Nat) (s : Fo) : ∀ f : Fo, (f.insF q n s).root = f.root
  | .nil => rfl
  | .cons x k r => by rw [Fo.insF]; split <;> rfl
theorem Fo.insA_root (q n : Nat) (s : Fo) : ∀ f : Fo, (f.insA q n s).root = f.root
  | .nil => rfl
  | .cons x k r => by rw [Fo.insA]; split <;> rfl
theorem Fo.insF_not {q n : Nat} {s : Fo} : ∀ {f : Fo}, q ∉ f.nodes → f.insF q n s = f
  | .nil, _ => rfl
  | .cons x k r, h => by
    simp only [Fo.nodes, List.mem_cons, List.mem_append, not_or] at h
    rw [Fo.insF, if_neg (fun e => h.1 e.symm), Fo.insF_not h.2.1, Fo.insF_not h.2.2]
theorem Fo.insA_not {q n : Nat} {s : Fo} : ∀ {f : Fo}, q ∉ f.nodes → f.insA q n s = f
  | .nil, _ => rfl
  | .cons x k r, h => by
    simp only [Fo.nodes, List.mem_cons, List.mem_append, not_or] at h
    rw [Fo.insA, if_neg (fun e => h.1 e.symm), Fo.insA_not h.2.1, Fo.insA_not h.2.2]
theorem insFL_same {L : Links} {q n : Nat} {f : Fo} {p : Nat} (h : f.Ok L p) (hn : n ∉ f.nodes) (hq : q ∉ f.nodes) : f.Ok (insFL L q n) p := by
  refine h.congr fun x hx => ?_
  have e1 : x ≠ n := fun e => hn (e ▸ hx)
  have e2 : x ≠ q := fun e => hq (e ▸ hx)
  simp [insFL, e1, e2]
theorem Fo.insF_ok {L : Links} {q n : Nat} {s : Fo} (hs : s.Ok L n) (hsf : L.fi n = s.root) (hns : n ∉ s.nodes) (hqs : q ∉ s.nodes) (hqn : q ≠ n) :
    ∀ {f : Fo} {p : Nat}, f.Ok L p → f.nodes.Nodup → n ∉ f.nodes → (f.insF q n s).Ok (insFL L q n) p
  | .nil, p, _, _, _ => trivial
  | .cons x k r, p, ⟨h1, h2, h3, h4, h5⟩, hd, hn => by
    simp only [Fo.nodes, List.nodup_cons, List.nodup_append, List.mem_append, not_or] at hd
    obtain ⟨⟨d1, d2⟩, d3, d4, d5⟩ := hd
    simp only [Fo.nodes, List.mem_cons, List.mem_append, not_or] at hn
    have xn : x ≠ n := fun e => hn.1 e.symm
    have nq : n ≠ q := fun e => hqn e.symm
    rw [Fo.insF]
    split
    · rename_i e
      subst e
      refine ⟨by simp [insFL, xn, h1], by simp [insFL, Fo.root], by simp [insFL, xn, h3], ⟨by simp [insFL], by simp [insFL, nq, hsf], by simp [insFL, h2], ?_, ?_⟩, ?_⟩
      · exact insFL_same hs hns hqs
      · exact insFL_same h4 hn.2.1 d1
      · exact insFL_same h5 hn.2.2 d2
    · rename_i e
      exact ⟨by simp [insFL, xn, h1], by simp [insFL, e, h2, Fo.insF_root], by simp [insFL, xn, h3, Fo.insF_root], Fo.insF_ok hs hsf hns hqs hqn h4 d3 hn.2.1, Fo.insF_ok hs hsf hns hqs hqn h5 d4 hn.2.2⟩
theorem insAL_same {L : Links} {q a n : Nat} {f : Fo} {p : Nat} (h : f.Ok L p) (hn : n ∉ f.nodes) (ha : a ∉ f.nodes) : f.Ok (insAL L q a n) p := by
  refine h.congr fun x hx => ?_
  have e1 : x ≠ n := fun e => hn (e ▸ hx)
  have e2 : x ≠ a := fun e => ha (e ▸ hx)
  simp [insAL, e1, e2]
theorem Fo.insA_ok {L : Links} {q a n : Nat} {s : Fo} (hs : s.Ok L n) (hsf : L.fi n = s.root) (hns : n ∉ s.nodes) (has : a ∉ s.nodes) (han : a ≠ n) (hup : L.up a = some q) :
    ∀ {f : Fo} {p : Nat}, f.Ok L p → f.nodes.Nodup → n ∉ f.nodes → (f.insA a n s).Ok (insAL L q a n) p
  | .nil, p, _, _, _ => trivial
  | .cons x k r, p, ⟨h1, h2, h3, h4, h5⟩, hd, hn => by
    simp only [Fo.nodes, List.nodup_cons, List.nodup_append, List.mem_append, not_or] at hd
    obtain ⟨⟨d1, d2⟩, d3, d4, d5⟩ := hd
    simp only [Fo.nodes, List.mem_cons, List.mem_append, not_or] at hn
    have xn : x ≠ n := fun e => hn.1 e.symm
    have na : n ≠ a := fun e => han e.symm
    rw [Fo.insA]
    split
    · rename_i e
      subst e
      have hpq : p = q := Option.some.inj (h1.symm.trans hup)
      refine ⟨by simp [insAL, xn, h1], h2, by simp [insAL, xn, Fo.root], insAL_same h4 hn.2.1 d1, ⟨by simp [insAL, hpq], hsf, by simp [insAL, h3], ?_, ?_⟩⟩
      · exact insAL_same hs hns has
      · exact insAL_same h5 hn.2.2 d2
    · rename_i e
      exact ⟨by simp [insAL, xn, h1], by rw [Fo.insA_root]; exact h2, by simp [insAL, xn, e, h3, Fo.insA_root], Fo.insA_ok hs hsf hns has han hup h4 d3 hn.2.1, Fo.insA_ok hs hsf hns has han hup h5 d4 hn.2.2⟩
theorem Fo.insF_pre {L : Links} {q n : Nat} {s : Fo} : ∀ {f : Fo} {p : Nat} (d : Int), f.Ok L p → f.nodes.Nodup → q ∈ f.nodes → ∃ A dq B, f.pre d = A ++ ((q, dq) :: B) ∧ (f.insF q n s).pre d = A ++ ((q, dq) :: ((n, dq + 1) :: (s.pre (dq + 1 + 1) ++ B)))
  | .nil, p, d, _, _, hn => by simp [Fo.nodes] at hn
  | .cons x k r, p, d, ⟨h1, h2, h3, h4, h5⟩, hd, hn => by
    simp only [Fo.nodes, List.nodup_cons, List.nodup_append, List.mem_append, not_or] at hd
    obtain ⟨⟨d1, d2⟩, d3, d4, d5⟩ := hd
    simp only [Fo.nodes, List.mem_cons, List.mem_append] at hn
    by_cases e : x = q
    · subst e
      refine ⟨[], d, k.pre (d + 1) ++ r.pre d, rfl, ?_⟩
      rw [Fo.insF, if_pos rfl]
      simp [Fo.pre]
    · rw [Fo.insF, if_neg e]
      rcases hn with hn | hn | hn
      · exact absurd hn.symm e
      · rw [Fo.insF_not (f := r) (fun h => d5 q hn q h rfl)]
        obtain ⟨A, dq, B, a, b⟩ := Fo.insF_pre (n := n) (s := s) (d + 1) h4 d3 hn
        exact ⟨(x, d) :: A, dq, B ++ r.pre d, by simp [Fo.pre, a], by simp [Fo.pre, b]⟩
      · rw [Fo.insF_not (f := k) (fun h => d5 q h q hn rfl)]
        obtain ⟨A, dq, B, a, b⟩ := Fo.insF_pre (n := n) (s := s) d h5 d4 hn
        exact ⟨(x, d) :: (k.pre (d + 1) ++ A), dq, B, by simp [Fo.pre, a], by simp [Fo.pre, b]⟩
theorem Fo.insA_pre {L : Links} {q n : Nat} {s : Fo} : ∀ {f : Fo} {p : Nat} (d : Int), f.Ok L p → f.nodes.Nodup → q ∈ f.nodes → ∃ A dq k B, Stands f d q A dq k B ∧ (f.insA q n s).pre d = A ++ ((q, dq) :: (k.pre (dq + 1) ++ ((n, dq) :: (s.pre (dq + 1) ++ B))))
  | .nil, p, d, _, _, hn => by simp [Fo.nodes] at hn
  | .cons x k r, p, d, ⟨h1, h2, h3, h4, h5⟩, hd, hn => by
    simp only [Fo.nodes, List.nodup_cons, List.nodup_append, List.mem_append, not_or] at hd
    obtain ⟨⟨d1, d2⟩, d3, d4, d5⟩ := hd
    simp only [Fo.nodes, List.mem_cons, List.mem_append] at hn
    by_cases e : x = q
    · subst e
      refine ⟨[], d, k, r.pre d, ⟨rfl, Int.le_refl _, leHead_pre r d⟩, ?_⟩
      rw [Fo.insA, if_pos rfl]
      simp [Fo.pre]
    · rw [Fo.insA, if_neg e]
      rcases hn with hn | hn | hn
      · exact absurd hn.symm e
      · rw [Fo.insA_not (f := r) (fun h => d5 q hn q h rfl)]
        obtain ⟨A, dq, kn, B, ⟨a, b, c⟩, g⟩ := Fo.insA_pre (n := n) (s := s) (d + 1) h4 d3 hn
        exact ⟨(x, d) :: A, dq, kn, B ++ r.pre d, ⟨by simp [Fo.pre, a], by omega, leHead_app c (leHead_mono (leHead_pre r d) (by omega))⟩, by simp [Fo.pre, g]⟩
      · rw [Fo.insA_not (f := k) (fun h => d5 q h q hn rfl)]
        obtain ⟨A, dq, kn, B, ⟨a, b, c⟩, g⟩ := Fo.insA_pre (n := n) (s := s) d h5 d4 hn
        exact ⟨(x, d) :: (k.pre (d + 1) ++ A), dq, kn, B, ⟨by simp [Fo.pre, a], b, c⟩, by simp [Fo.pre, g]⟩

/-! ### the forest of a sequence of depths -/
def ofD (D : Nat → Int) (m : Nat) : Nat → Nat → Nat → Fo
  | 0, _, _ => .nil
  | z + 1, s, e => if s < e then .cons s (ofD D m z (s + 1) (en D m s)) (ofD D m z (en D m s) e) else .nil
def linksD (D : Nat → Int) (m : Nat) : Links := ⟨fun i => if i = 0 then none else some (par D i), fun i => if i = 0 then none else nx D m i, fun i => fi D m i⟩
def upTo (D : Nat → Int) : Nat → Nat → List (Nat × Int)
  | _, 0 => []
  | s, k + 1 => (s, D s) :: upTo D (s + 1) k
theorem upTo_add (D : Nat → Int) : ∀ a s b, upTo D s (a + b) = upTo D s a ++ upTo D (s + a) b
  | 0, s, b => by simp [upTo]
  | a + 1, s, b => by
    rw [show a + 1 + b = (a + b) + 1 by omega, upTo, upTo, upTo_add D a (s + 1) b, show s + 1 + a = s + (a + 1) by omega]; rfl
theorem ofD_root (D : Nat → Int) (m z s e : Nat) (hz : e - s < z) : (ofD D m z s e).root = if s < e then some s else none := by
  cases z with
  | zero => omega
  | succ z => rw [ofD]; split <;> rfl
theorem ofD_ok {D : Nat → Int} {m : Nat} (h : Deps D m) : ∀ z p s, p < m → p + 1 ≤ s → s ≤ en D m p → (s < en D m p → par D s = p) → en D m p - s < z →
    (ofD D m z s (en D m p)).Ok (linksD D m) p ∧ (ofD D m z s (en D m p)).pre (D p + 1) = upTo D s (en D m p - s)
  | 0, p, s, hp, h1, h2, h3, hz => by omega
  | z + 1, p, s, hp, h1, h2, h3, hz => by
    by_cases hlt : s < en D m p
    · have hpar := h3 hlt
      obtain ⟨e1, e2, e3, e4⟩ := en_spec (D := D) hp
      have hsm : s < m := by omega
      obtain ⟨f1, f2, f3, f4⟩ := en_spec (D := D) hsm
      have hk := en_kid h (show 1 ≤ s by omega) hsm
      rw [hpar] at hk
      have hd := par_dep h (show 1 ≤ s by omega) hsm
      rw [hpar] at hd
      obtain ⟨k1, k2⟩ := ofD_ok h z s (s + 1) hsm (Nat.le_refl _) f1 (fun g => by
        have st := h.step (s + 1) (by omega) (by omega)
        rw [Nat.add_sub_cancel] at st
        have := f3 (s + 1) (by omega) g
        exact (isKid_iff.1 ((kid_iff h hsm (by omega)).2 ⟨by omega, g, by omega⟩)).2) (by omega)
      obtain ⟨r1, r2⟩ := ofD_ok h z p (en D m s) hp (by omega) hk (fun g => by
        have a := f4 (by omega)
        have b := e3 _ (by omega) g
        exact (isKid_iff.1 ((kid_iff h hp (by omega)).2 ⟨by omega, g, by omega⟩)).2) (by omega)
      rw [ofD, if_pos hlt]
      have s0 : s ≠ 0 := by omega
      refine ⟨⟨by simp [linksD, s0, hpar], ?_, ?_, k1, r1⟩, ?_⟩
      · rw [ofD_root _ _ _ _ _ (by omega)]
        exact fi_eq h hsm
      · rw [ofD_root _ _ _ _ _ (by omega)]
        simp only [linksD, s0, if_false]
        rw [nx_eq h (by omega) hsm, hpar]
      · rw [Fo.pre, show D p + 1 = D s by omega, k2, show D s = D p + 1 by omega, r2]
        rw [show en D m p - s = 1 + ((en D m s - (s + 1)) + (en D m p - en D m s)) by omega, upTo_add, upTo_add]
        simp [upTo, show s + 1 + (en D m s - (s + 1)) = en D m s by omega, show D s = D p + 1 by omega]
    · rw [ofD, if_neg hlt, show en D m p - s = 0 by omega]
      exact ⟨trivial, rfl⟩
/-- The forest of all nodes but the top. -/
def foD (D : Nat → Int) (m : Nat) : Fo := ofD D m (m + 1) 1 m
theorem foD_ok {D : Nat → Int} {m : Nat} (h : Deps D m) : (foD D m).Ok (linksD D m) 0 ∧ (foD D m).pre 0 = upTo D 1 (m - 1) ∧ (foD D m).root = fi D m 0 := by
  have hm := h.pos
  have e := en_top h
  have := ofD_ok h (m + 1) 0 1 (by omega) (Nat.le_refl _) (by omega) (fun g => by
    rw [e] at g
    have a := h.low 1 (Nat.le_refl _) g
    have st := h.step 1 (Nat.le_refl _) g
    have := h.top
    exact par_uniq (by omega) (by omega) (fun l q1 q2 => by omega)) (by omega)
  rw [e, h.top] at this
  refine ⟨this.1, this.2, ?_⟩
  unfold foD
  rw [ofD_root _ _ _ _ _ (by omega), fi_eq h (by omega), e]
theorem upTo_nodes (D : Nat → Int) : ∀ k s, (upTo D s k).map (·.1) = (List.range k).map (s + ·)
  | 0, s => rfl
  | k + 1, s => by
    rw [upTo, List.map_cons, upTo_nodes D k (s + 1), List.range_succ_eq_map]
    simp [Function.comp_def, Nat.add_assoc, Nat.add_comm 1]
theorem foD_nodes {D : Nat → Int} {m : Nat} (h : Deps D m) : (foD D m).nodes = (List.range (m - 1)).map (1 + ·) := by
  rw [← Fo.pre_nodes _ 0, (foD_ok h).2.1, upTo_nodes]
theorem foD_mem {D : Nat → Int} {m : Nat} (h : Deps D m) (x : Nat) : x ∈ (foD D m).nodes ↔ 1 ≤ x ∧ x < m := by
  rw [foD_nodes h]
  simp only [List.mem_map, List.mem_range]
  constructor
  · rintro ⟨a, h1, rfl⟩; omega
  · intro g; exact ⟨x - 1, by omega, by omega⟩
theorem foD_nodup {D : Nat → Int} {m : Nat} (h : Deps D m) : (foD D m).nodes.Nodup := by
  rw [foD_nodes h]
  refine List.Pairwise.map _ (fun a b hab => ?_) List.nodup_range
  omega
end Go.Proofs.YtclhjgcapalniaaDoor
/-
  Plain mathematics of changes of outlines by forests: the rows of a forest in preorder; taking a subtree out and putting it in is what the model does with lists of rows. Nothing of the program is run here. Conditions: none beyond the lemmas' own premises.
-/
namespace Go.Proofs.YtclhjgcapalniaaDoor

def toRs (R : Nat → RowD) (l : List (Nat × Int)) : List RowD := l.map fun q => ⟨(R q.1).id, q.2, (R q.1).txt⟩
theorem toRs_app (R : Nat → RowD) (a b : List (Nat × Int)) : toRs R (a ++ b) = toRs R a ++ toRs R b := by simp [toRs]
theorem toRs_cons (R : Nat → RowD) (a : Nat × Int) (b : List (Nat × Int)) : toRs R (a :: b) = ⟨(R a.1).id, a.2, (R a.1).txt⟩ :: toRs R b := rfl
theorem toRs_len (R : Nat → RowD) (a : List (Nat × Int)) : (toRs R a).length = a.length := by simp [toRs]
theorem rat_toRs {R : Nat → RowD} {l : List (Nat × Int)} {i : Nat} {q : Nat × Int} (h : l[i]? = some q) : rat (toRs R l) i = ⟨(R q.1).id, q.2, (R q.1).txt⟩ := by
  unfold rat toRs
  rw [List.getD_eq_getElem?_getD, List.getElem?_map, h]; rfl
theorem toRs_congr {R R' : Nat → RowD} {l : List (Nat × Int)} (h : ∀ q ∈ l, (R q.1).id = (R' q.1).id ∧ (R q.1).txt = (R' q.1).txt) : toRs R l = toRs R' l := by
  unfold toRs
  refine List.map_congr_left fun q hq => ?_
  rw [(h q hq).1, (h q hq).2]
theorem toRs_shift (R : Nat → RowD) (l : List (Nat × Int)) (e : Int) : toRs R (l.map (fun q => (q.1, q.2 + e))) = (toRs R l).map (shiftR e) := by simp [toRs, shiftR]
theorem rat_lt {rs : List RowD} {i : Nat} (h : i < rs.length) : rat rs i = rs[i] := by unfold rat; rw [List.getD_eq_getElem?_getD, List.getElem?_eq_getElem h]; rfl
theorem toRs_upTo' (rs : List RowD) : ∀ k s, s + k ≤ rs.length → toRs (nd rs) (upTo (dp rs) (s + 1) k) = (rs.drop s).take k
  | 0, s, _ => by simp [upTo, toRs]
  | k + 1, s, h => by
    rw [upTo, toRs_cons, toRs_upTo' rs k (s + 1) (by omega), List.drop_eq_getElem_cons (show s < rs.length by omega), List.take_succ_cons]
    congr 1
    show (⟨(rat rs s).id, (rat rs s).dep, (rat rs s).txt⟩ : RowD) = _
    rw [rat_lt (show s < rs.length by omega)]
theorem toRs_upTo (rs : List RowD) : toRs (nd rs) (upTo (dp rs) 1 rs.length) = rs := by
  have := toRs_upTo' rs rs.length 0 (by omega)
  rw [this]; simp
theorem upTo_split {D : Nat → Int} : ∀ {A : List (Nat × Int)} {s k n : Nat} {dn : Int} {X : List (Nat × Int)}, upTo D s k = A ++ (n, dn) :: X → n = s + A.length ∧ dn = D n ∧ A.length < k
  | [], s, 0, n, dn, X, h => by simp [upTo] at h
  | [], s, k + 1, n, dn, X, h => by
    simp only [upTo, List.nil_append, List.cons.injEq, Prod.mk.injEq] at h
    obtain ⟨⟨rfl, rfl⟩, _⟩ := h
    exact ⟨rfl, rfl, by simp⟩
  | a :: A, s, 0, n, dn, X, h => by simp [upTo] at h
  | a :: A, s, k + 1, n, dn, X, h => by
    simp only [upTo, List.cons_append, List.cons.injEq] at h
    obtain ⟨p, q, r⟩ := upTo_split h.2
    exact ⟨by simp; omega, q, by simp; omega⟩
theorem upTo_mem {D : Nat → Int} {s k x : Nat} {d : Int} (h : (x, d) ∈ upTo D s k) : s ≤ x ∧ x < s + k ∧ d = D x := by
  obtain ⟨A, B, e⟩ := List.append_of_mem h
  obtain ⟨p, q, r⟩ := upTo_split e
  exact ⟨by omega, by omega, q⟩

/-! ### places in such rows -/
theorem at_split {R : Nat → RowD} {A B : List (Nat × Int)} {q : Nat} {dq : Int} (hq : ∀ x ∈ A, (R x.1).id ≠ (R q).id) : atN (toRs R (A ++ (q, dq) :: B)) (R q).id = A.length := by
  have hl : (toRs R (A ++ (q, dq) :: B)).length = A.length + (B.length + 1) := by rw [toRs_len]; simp
  refine atN_mk (by omega) ?_ (fun j hj => ?_)
  · rw [rat_toRs (q := (q, dq)) (by simp)]
  · have : (A ++ (q, dq) :: B)[j]? = some A[j] := by rw [List.getElem?_append_left hj, List.getElem?_eq_getElem hj]
    rw [rat_toRs this]
    exact hq _ (List.getElem_mem hj)
theorem en_split {R : Nat → RowD} {A K B : List (Nat × Int)} {q : Nat} {dq : Int} (hK : ∀ x ∈ K, dq < x.2) (hB : LeHead B dq) : enR (toRs R (A ++ (q, dq) :: (K ++ B))) A.length = A.length + 1 + K.length := by
  have hl : (toRs R (A ++ (q, dq) :: (K ++ B))).length = A.length + 1 + K.length + B.length := by rw [toRs_len]; simp; omega
  have h0 : rdep (toRs R (A ++ (q, dq) :: (K ++ B))) A.length = dq := by unfold rdep; rw [rat_toRs (q := (q, dq)) (by simp)]
  unfold enR
  rw [hl]
  refine en_uniq (by omega) (by omega) (fun j h1 h2 => ?_) (fun h => ?_)
  · rw [h0]
    have hj : j - A.length - 1 < K.length := by omega
    have : (A ++ (q, dq) :: (K ++ B))[j]? = some K[j - A.length - 1] := by
      rw [List.getElem?_append_right (by omega), List.getElem?_cons, if_neg (by omega), List.getElem?_append_left hj, List.getElem?_eq_getElem hj]
    unfold rdep
    rw [rat_toRs this]
    exact hK _ (List.getElem_mem hj)
  · rw [h0]
    have hb : 0 < B.length := by omega
    have : (A ++ (q, dq) :: (K ++ B))[A.length + 1 + K.length]? = some B[0] := by
      rw [List.getElem?_append_right (by omega), List.getElem?_cons, if_neg (by omega), List.getElem?_append_right (by omega), show A.length + 1 + K.length - A.length - 1 - K.length = 0 by omega, List.getElem?_eq_getElem hb]
    unfold rdep
    rw [rat_toRs this]
    exact hB _ (by rw [List.head?_eq_getElem?, List.getElem?_eq_getElem hb])
theorem rdep_at {R : Nat → RowD} {l : List (Nat × Int)} {q : Nat} {d : Int} (h : (q, d) ∈ l) (inj : ∀ x ∈ l, (R x.1).id = (R q).id → x = (q, d)) : rdep (toRs R l) (atN (toRs R l) (R q).id) = d ∧ atN (toRs R l) (R q).id < (toRs R l).length := by
  obtain ⟨i, hi, e⟩ := List.getElem_of_mem h
  have hi' : l[i]? = some (q, d) := by rw [List.getElem?_eq_getElem hi, e]
  have hlt : atN (toRs R l) (R q).id < (toRs R l).length := by
    have := there_at (rs := toRs R l) (i := i) (by rw [toRs_len]; exact hi)
    rw [rat_toRs hi'] at this; exact this
  refine ⟨?_, hlt⟩
  have hid := atN_id hlt
  have hlt' := hlt
  rw [toRs_len] at hlt'
  have hg : l[atN (toRs R l) (R q).id]? = some l[atN (toRs R l) (R q).id] := List.getElem?_eq_getElem hlt'
  rw [rat_toRs hg] at hid
  have := inj _ (List.getElem_mem hlt') hid
  unfold rdep
  rw [rat_toRs hg, this]

/-! ### putting in -/
theorem rows_shift (R : Nat → RowD) (s : Fo) (n : Nat) (d e : Int) : (toRs R ((n, d) :: s.pre (d + 1))).map (shiftR (e - d)) = toRs R ((n, e) :: s.pre (e + 1)) := by
  rw [← toRs_shift, List.map_cons, ← Fo.pre_shift]
  simp only
  rw [show d + (e - d) = e by omega, show d + 1 + (e - d) = e + 1 by omega]
theorem take_app {A B : List RowD} {n : Nat} (h : n = A.length) : (A ++ B).take n = A ∧ (A ++ B).drop n = B := by subst h; simp
theorem put_first {R : Nat → RowD} {A B : List (Nat × Int)} {s : Fo} {n q : Nat} {dq dn : Int} (hq : ∀ x ∈ A, (R x.1).id ≠ (R q).id) :
    putR (toRs R (A ++ (q, dq) :: B)) (toRs R ((n, dn) :: s.pre (dn + 1))) (R q).id 0 = toRs R (A ++ ((q, dq) :: ((n, dq + 1) :: (s.pre (dq + 1 + 1) ++ B)))) := by
  have ha := at_split (B := B) (dq := dq) hq
  have h0 : rdep (toRs R (A ++ (q, dq) :: B)) A.length = dq := by unfold rdep; rw [rat_toRs (q := (q, dq)) (by simp)]
  unfold putR placeN deepI'
  rw [if_neg (by omega), ha, h0]
  have h1 : rdep (toRs R ((n, dn) :: s.pre (dn + 1))) 0 = dn := rfl
  rw [h1, rows_shift]
  have e : toRs R (A ++ (q, dq) :: B) = toRs R (A ++ [(q, dq)]) ++ toRs R B := by rw [← toRs_app]; simp
  obtain ⟨t1, t2⟩ := take_app (A := toRs R (A ++ [(q, dq)])) (B := toRs R B) (n := A.length + 1) (by rw [toRs_len]; simp)
  rw [e, t1, t2, ← toRs_app, ← toRs_app]
  simp
theorem put_after {R : Nat → RowD} {A K B : List (Nat × Int)} {s : Fo} {n a : Nat} {da dn up : Int} (ha : ∀ x ∈ A, (R x.1).id ≠ (R a).id) (hp : 0 < (R a).id) (hK : ∀ x ∈ K, da < x.2) (hB : LeHead B da)
    (hup : rdep (toRs R (A ++ (a, da) :: (K ++ B))) (atN (toRs R (A ++ (a, da) :: (K ++ B))) up) = da - 1) :
    putR (toRs R (A ++ (a, da) :: (K ++ B))) (toRs R ((n, dn) :: s.pre (dn + 1))) up (R a).id = toRs R (A ++ ((a, da) :: (K ++ ((n, da) :: (s.pre (da + 1) ++ B))))) := by
  have hat := at_split (B := K ++ B) (dq := da) ha
  have hen := en_split (R := R) (A := A) (q := a) hK hB
  unfold putR placeN deepI'
  rw [if_pos hp, hat, hen, hup]
  have h1 : rdep (toRs R ((n, dn) :: s.pre (dn + 1))) 0 = dn := rfl
  rw [h1, show da - 1 + 1 - dn = da - dn by omega, rows_shift]
  have e : toRs R (A ++ (a, da) :: (K ++ B)) = toRs R (A ++ (a, da) :: K) ++ toRs R B := by rw [← toRs_app]; simp
  obtain ⟨t1, t2⟩ := take_app (A := toRs R (A ++ (a, da) :: K)) (B := toRs R B) (n := A.length + 1 + K.length) (by rw [toRs_len]; simp; omega)
  rw [e, t1, t2, ← toRs_app, ← toRs_app]
  simp
theorem Fo.Ok.up_dep {L : Links} : ∀ {f : Fo} {p : Nat} {d : Int}, f.Ok L p → ∀ {a : Nat} {da : Int}, (a, da) ∈ f.pre d → ∀ {q : Nat}, L.up a = some q → (q = p ∧ da = d) ∨ (q, da - 1) ∈ f.pre d
  | .nil, p, d, _, a, da, h, q, _ => by simp [Fo.pre] at h
  | .cons z k r, p, d, ⟨h1, h2, h3, h4, h5⟩, a, da, h, q, hq => by
    simp only [Fo.pre, List.mem_cons, List.mem_append, Prod.mk.injEq] at h ⊢
    rcases h with ⟨rfl, rfl⟩ | h | h
    · rw [h1] at hq; cases hq; exact .inl ⟨rfl, rfl⟩
    · rcases h4.up_dep h hq with ⟨rfl, rfl⟩ | g
      · exact .inr (.inl ⟨rfl, by omega⟩)
      · exact .inr (.inr (.inl g))
    · rcases h5.up_dep h hq with ⟨rfl, rfl⟩ | g
      · exact .inl ⟨rfl, rfl⟩
      · exact .inr (.inr (.inr g))
theorem Fo.mem_nodes {f : Fo} {d : Int} {x : Nat} {e : Int} (h : (x, e) ∈ f.pre d) : x ∈ f.nodes := by
  rw [← Fo.pre_nodes f d]; exact List.mem_map.2 ⟨_, h, rfl⟩
theorem Fo.mem_pre {f : Fo} {x : Nat} (d : Int) (h : x ∈ f.nodes) : ∃ e, (x, e) ∈ f.pre d := by
  rw [← Fo.pre_nodes f d] at h
  obtain ⟨⟨a, b⟩, h1, h2⟩ := List.mem_map.1 h
  simp only at h2; subst h2
  exact ⟨b, h1⟩
theorem pre_uniq {f : Fo} {d : Int} (hn : f.nodes.Nodup) {x : Nat} {a b : Int} (h1 : (x, a) ∈ f.pre d) (h2 : (x, b) ∈ f.pre d) : a = b := by
  rw [← Fo.pre_nodes f d] at hn
  generalize f.pre d = l at *
  induction l with
  | nil => simp at h1
  | cons y l ih =>
    simp only [List.map_cons, List.nodup_cons, List.mem_map, not_exists, not_and] at hn
    simp only [List.mem_cons] at h1 h2
    rcases h1 with h1 | h1 <;> rcases h2 with h2 | h2
    · rw [← h1] at h2; exact (Prod.mk.inj h2).2.symm
    · exact absurd (by rw [← h1]) (hn.1 _ h2)
    · exact absurd (by rw [← h2]) (hn.1 _ h1)
    · exact ih hn.2 h1 h2
/-- The identities' numbers part: no two nodes of the forest have the same one. -/
def IdInj (R : Nat → RowD) (f : Fo) : Prop := ∀ x ∈ f.nodes, ∀ y ∈ f.nodes, (R x).id = (R y).id → x = y
theorem nodup_ahead {f : Fo} {d : Int} {A B : List (Nat × Int)} {q : Nat} {dq : Int} (hn : f.nodes.Nodup) (e : f.pre d = A ++ (q, dq) :: B) : ∀ x ∈ A, x.1 ≠ q := by
  intro x hx he
  rw [← Fo.pre_nodes f d, e] at hn
  simp only [List.map_append, List.map_cons, List.nodup_append] at hn
  exact hn.2.2 x.1 (List.mem_map.2 ⟨x, hx, rfl⟩) q (by simp) he
theorem ids_ahead {R : Nat → RowD} {f : Fo} {d : Int} {A B : List (Nat × Int)} {q : Nat} {dq : Int} (hn : f.nodes.Nodup) (hi : IdInj R f) (e : f.pre d = A ++ (q, dq) :: B) : ∀ x ∈ A, (R x.1).id ≠ (R q).id := by
  intro x hx he
  have h1 : x.1 ∈ f.nodes := Fo.mem_nodes (d := d) (e := x.2) (by rw [e]; simp [hx])
  have h2 : q ∈ f.nodes := Fo.mem_nodes (d := d) (e := dq) (by rw [e]; simp)
  exact nodup_ahead hn e x hx (hi _ h1 _ h2 he)
theorem insF_put {L : Links} {R : Nat → RowD} {f s : Fo} {p n q : Nat} (dn : Int) (ho : f.Ok L p) (hn : f.nodes.Nodup) (hi : IdInj R f) (hq : q ∈ f.nodes) :
    toRs R ((f.insF q n s).pre 0) = putR (toRs R (f.pre 0)) (toRs R ((n, dn) :: s.pre (dn + 1))) (R q).id 0 := by
  obtain ⟨A, dq, B, e1, e2⟩ := Fo.insF_pre (n := n) (s := s) 0 ho hn hq
  rw [e1, e2, put_first (ids_ahead hn hi e1)]
theorem insA_put {L : Links} {R : Nat → RowD} {f s : Fo} {p n a q : Nat} (dn : Int) (ho : f.Ok L p) (hn : f.nodes.Nodup) (hi : IdInj R f) (ha : a ∈ f.nodes) (hq : q ∈ f.nodes) (hqp : q ≠ p) (hup : L.up a = some q) (hpos : 0 < (R a).id) :
    toRs R ((f.insA a n s).pre 0) = putR (toRs R (f.pre 0)) (toRs R ((n, dn) :: s.pre (dn + 1))) (R q).id (R a).id := by
  obtain ⟨A, da, k, B, ⟨e1, lo, hd⟩, e2⟩ := Fo.insA_pre (n := n) (s := s) 0 ho hn ha
  have hm : (a, da) ∈ f.pre 0 := by rw [e1]; simp
  have hqm : (q, da - 1) ∈ f.pre 0 := by
    rcases ho.up_dep hm hup with ⟨h, _⟩ | h
    · exact absurd h hqp
    · exact h
  have hr := (rdep_at (R := R) hqm (fun x hx he => by
    have h1 := hi x.1 (Fo.mem_nodes (e := x.2) hx) q hq he
    obtain ⟨x1, x2⟩ := x
    simp only at h1; subst h1
    rw [pre_uniq hn hx hqm])).1
  rw [e1] at hr
  rw [e2, e1, put_after (ids_ahead hn hi e1) hpos (fun x hx => by have := Fo.pre_ge k (da + 1) x hx; omega) hd hr]
end Go.Proofs.YtclhjgcapalniaaDoor
/-
  Plain mathematics: going over a forest in preorder, where each node's depth is set to its parent's and one more, gives the rows of the forest with the depths of their places. Nothing of the program is run here. Conditions: none beyond the lemmas' own premises.
-/
namespace Go.Proofs.YtclhjgcapalniaaDoor

def L5.lk (L : L5) : Links := ⟨L.up, L.nx, L.fi⟩
def upN (L : L5) (x : Nat) : Nat := (L.up x).getD 0
def stepV (L : L5) (R : Nat → RowD) (x : Nat) : Nat → RowD := fun y => if y = x then ⟨(R x).id, (R (upN L x)).dep + 1, (R x).txt⟩ else R y
def visit (L : L5) (s : (Nat → RowD) × List RowD) (x : Nat) : (Nat → RowD) × List RowD := (stepV L s.1 x, s.2 ++ [stepV L s.1 x x])
def visitL (L : L5) (R : Nat → RowD) (xs : List Nat) : (Nat → RowD) × List RowD := xs.foldl (visit L) (R, [])
theorem visitL_nil (L : L5) (R : Nat → RowD) : visitL L R [] = (R, []) := rfl
theorem visitL_snoc (L : L5) (R : Nat → RowD) (xs : List Nat) (x : Nat) : visitL L R (xs ++ [x]) = visit L (visitL L R xs) x := by simp [visitL]
theorem stepV_same (L : L5) (R : Nat → RowD) (x : Nat) : stepV L R x x = ⟨(R x).id, (R (upN L x)).dep + 1, (R x).txt⟩ := by simp [stepV]
theorem stepV_ne {L : L5} {R : Nat → RowD} {x y : Nat} (h : y ≠ x) : stepV L R x y = R y := by simp [stepV, h]
theorem visit_keep (L : L5) : ∀ (xs : List Nat) (s : (Nat → RowD) × List RowD) (y : Nat), ((xs.foldl (visit L) s).1 y).id = (s.1 y).id ∧ ((xs.foldl (visit L) s).1 y).txt = (s.1 y).txt ∧ (y ∉ xs → (xs.foldl (visit L) s).1 y = s.1 y)
  | [], s, y => ⟨rfl, rfl, fun _ => rfl⟩
  | x :: xs, s, y => by
    obtain ⟨a, b, c⟩ := visit_keep L xs (visit L s x) y
    rw [List.foldl_cons]
    by_cases e : y = x
    · subst e
      refine ⟨a.trans ?_, b.trans ?_, fun h => absurd (List.mem_cons_self) h⟩
      · simp [visit, stepV]
      · simp [visit, stepV]
    · have : (visit L s x).1 y = s.1 y := stepV_ne e
      rw [this] at a b c
      exact ⟨a, b, fun h => c (fun g => h (List.mem_cons_of_mem _ g))⟩
theorem visit_len (L : L5) : ∀ (xs : List Nat) (s : (Nat → RowD) × List RowD), (xs.foldl (visit L) s).2.length = s.2.length + xs.length
  | [], s => rfl
  | x :: xs, s => by
    rw [List.foldl_cons, visit_len L xs]
    simp [visit]; omega
theorem visitL_len (L : L5) (R : Nat → RowD) (xs : List Nat) : (visitL L R xs).2.length = xs.length := by
  unfold visitL; rw [visit_len]; simp
theorem visit_dep (L : L5) : ∀ (xs : List Nat) (s : (Nat → RowD) × List RowD) (c : Int), -1 ≤ c → (∀ y, -1 ≤ (s.1 y).dep ∧ (s.1 y).dep ≤ c) → ∀ y, -1 ≤ ((xs.foldl (visit L) s).1 y).dep ∧ ((xs.foldl (visit L) s).1 y).dep ≤ c + xs.length
  | [], s, c, hc, h, y => by have := h y; simp; omega
  | x :: xs, s, c, hc, h, y => by
    rw [List.foldl_cons]
    have := visit_dep L xs (visit L s x) (c + 1) (by omega) (fun z => by
      by_cases e : z = x
      · subst e
        have := h (upN L z)
        show -1 ≤ (stepV L s.1 z z).dep ∧ (stepV L s.1 z z).dep ≤ _
        rw [stepV_same]
        simp only; omega
      · have e2 : (visit L s x).1 z = s.1 z := stepV_ne e
        rw [e2]
        have := h z; omega) y
    simp only [List.length_cons]
    omega
theorem visit_fo (L : L5) : ∀ (f : Fo) (p : Nat) (d : Int) (R : Nat → RowD) (acc : List RowD), f.Ok L.lk p → f.nodes.Nodup → p ∉ f.nodes → (R p).dep = d - 1 → (f.nodes.foldl (visit L) (R, acc)).2 = acc ++ toRs R (f.pre d)
  | .nil, p, d, R, acc, _, _, _, _ => by simp [Fo.nodes, Fo.pre, toRs]
  | .cons x k r, p, d, R, acc, ⟨h1, h2, h3, h4, h5⟩, hd, hp, hR => by
    simp only [Fo.nodes, List.nodup_cons, List.nodup_append, List.mem_append, not_or] at hd
    obtain ⟨⟨d1, d2⟩, d3, d4, d5⟩ := hd
    simp only [Fo.nodes, List.mem_cons, List.mem_append, not_or] at hp
    obtain ⟨p1, p2, p3⟩ := hp
    have hu : upN L x = p := by
      have : L.up x = some p := h1
      simp [upN, this]
    have hx : stepV L R x x = ⟨(R x).id, d, (R x).txt⟩ := by rw [stepV_same, hu, hR]; congr 1; omega
    rw [Fo.nodes, List.foldl_cons, List.foldl_append]
    have ek := visit_fo L k x (d + 1) (stepV L R x) (acc ++ [stepV L R x x]) h4 d3 d1 (by rw [hx]; simp)
    have kk := fun y => visit_keep L k.nodes (visit L (R, acc) x) y
    have er := visit_fo L r p d (k.nodes.foldl (visit L) (visit L (R, acc) x)).1 (k.nodes.foldl (visit L) (visit L (R, acc) x)).2 h5 d4 p3 (by
      rw [(kk p).2.2 p2]
      show (stepV L R x p).dep = _
      rw [stepV_ne p1]; exact hR)
    rw [show ((k.nodes.foldl (visit L) (visit L (R, acc) x)).1, (k.nodes.foldl (visit L) (visit L (R, acc) x)).2) = k.nodes.foldl (visit L) (visit L (R, acc) x) from rfl] at er
    rw [er]
    have e0 : visit L (R, acc) x = (stepV L R x, acc ++ [stepV L R x x]) := rfl
    rw [e0, ek, hx]
    have s1 : ∀ y, (stepV L R x y).id = (R y).id ∧ (stepV L R x y).txt = (R y).txt := fun y => by
      by_cases e : y = x
      · subst e; simp [stepV]
      · rw [stepV_ne e]; exact ⟨rfl, rfl⟩
    rw [toRs_congr (R := stepV L R x) (R' := R) (fun q _ => s1 q.1)]
    have s2 : ∀ (st : List RowD) (l : List (Nat × Int)), toRs (k.nodes.foldl (visit L) (stepV L R x, st)).1 l = toRs R l := fun st l =>
      toRs_congr (fun q _ => by
        have := visit_keep L k.nodes (stepV L R x, st) q.1
        exact ⟨this.1.trans (s1 q.1).1, this.2.1.trans (s1 q.1).2⟩)
    rw [s2]
    simp [Fo.pre, toRs]
end Go.Proofs.YtclhjgcapalniaaDoor
/-
  Contracts of the program's isMade, (spot).ok, and of the methods ok and op of the three kinds of changes. Conditions: the table 'creators' holds what its initialiser lays; texts are not too long.
-/
namespace Go.Proofs.YtclhjgcapalniaaDoor
open Go.ChangeShapes Go.WideShapes Go.ChangeAt Go.RowKit Go.Joins

theorem isMade_any (id : Int) (w : World) (ht : Tab w) :
    Calls Tryd.prog 159 #[.int .i64 id] w fun e w' => e = .returned (.bool (madeB id)) ∧ w = w' := by
  cases h1 : madeB id
  · have e1 : whoI id = 0 := by simp [whoI, h1]
    go_enter Tryd.func159, Tryd.ntmps159
    go_wp2_with fail
    refine (implRowWho_any _ _ ht).mono ?_
    rintro e w' ⟨rfl, rfl⟩
    rw [e1]
    generalize whoB id = b
    cases b
    · go_wp2
      go_ret
      exact ⟨rfl, rfl⟩
    · go_wp2
      go_ret
      exact ⟨rfl, rfl⟩
  · have e1 : whoI id ≠ 0 := by
      have := (madeB_iff _).1 h1
      simp only [whoI, h1, if_true]; omega
    have e2 : whoB id = true := by simp [whoB, h1]
    have e3 : (whoI id != 0) = true := by simpa using e1
    clear e1
    go_enter Tryd.func159, Tryd.ntmps159
    go_wp2_with fail
    refine (implRowWho_any _ _ ht).mono ?_
    rintro e w' ⟨rfl, rfl⟩
    rw [e2]
    have E3 := Lib.hid e3
    clear e3
    generalize whoI id = z at *
    go_wp2
    go_ret
    refine ⟨?_, rfl⟩
    show Ending.returned (.bool (z != 0)) = _
    rw [E3.out]
def spotB (up at' : Int) : Bool := whoB up && ((at' == 0) || madeB at')
theorem spotOk_any (up at' : Int) (w : World) (ht : Tab w) :
    Calls Tryd.prog 157 #[.agg #[.int .i64 up, .int .i64 at']] w (RetBelow (.bool (spotB up at')) w) := by
  have hb : Below w.heap.size w (w.alloc (.cells #[.int .i64 up, .int .i64 at'] 79)) := (Below.refl _ _).alloc (Nat.le_refl _) _
  have ht1 : Tab (w.alloc (.cells #[.int .i64 up, .int .i64 at'] 79)) := ht.below hb ht.pos
  cases h1 : whoB up
  · have HF : Hid (spotB up at' = false) := by simp [Hid, spotB, h1]
    go_enter Tryd.func157, Tryd.ntmps157
    go_wp2_with fail
    refine (implRowWho_any _ _ ht1).mono ?_
    rintro e w' ⟨rfl, rfl⟩
    rw [h1]
    generalize whoI up = z
    go_wp2
    go_ret
    exact ⟨by rw [HF.out]; rfl, hb⟩
  · by_cases h0 : at' = 0
    · have HF : Hid (spotB up at' = true) := by simp [Hid, spotB, h1, h0]
      subst h0
      go_enter Tryd.func157, Tryd.ntmps157
      go_wp2_with fail
      refine (implRowWho_any _ _ ht1).mono ?_
      rintro e w' ⟨rfl, rfl⟩
      rw [h1]
      generalize whoI up = z
      go_wp2
      go_ret
      exact ⟨by rw [HF.out]; rfl, hb⟩
    · have HF : Hid (spotB up at' = ((at' == 0) || madeB at')) := by simp [Hid, spotB, h1]
      go_enter Tryd.func157, Tryd.ntmps157
      go_wp2_with fail
      refine (implRowWho_any _ _ ht1).mono ?_
      rintro e w' ⟨rfl, rfl⟩
      rw [h1]
      generalize whoI up = z
      go_wp2_with fail
      refine (isMade_any _ _ ht1).mono ?_
      rintro e w' ⟨rfl, rfl⟩
      go_wp2
      go_ret
      exact ⟨by rw [HF.out]; rfl, hb⟩
/-! ### the three kinds -/
def makV (o : OpD) : Value := .agg #[.int .i64 o.id, .int .i64 o.up, .int .i64 o.at_, .string o.txt]
def worV (o : OpD) : Value := .agg #[.int .i64 o.id, .string o.txt]
def movV (o : OpD) : Value := .agg #[.int .i64 o.id, .int .i64 o.up, .int .i64 o.at_]
theorem makingOk_any (o : OpD) (w : World) (ht : Tab w) (hs : o.txt.size ≤ maxLen) :
    Calls Tryd.prog 160 #[.agg #[.int .i64 o.id, .int .i64 o.up, .int .i64 o.at_, .string o.txt]] w (RetBelow (.bool (madeB o.id && spotB o.up o.at_ && textB o.txt)) w) := by
  have hb : Below w.heap.size w (w.alloc (.cells #[.int .i64 o.id, .int .i64 o.up, .int .i64 o.at_, .string o.txt] 81)) := (Below.refl _ _).alloc (Nat.le_refl _) _
  have ht1 : Tab (w.alloc (.cells #[.int .i64 o.id, .int .i64 o.up, .int .i64 o.at_, .string o.txt] 81)) := ht.below hb ht.pos
  have hx : (w.alloc (.cells #[.int .i64 o.id, .int .i64 o.up, .int .i64 o.at_, .string o.txt] 81)).cell? ⟨w.heap.size, 3, none⟩ = some (.string o.txt) := by simp [go_sem]
  have hlt : w.heap.size < (w.alloc (.cells #[.int .i64 o.id, .int .i64 o.up, .int .i64 o.at_, .string o.txt] 81)).heap.size := by simp
  cases h1 : madeB o.id
  · go_enter Tryd.func160, Tryd.ntmps160
    go_wp2_with fail
    refine (isMade_any _ _ ht1).mono ?_
    rintro e w' ⟨rfl, rfl⟩
    rw [h1]
    go_wp2
    go_ret
    exact ⟨rfl, hb⟩
  · cases h2 : spotB o.up o.at_
    · go_enter Tryd.func160, Tryd.ntmps160
      go_wp2_with fail
      refine (isMade_any _ _ ht1).mono ?_
      rintro e w' ⟨rfl, rfl⟩
      rw [h1]
      go_wp2_with fail
      refine (spotOk_any _ _ _ ht1).mono ?_
      rintro e w2 ⟨rfl, hb2⟩
      rw [h2]
      go_wp2
      go_ret
      exact ⟨rfl, hb.trans (hb2.mono hb.size)⟩
    · go_enter Tryd.func160, Tryd.ntmps160
      go_wp2_with fail
      refine (isMade_any _ _ ht1).mono ?_
      rintro e w' ⟨rfl, rfl⟩
      rw [h1]
      go_wp2_with fail
      refine (spotOk_any _ _ _ ht1).mono ?_
      rintro e w2 ⟨rfl, hb2⟩
      rw [h2]
      have hx2 := (hb2.cell (p := ⟨w.heap.size, 3, none⟩) hlt).trans hx
      have hw2 := hb.trans (hb2.mono hb.size)
      clear hb2 hb ht1 hx hlt
      go_wp2_with fail
      refine (textOk_any _ _ hs).mono ?_
      rintro e w3 ⟨rfl, rfl⟩
      go_wp2
      go_ret
      exact ⟨rfl, hw2⟩
theorem wordingOk_any (o : OpD) (w : World) (ht : Tab w) (hs : o.txt.size ≤ maxLen) :
    Calls Tryd.prog 163 #[.agg #[.int .i64 o.id, .string o.txt]] w (RetBelow (.bool (madeB o.id && textB o.txt)) w) := by
  have hb : Below w.heap.size w (w.alloc (.cells #[.int .i64 o.id, .string o.txt] 86)) := (Below.refl _ _).alloc (Nat.le_refl _) _
  have ht1 : Tab (w.alloc (.cells #[.int .i64 o.id, .string o.txt] 86)) := ht.below hb ht.pos
  cases h1 : madeB o.id
  · go_enter Tryd.func163, Tryd.ntmps163
    go_wp2_with fail
    refine (isMade_any _ _ ht1).mono ?_
    rintro e w' ⟨rfl, rfl⟩
    rw [h1]
    go_wp2
    go_ret
    exact ⟨rfl, hb⟩
  · go_enter Tryd.func163, Tryd.ntmps163
    go_wp2_with fail
    refine (isMade_any _ _ ht1).mono ?_
    rintro e w' ⟨rfl, rfl⟩
    rw [h1]
    go_wp2_with fail
    refine (textOk_any _ _ hs).mono ?_
    rintro e w3 ⟨rfl, rfl⟩
    go_wp2
    go_ret
    exact ⟨rfl, hb⟩
theorem movingOk_any (o : OpD) (w : World) (ht : Tab w) :
    Calls Tryd.prog 166 #[.agg #[.int .i64 o.id, .int .i64 o.up, .int .i64 o.at_]] w (RetBelow (.bool (madeB o.id && spotB o.up o.at_)) w) := by
  have hb : Below w.heap.size w (w.alloc (.cells #[.int .i64 o.id, .int .i64 o.up, .int .i64 o.at_] 88)) := (Below.refl _ _).alloc (Nat.le_refl _) _
  have ht1 : Tab (w.alloc (.cells #[.int .i64 o.id, .int .i64 o.up, .int .i64 o.at_] 88)) := ht.below hb ht.pos
  cases h1 : madeB o.id
  · go_enter Tryd.func166, Tryd.ntmps166
    go_wp2_with fail
    refine (isMade_any _ _ ht1).mono ?_
    rintro e w' ⟨rfl, rfl⟩
    rw [h1]
    go_wp2
    go_ret
    exact ⟨rfl, hb⟩
  · go_enter Tryd.func166, Tryd.ntmps166
    go_wp2_with fail
    refine (isMade_any _ _ ht1).mono ?_
    rintro e w' ⟨rfl, rfl⟩
    rw [h1]
    go_wp2_with fail
    refine (spotOk_any _ _ _ ht1).mono ?_
    rintro e w2 ⟨rfl, hb2⟩
    go_wp2
    go_ret
    exact ⟨rfl, hb.trans (hb2.mono hb.size)⟩
theorem makingOp_any (o : OpD) (w : World) :
    Calls Tryd.prog 161 #[.agg #[.int .i64 o.id, .int .i64 o.up, .int .i64 o.at_, .string o.txt]] w (RetBelow (.agg #[.int .i64 1, .int .i64 o.id, .int .i64 o.up, .int .i64 o.at_, .string o.txt]) w) := by
  go_enter Tryd.func161, Tryd.ntmps161
  go_wp2
  go_returns
  exact ⟨rfl, by go_grown⟩
theorem wordingOp_any (o : OpD) (w : World) :
    Calls Tryd.prog 164 #[.agg #[.int .i64 o.id, .string o.txt]] w (RetBelow (.agg #[.int .i64 2, .int .i64 o.id, .int .i64 0, .int .i64 0, .string o.txt]) w) := by
  go_enter Tryd.func164, Tryd.ntmps164
  go_wp2
  go_returns
  exact ⟨rfl, by go_grown⟩
theorem movingOp_any (o : OpD) (w : World) :
    Calls Tryd.prog 87 #[.agg #[.int .i64 o.id, .int .i64 o.up, .int .i64 o.at_]] w (RetBelow (.agg #[.int .i64 3, .int .i64 o.id, .int .i64 o.up, .int .i64 o.at_, .string ⟨#[]⟩]) w) := by
  go_enter Tryd.func87, Tryd.ntmps87
  go_wp2
  go_returns
  exact ⟨rfl, by go_grown⟩
end Go.Proofs.YtclhjgcapalniaaDoor
/-
  Contract of the program's changeOf: the change that is given by fields, if it is valid. Conditions: the table 'creators' holds what its initialiser lays; texts are not too long.
-/
namespace Go.Proofs.YtclhjgcapalniaaDoor
open Go.ChangeShapes Go.WideShapes Go.ChangeAt Go.RowKit Go.Joins

theorem meth_mak_op (v : Value) (fuel : Nat) (w : World) : (method (fuel + 1) 81 v "loop.example/plashet/impl.op").run Tryd.prog w = .ok (161, v) w := by kernel_rfl
theorem meth_mak_ok (v : Value) (fuel : Nat) (w : World) : (method (fuel + 1) 81 v "loop.example/plashet/impl.ok").run Tryd.prog w = .ok (160, v) w := by kernel_rfl
theorem meth_wor_op (v : Value) (fuel : Nat) (w : World) : (method (fuel + 1) 86 v "loop.example/plashet/impl.op").run Tryd.prog w = .ok (164, v) w := by kernel_rfl
theorem meth_wor_ok (v : Value) (fuel : Nat) (w : World) : (method (fuel + 1) 86 v "loop.example/plashet/impl.ok").run Tryd.prog w = .ok (163, v) w := by kernel_rfl
theorem meth_mov_op (v : Value) (fuel : Nat) (w : World) : (method (fuel + 1) 88 v "loop.example/plashet/impl.op").run Tryd.prog w = .ok (87, v) w := by kernel_rfl
theorem meth_mov_ok (v : Value) (fuel : Nat) (w : World) : (method (fuel + 1) 88 v "loop.example/plashet/impl.ok").run Tryd.prog w = .ok (166, v) w := by kernel_rfl
set_option maxRecDepth 10000 in
theorem neq_op (k i u a k' i' u' a' : Int) (t t' : ByteArray) (w : World) : (binOp .neq 27 (.agg #[.int .i64 k, .int .i64 i, .int .i64 u, .int .i64 a, .string t]) (.agg #[.int .i64 k', .int .i64 i', .int .i64 u', .int .i64 a', .string t'])).run Tryd.prog w = .ok (.bool (!((k == k') && (i == i') && (u == u') && (a == a') && (t.toList == t'.toList)))) w := by
  have hS : Tryd.prog.stoodInHeld 27 = false := by kernel_rfl
  rw [run_neq_struct, run_equalIn_agg w 9999 _ _ _ (by kernel_rfl) hS]
  have hF : (Tryd.prog.fieldsOf 27).toList.map (fun f => (f.name, f.type, f.offset)) = [("Kind", 3, 0), ("Id", 3, 1), ("Up", 3, 2), ("At", 3, 3), ("Text", 9, 4)] := by kernel_rfl
  generalize (Tryd.prog.fieldsOf 27).toList = fs at hF
  have hl : fs.length = 5 := by have := congrArg List.length hF; simpa using this
  obtain ⟨f0, f1, f2, f3, f4, rfl⟩ : ∃ f0 f1 f2 f3 f4, fs = [f0, f1, f2, f3, f4] := by
    match fs, hl with
    | [f0, f1, f2, f3, f4], _ => exact ⟨f0, f1, f2, f3, f4, rfl⟩
  simp only [List.map_cons, List.map_nil, List.cons.injEq, Prod.mk.injEq, and_true] at hF
  obtain ⟨⟨a0, b0, c0⟩, ⟨a1, b1, c1⟩, ⟨a2, b2, c2⟩, ⟨a3, b3, c3⟩, ⟨a4, b4, c4⟩⟩ := hF
  simp [Op.eqFields, a0, b0, c0, a1, b1, c1, a2, b2, c2, a3, b3, c3, a4, b4, c4, go_sem]
  by_cases h0 : k = k' <;> by_cases h1 : i = i' <;> by_cases h2 : u = u' <;> by_cases h3 : a = a' <;> by_cases h4 : t.toList = t'.toList <;> simp [h0, h1, h2, h3, h4]
/-- Whether the fields are those of a valid change. -/
def opokB (o : OpD) : Bool :=
  if o.kind = 1 then madeB o.id && spotB o.up o.at_ && textB o.txt
  else if o.kind = 2 then (o.up == 0) && (o.at_ == 0) && madeB o.id && textB o.txt
  else if o.kind = 3 then (o.txt.toList == []) && madeB o.id && spotB o.up o.at_
  else false
/-- The change as a value of the interface. -/
def chV (o : OpD) : Value :=
  if o.kind = 1 then .iface 81 (.agg #[.int .i64 o.id, .int .i64 o.up, .int .i64 o.at_, .string o.txt])
  else if o.kind = 2 then .iface 86 (.agg #[.int .i64 o.id, .string o.txt])
  else .iface 88 (.agg #[.int .i64 o.id, .int .i64 o.up, .int .i64 o.at_])
def chR (o : OpD) : Value := if opokB o then chV o else .nilIface
theorem opbox_cells (w : World) (k i u a : Int) (t : ByteArray) : let W := w.alloc (.cells #[.int .i64 k, .int .i64 i, .int .i64 u, .int .i64 a, .string t] 27);
    (∀ x : Later W, x.x.cell? ⟨w.heap.size, 0, none⟩ = some (.int .i64 k)) ∧ (∀ x : Later W, x.x.cell? ⟨w.heap.size, 1, none⟩ = some (.int .i64 i)) ∧ (∀ x : Later W, x.x.cell? ⟨w.heap.size, 2, none⟩ = some (.int .i64 u)) ∧ (∀ x : Later W, x.x.cell? ⟨w.heap.size, 3, none⟩ = some (.int .i64 a)) ∧ (∀ x : Later W, x.x.cell? ⟨w.heap.size, 4, none⟩ = some (.string t)) :=
  ⟨later_cell (by simp [go_sem]) (by simp), later_cell (by simp [go_sem]) (by simp), later_cell (by simp [go_sem]) (by simp), later_cell (by simp [go_sem]) (by simp), later_cell (by simp [go_sem]) (by simp)⟩
set_option maxHeartbeats 1000000 in
theorem changeOf1 (o : OpD) (hk : o.kind = 1) (w : World) (ht : Tab w) (hs : o.txt.size ≤ maxLen) :
    Calls Tryd.prog 48 #[.agg #[.int .i64 o.kind, .int .i64 o.id, .int .i64 o.up, .int .i64 o.at_, .string o.txt]] w (RetBelow (.tuple #[chR o, .bool (opokB o)]) w) := by
  have hb : Below w.heap.size w (w.alloc (.cells #[.int .i64 1, .int .i64 o.id, .int .i64 o.up, .int .i64 o.at_, .string o.txt] 27)) := (Below.refl _ _).alloc (Nat.le_refl _) _
  have ht1 : Tab (w.alloc (.cells #[.int .i64 1, .int .i64 o.id, .int .i64 o.up, .int .i64 o.at_, .string o.txt] 27)) := ht.below hb ht.pos
  have HC : Hid (∀ x : Later (w.alloc (.cells #[.int .i64 1, .int .i64 o.id, .int .i64 o.up, .int .i64 o.at_, .string o.txt] 27)), Calls Tryd.prog 160 #[.agg #[.int .i64 o.id, .int .i64 o.up, .int .i64 o.at_, .string o.txt]] x.x (RetBelow (.bool (madeB o.id && spotB o.up o.at_ && textB o.txt)) x.x)) := fun x => makingOk_any o x.x (ht1.below x.h ht1.pos) hs
  have HE : Hid (opokB o = (madeB o.id && spotB o.up o.at_ && textB o.txt)) := by simp [Hid, opokB, hk]
  have HV : Hid (chV o = .iface 81 (.agg #[.int .i64 o.id, .int .i64 o.up, .int .i64 o.at_, .string o.txt])) := by simp [Hid, chV, hk]
  obtain ⟨L0, L1, L2, L3, L4⟩ := opbox_cells w 1 o.id o.up o.at_ o.txt
  rw [hk]
  have M1 := meth_mak_op
  have M2 := meth_mak_ok
  have M3 := neq_op
  clear hk
  cases hv : (madeB o.id && spotB o.up o.at_ && textB o.txt)
  · rw [hv] at HE HC
    have HR : Hid (chR o = .nilIface) := by simp [Hid, chR, HE.out]
    clear hv
    go_enter Tryd.func48, Tryd.ntmps48
    go_wp2_with fail
    refine wp_region_later (by kernel_rfl) (by kernel_rfl) ?_
    repeat (go_big_quiet_step (first | (go_at_call 161; exact later_of (makingOp_any o _)) | (go_at_call 160; exact later_of (HC.out _))))
    refine wpQuiet_nil ?_
    rintro wn ⟨⟨_, hbn⟩, rfl⟩
    clear L0 L1 L2 L3 L4 M1 M2 M3
    go_wp2
    go_ret2
    exact ⟨by rw [HR.out, HE.out]; rfl, hb.trans (hbn.mono hb.size)⟩
  · rw [hv] at HE HC
    have HR : Hid (chR o = chV o) := by simp [Hid, chR, HE.out]
    clear hv
    go_enter Tryd.func48, Tryd.ntmps48
    go_wp2_with fail
    refine wp_region_later (by kernel_rfl) (by kernel_rfl) ?_
    repeat (go_big_quiet_step (first | (go_at_call 161; exact later_of (makingOp_any o _)) | (go_at_call 160; exact later_of (HC.out _))))
    refine wpQuiet_nil ?_
    rintro wn ⟨⟨_, hbn⟩, rfl⟩
    clear L0 L1 L2 L3 L4 M1 M2 M3
    go_wp2
    go_ret2
    exact ⟨by rw [HR.out, HE.out, HV.out]; rfl, hb.trans (hbn.mono hb.size)⟩
set_option maxHeartbeats 1000000 in
theorem changeOf2 (o : OpD) (hk : o.kind = 2) (w : World) (ht : Tab w) (hs : o.txt.size ≤ maxLen) :
    Calls Tryd.prog 48 #[.agg #[.int .i64 o.kind, .int .i64 o.id, .int .i64 o.up, .int .i64 o.at_, .string o.txt]] w (RetBelow (.tuple #[chR o, .bool (opokB o)]) w) := by
  have hb : Below w.heap.size w (w.alloc (.cells #[.int .i64 2, .int .i64 o.id, .int .i64 o.up, .int .i64 o.at_, .string o.txt] 27)) := (Below.refl _ _).alloc (Nat.le_refl _) _
  have ht1 : Tab (w.alloc (.cells #[.int .i64 2, .int .i64 o.id, .int .i64 o.up, .int .i64 o.at_, .string o.txt] 27)) := ht.below hb ht.pos
  have HC : Hid (∀ x : Later (w.alloc (.cells #[.int .i64 2, .int .i64 o.id, .int .i64 o.up, .int .i64 o.at_, .string o.txt] 27)), Calls Tryd.prog 163 #[.agg #[.int .i64 o.id, .string o.txt]] x.x (RetBelow (.bool (madeB o.id && textB o.txt)) x.x)) := fun x => wordingOk_any o x.x (ht1.below x.h ht1.pos) hs
  have HE : Hid (opokB o = ((o.up == 0) && (o.at_ == 0) && madeB o.id && textB o.txt)) := by simp [Hid, opokB, hk]
  have HV : Hid (chV o = .iface 86 (.agg #[.int .i64 o.id, .string o.txt])) := by simp [Hid, chV, hk]
  have HO : Hid (∀ x : World, Calls Tryd.prog 164 #[.agg #[.int .i64 o.id, .string o.txt]] x (RetBelow (.agg #[.int .i64 2, .int .i64 o.id, .int .i64 0, .int .i64 0, .string o.txt]) x)) := fun x => wordingOp_any o x
  obtain ⟨L0, L1, L2, L3, L4⟩ := opbox_cells w 2 o.id o.up o.at_ o.txt
  have HRD : Hid (chR o = if opokB o then chV o else .nilIface) := rfl
  rw [hk]
  have M1 := meth_wor_op
  have M2 := meth_wor_ok
  have M3 := neq_op
  clear hk ht ht1
  generalize hR : chR o = R at *
  generalize hOK : opokB o = OK at *
  generalize hVV : chV o = VV at *
  clear hR hOK hVV hs
  obtain ⟨kind, id, u, a, t⟩ := o
  simp only at *
  by_cases hu : u = 0
  · by_cases ha : a = 0
    · subst hu ha
      have HE2 : Hid (OK = (madeB id && textB t)) := by rw [Hid, HE.out]; simp
      cases hv : (madeB id && textB t)
      · rw [hv] at HE2 HC
        have HR : Hid (R = .nilIface) := by rw [Hid, HRD.out, HE2.out]; rfl
        clear hv
        go_enter Tryd.func48, Tryd.ntmps48
        go_wp2_with fail
        refine wp_region_later (by kernel_rfl) (by kernel_rfl) ?_
        repeat (go_big_quiet_step (first | (go_at_call 164; exact later_of (HO.out _)) | (go_at_call 163; exact later_of (HC.out _))))
        refine wpQuiet_nil ?_
        rintro wn ⟨⟨_, hbn⟩, rfl⟩
        clear L0 L1 L2 L3 L4 M1 M2 M3
        go_wp2
        go_ret2
        exact ⟨by rw [HR.out, HE2.out]; rfl, hb.trans (hbn.mono hb.size)⟩
      · rw [hv] at HE2 HC
        have HR : Hid (R = VV) := by rw [Hid, HRD.out, HE2.out]; rfl
        clear hv
        go_enter Tryd.func48, Tryd.ntmps48
        go_wp2_with fail
        refine wp_region_later (by kernel_rfl) (by kernel_rfl) ?_
        repeat (go_big_quiet_step (first | (go_at_call 164; exact later_of (HO.out _)) | (go_at_call 163; exact later_of (HC.out _))))
        refine wpQuiet_nil ?_
        rintro wn ⟨⟨_, hbn⟩, rfl⟩
        clear L0 L1 L2 L3 L4 M1 M2 M3
        go_wp2
        go_ret2
        exact ⟨by rw [HR.out, HE2.out, HV.out]; rfl, hb.trans (hbn.mono hb.size)⟩
    · have q : ((0 : Int) == a) = false := by simpa using fun e => ha e.symm
      have HE2 : Hid (OK = false) := by rw [Hid, HE.out]; simp [ha]
      have HR : Hid (R = .nilIface) := by rw [Hid, HRD.out, HE2.out]; rfl
      subst hu
      clear ha
      go_enter Tryd.func48, Tryd.ntmps48
      go_wp2_with fail
      refine wp_region_later (by kernel_rfl) (by kernel_rfl) ?_
      repeat (go_big_quiet_step (first | (go_at_call 164; exact later_of (HO.out _)) | (go_at_call 163; exact later_of (HC.out _))))
      refine wpQuiet_nil ?_
      rintro wn ⟨⟨_, hbn⟩, rfl⟩
      clear L0 L1 L2 L3 L4 M1 M2 M3
      go_wp2
      go_ret2
      exact ⟨by rw [HR.out, HE2.out]; rfl, hb.trans (hbn.mono hb.size)⟩
  · have q : ((0 : Int) == u) = false := by simpa using fun e => hu e.symm
    have HE2 : Hid (OK = false) := by rw [Hid, HE.out]; simp [hu]
    have HR : Hid (R = .nilIface) := by rw [Hid, HRD.out, HE2.out]; rfl
    clear hu
    go_enter Tryd.func48, Tryd.ntmps48
    go_wp2_with fail
    refine wp_region_later (by kernel_rfl) (by kernel_rfl) ?_
    repeat (go_big_quiet_step (first | (go_at_call 164; exact later_of (HO.out _)) | (go_at_call 163; exact later_of (HC.out _))))
    refine wpQuiet_nil ?_
    rintro wn ⟨⟨_, hbn⟩, rfl⟩
    clear L0 L1 L2 L3 L4 M1 M2 M3
    go_wp2
    go_ret2
    exact ⟨by rw [HR.out, HE2.out]; rfl, hb.trans (hbn.mono hb.size)⟩
set_option maxHeartbeats 1000000 in
theorem changeOf3 (o : OpD) (hk : o.kind = 3) (w : World) (ht : Tab w) :
    Calls Tryd.prog 48 #[.agg #[.int .i64 o.kind, .int .i64 o.id, .int .i64 o.up, .int .i64 o.at_, .string o.txt]] w (RetBelow (.tuple #[chR o, .bool (opokB o)]) w) := by
  have hb : Below w.heap.size w (w.alloc (.cells #[.int .i64 3, .int .i64 o.id, .int .i64 o.up, .int .i64 o.at_, .string o.txt] 27)) := (Below.refl _ _).alloc (Nat.le_refl _) _
  have ht1 : Tab (w.alloc (.cells #[.int .i64 3, .int .i64 o.id, .int .i64 o.up, .int .i64 o.at_, .string o.txt] 27)) := ht.below hb ht.pos
  have HC : Hid (∀ x : Later (w.alloc (.cells #[.int .i64 3, .int .i64 o.id, .int .i64 o.up, .int .i64 o.at_, .string o.txt] 27)), Calls Tryd.prog 166 #[.agg #[.int .i64 o.id, .int .i64 o.up, .int .i64 o.at_]] x.x (RetBelow (.bool (madeB o.id && spotB o.up o.at_)) x.x)) := fun x => movingOk_any o x.x (ht1.below x.h ht1.pos)
  have HE : Hid (opokB o = ((o.txt.toList == []) && madeB o.id && spotB o.up o.at_)) := by simp [Hid, opokB, hk]
  have HV : Hid (chV o = .iface 88 (.agg #[.int .i64 o.id, .int .i64 o.up, .int .i64 o.at_])) := by simp [Hid, chV, hk]
  have HO : Hid (∀ x : World, Calls Tryd.prog 87 #[.agg #[.int .i64 o.id, .int .i64 o.up, .int .i64 o.at_]] x (RetBelow (.agg #[.int .i64 3, .int .i64 o.id, .int .i64 o.up, .int .i64 o.at_, .string ⟨#[]⟩]) x)) := fun x => movingOp_any o x
  obtain ⟨L0, L1, L2, L3, L4⟩ := opbox_cells w 3 o.id o.up o.at_ o.txt
  have HRD : Hid (chR o = if opokB o then chV o else .nilIface) := rfl
  rw [hk]
  have M1 := meth_mov_op
  have M2 := meth_mov_ok
  have M3 := neq_op
  have q0 : (ByteArray.mk #[]).toList = [] := by simp [ByteArray.toList_eq]
  clear hk ht ht1
  generalize hR : chR o = R at *
  generalize hOK : opokB o = OK at *
  generalize hVV : chV o = VV at *
  clear hR hOK hVV
  obtain ⟨kind, id, u, a, t⟩ := o
  simp only at *
  cases hte : (t.toList == [])
  · have q : (([] : List UInt8) == t.toList) = false := by
      rw [Bool.eq_false_iff] at hte ⊢
      intro e; apply hte
      rw [beq_iff_eq] at e ⊢; exact e.symm
    have HE2 : Hid (OK = false) := by rw [Hid, HE.out, hte]; rfl
    have HR : Hid (R = .nilIface) := by rw [Hid, HRD.out, HE2.out]; rfl
    clear hte
    go_enter Tryd.func48, Tryd.ntmps48
    go_wp2_with fail
    refine wp_region_later (by kernel_rfl) (by kernel_rfl) ?_
    repeat (go_big_quiet_step (first | (go_at_call 87; exact later_of (HO.out _)) | (go_at_call 166; exact later_of (HC.out _))))
    refine wpQuiet_nil ?_
    rintro wn ⟨⟨_, hbn⟩, rfl⟩
    clear L0 L1 L2 L3 L4 M1 M2 M3
    go_wp2
    go_ret2
    exact ⟨by rw [HR.out, HE2.out]; rfl, hb.trans (hbn.mono hb.size)⟩
  · have HE2 : Hid (OK = (madeB id && spotB u a)) := by rw [Hid, HE.out, hte]; simp
    have q : (([] : List UInt8) == t.toList) = true := by
      rw [beq_iff_eq] at hte ⊢; exact hte.symm
    have q1 := beq_iff_eq.1 hte
    clear hte
    cases hv : (madeB id && spotB u a)
    · rw [hv] at HE2 HC
      have HR : Hid (R = .nilIface) := by rw [Hid, HRD.out, HE2.out]; rfl
      clear hv
      go_enter Tryd.func48, Tryd.ntmps48
      go_wp2_with fail
      refine wp_region_later (by kernel_rfl) (by kernel_rfl) ?_
      repeat (go_big_quiet_step (first | (go_at_call 87; exact later_of (HO.out _)) | (go_at_call 166; exact later_of (HC.out _))))
      refine wpQuiet_nil ?_
      rintro wn ⟨⟨_, hbn⟩, rfl⟩
      clear L0 L1 L2 L3 L4 M1 M2 M3
      go_wp2
      go_ret2
      exact ⟨by rw [HR.out, HE2.out]; rfl, hb.trans (hbn.mono hb.size)⟩
    · rw [hv] at HE2 HC
      have HR : Hid (R = VV) := by rw [Hid, HRD.out, HE2.out]; rfl
      clear hv
      go_enter Tryd.func48, Tryd.ntmps48
      go_wp2_with fail
      refine wp_region_later (by kernel_rfl) (by kernel_rfl) ?_
      repeat (go_big_quiet_step (first | (go_at_call 87; exact later_of (HO.out _)) | (go_at_call 166; exact later_of (HC.out _))))
      refine wpQuiet_nil ?_
      rintro wn ⟨⟨_, hbn⟩, rfl⟩
      clear L0 L1 L2 L3 L4 M1 M2 M3
      go_wp2
      go_ret2
      exact ⟨by rw [HR.out, HE2.out, HV.out]; rfl, hb.trans (hbn.mono hb.size)⟩
theorem changeOf0 (o : OpD) (h1 : o.kind ≠ 1) (h2 : o.kind ≠ 2) (h3 : o.kind ≠ 3) (w : World) :
    Calls Tryd.prog 48 #[.agg #[.int .i64 o.kind, .int .i64 o.id, .int .i64 o.up, .int .i64 o.at_, .string o.txt]] w (RetBelow (.tuple #[chR o, .bool (opokB o)]) w) := by
  have hb : Below w.heap.size w (w.alloc (.cells #[.int .i64 o.kind, .int .i64 o.id, .int .i64 o.up, .int .i64 o.at_, .string o.txt] 27)) := (Below.refl _ _).alloc (Nat.le_refl _) _
  have HE : Hid (opokB o = false) := by simp [Hid, opokB, h1, h2, h3]
  have HR : Hid (chR o = .nilIface) := by rw [Hid, chR, HE.out]; rfl
  go_enter Tryd.func48, Tryd.ntmps48
  go_wp2
  go_ret2
  exact ⟨by rw [HR.out, HE.out]; rfl, hb⟩
theorem changeOf_any (o : OpD) (w : World) (ht : Tab w) (hs : o.txt.size ≤ maxLen) :
    Calls Tryd.prog 48 #[.agg #[.int .i64 o.kind, .int .i64 o.id, .int .i64 o.up, .int .i64 o.at_, .string o.txt]] w (RetBelow (.tuple #[chR o, .bool (opokB o)]) w) := by
  by_cases h1 : o.kind = 1
  · exact changeOf1 o h1 w ht hs
  · by_cases h2 : o.kind = 2
    · exact changeOf2 o h2 w ht hs
    · by_cases h3 : o.kind = 3
      · exact changeOf3 o h3 w ht
      · exact changeOf0 o h1 h2 h3 w
end Go.Proofs.YtclhjgcapalniaaDoor
/-
  Contracts of the program's (*node).nearest and where: the nodes under which and behind which a change puts its row. Conditions: the nodes lie in memory as treeOf makes them of a valid outline.
-/
namespace Go.Proofs.YtclhjgcapalniaaDoor
open Go.ChangeShapes Go.WideShapes Go.ChangeAt Go.RowKit Go.Joins

theorem padr_none (nb : Nat → Nat) : padr nb none = none := rfl
theorem padr_some (nb : Nat → Nat) (i : Nat) : padr nb (some i) = some ⟨nb i, 0, none⟩ := rfl
/-- The node of a number, if it is there. -/
def nodeO (rs : List RowD) (id : Int) : Option Nat := if thereB rs id then some (atN rs id + 1) else none
theorem nodeO_yes {rs : List RowD} {id : Int} (h : thereB rs id = true) : nodeO rs id = some (atN rs id + 1) := by simp [nodeO, h]
theorem nodeO_no {rs : List RowD} {id : Int} (h : thereB rs id = false) : nodeO rs id = none := by simp [nodeO, h]
theorem there_lt {rs : List RowD} {id : Int} (h : thereB rs id = true) : atN rs id < rs.length := by simpa [thereB] using h
theorem fnd_node {rs : List RowD} {id : Int} (ht : treeB rs = true) : fndO rs (nodesN rs) id = nodeO rs id := by
  cases h : thereB rs id
  · rw [nodeO_no h, fnd_no]
    simp only [thereB] at h
    simp [hasB, ht, h]
  · rw [nodeO_yes h, fnd_yes]
    rw [hasB_iff]; exact ⟨ht, there_lt h⟩
theorem find_tree (nb : Nat → Nat) (rs : List RowD) (ht : treeB rs = true) (id : Int) (w : World) (hN : Nodes w nb rs (rs.length + 1)) :
    Calls Tryd.prog 47 #[.pointer (some ⟨nb 0, 0, none⟩), .int .i64 id] w (RetBelow (.pointer (padr nb (nodeO rs id))) w) := by
  have := find_any nb rs id w (by rw [nodesN_tree ht]; exact hN)
  rw [fnd_node ht] at this
  exact this
def nearU (rs : List RowD) (up : Int) : Option Nat := if thereB rs up then some (atN rs up + 1) else nodeO rs 3
def nearA (rs : List RowD) (up at' : Int) (row : Option Nat) : Option Nat :=
  if thereB rs up && thereB rs at' && !(row == some (atN rs at' + 1)) && (par (dp rs) (atN rs at' + 1) == atN rs up + 1) then some (atN rs at' + 1) else none
theorem eql_other {w : World} {a b : Nat} {ca cb : Array Value} {ta tb : TypeId} (hne : a ≠ b) (ha : w.heap[a]? = some (.cells ca ta (0, 0))) (hb : w.heap[b]? = some (.cells cb tb (0, 0))) :
    (binOp .eql 69 (.pointer (some ⟨a, 0, none⟩)) (.pointer (some ⟨b, 0, none⟩))).run Tryd.prog w = .ok (.bool false) w := by
  simp only [binOp]
  simp [equal_nodes (run_sameAddr_other (P := Tryd.prog) (w := w) (a := ⟨a, 0, none⟩) (b := ⟨b, 0, none⟩) (fun e => by cases e; exact hne rfl) ha hb)]
theorem eql_nil2 (w : World) (b : Nat) : (binOp .eql 69 (.pointer (some ⟨b, 0, none⟩)) (.pointer none)).run Tryd.prog w = .ok (.bool false) w := by
  have : (Op.equal 69 (.pointer (some ⟨b, 0, none⟩)) (.pointer none)).run Tryd.prog w = .ok false w := by
    show (Op.equalIn (9999 + 1) 69 (.pointer (some ⟨b, 0, none⟩)) (.pointer none)).run Tryd.prog w = _
    generalize 9999 = d
    unfold Op.equalIn
    simp [run_underlying Tryd.underlying69]
  simp only [binOp]
  simp [this]
theorem spot_cells (w : World) (u a : Int) : let W := w.alloc (.cells #[.int .i64 u, .int .i64 a] 79);
    (∀ x : Later W, x.x.cell? ⟨w.heap.size, 0, none⟩ = some (.int .i64 u)) ∧ (∀ x : Later W, x.x.cell? ⟨w.heap.size, 1, none⟩ = some (.int .i64 a)) :=
  ⟨later_cell (by simp [go_sem]) (by simp), later_cell (by simp [go_sem]) (by simp)⟩
set_option maxRecDepth 100000 in
set_option maxHeartbeats 2000000 in
theorem nearest_any (nb : Nat → Nat) (rs : List RowD) (ht : treeB rs = true) (up at' : Int) (row : Option Nat) (w : World) (hN : Nodes w nb rs (rs.length + 1)) (hrow : ∀ r, row = some r → r < rs.length + 1) :
    Calls Tryd.prog 90 #[.pointer (some ⟨nb 0, 0, none⟩), .agg #[.int .i64 up, .int .i64 at'], .pointer (padr nb row)] w
      (RetBelow (.tuple #[.pointer (padr nb (nearU rs up)), .pointer (padr nb (nearA rs up at' row))]) w) := by
  have hD := (treeP_of ht).deps
  have hb : Below w.heap.size w (w.alloc (.cells #[.int .i64 up, .int .i64 at'] 79)) := (Below.refl _ _).alloc (Nat.le_refl _) _
  have hN1 := hN.below hb
  obtain ⟨L0, L1⟩ := spot_cells w up at'
  have HC : Hid (∀ (id : Int) (x : Later (w.alloc (.cells #[.int .i64 up, .int .i64 at'] 79))), Calls Tryd.prog 47 #[.pointer (some ⟨nb 0, 0, none⟩), .int .i64 id] x.x (RetBelow (.pointer (padr nb (nodeO rs id))) x.x)) := fun id x => find_tree nb rs ht id x.x (hN1.below x.h)
  have HF : Hid (∀ (id : Int) (x : World), Nodes x nb rs (rs.length + 1) → Calls Tryd.prog 47 #[.pointer (some ⟨nb 0, 0, none⟩), .int .i64 id] x (RetBelow (.pointer (padr nb (nodeO rs id))) x)) := fun id x hx => find_tree nb rs ht id x hx
  have HD := Lib.hid hD
  clear hD
  cases hu : thereB rs up
  · have hU : nearU rs up = nodeO rs 3 := by simp [nearU, hu]
    have hA : nearA rs up at' row = none := by simp [nearA, hu]
    rw [hU, hA]
    have HNo := Lib.hid (nodeO_no hu)
    clear hU hA hu hrow
    generalize hov : nodeO rs at' = ov at *
    go_enter Tryd.func90, Tryd.ntmps90
    go_wp2_with fail
    refine wp_region_later (by kernel_rfl) (by kernel_rfl) ?_
    repeat (go_big_quiet_step ((go_at_call 47; exact later_of (HC.out _ _))))
    refine wpQuiet_nil ?_
    rintro wn ⟨⟨_, hbn⟩, rfl⟩
    clear L0 L1
    rw [HNo.out]
    simp only [padr_none]
    have hb2 := hb.trans (hbn.mono hb.size)
    go_wp2_with fail
    refine (HF.out _ _ (hN.below hb2)).mono ?_
    rintro e w3 ⟨rfl, hb3⟩
    go_wp2
    go_ret2
    exact ⟨rfl, hb2.trans (hb3.mono hb2.size)⟩
  · have hU : nearU rs up = some (atN rs up + 1) := by simp [nearU, hu]
    have hul := there_lt hu
    rw [hU]
    have HNo := Lib.hid (nodeO_yes hu)
    clear hU
    cases ha : thereB rs at'
    · have hA : nearA rs up at' row = none := by simp [nearA, ha]
      rw [hA]
      have HNa := Lib.hid (nodeO_no ha)
      clear hA ha hu hrow
      go_enter Tryd.func90, Tryd.ntmps90
      go_wp2_with fail
      refine wp_region_later (by kernel_rfl) (by kernel_rfl) ?_
      repeat (go_big_quiet_step ((go_at_call 47; exact later_of (HC.out _ _))))
      refine wpQuiet_nil ?_
      rintro wn ⟨⟨_, hbn⟩, rfl⟩
      clear L0 L1
      rw [HNo.out, HNa.out]
      simp only [padr_none, padr_some]
      have hb2 := hb.trans (hbn.mono hb.size)
      go_wp2
      go_ret2
      exact ⟨rfl, hb2⟩
    · have HNa := Lib.hid (nodeO_yes ha)
      have hal := there_lt ha
      have hpa := (par_spec HD.out (show 1 ≤ atN rs at' + 1 by omega) (by omega)).1
      have HAd : Hid (nearA rs up at' row = if !(row == some (atN rs at' + 1)) && (par (dp rs) (atN rs at' + 1) == atN rs up + 1) then some (atN rs at' + 1) else none) := by simp [Hid, nearA, hu, ha]
      have HUO : Hid (upO rs (atN rs at' + 1) = some (par (dp rs) (atN rs at' + 1))) := by unfold Hid upO; rw [if_neg (by omega)]
      clear hu ha
      generalize hAA : nearA rs up at' row = AA at *
      clear hAA
      generalize hx : atN rs at' + 1 = x at *
      have hxl : x < rs.length + 1 := by omega
      clear hx
      generalize hy : atN rs up + 1 = y at *
      have hyl : y < rs.length + 1 := by omega
      clear hy
      go_enter Tryd.func90, Tryd.ntmps90
      go_wp2_with fail
      refine wp_region_later (by kernel_rfl) (by kernel_rfl) ?_
      repeat (go_big_quiet_step ((go_at_call 47; exact later_of (HC.out _ _))))
      refine wpQuiet_nil ?_
      rintro wn ⟨⟨_, hbn⟩, rfl⟩
      clear L0 L1 HC HF hal hul
      rw [HNo.out, HNa.out]
      simp only [padr_some]
      have hb2 := hb.trans (hbn.mono hb.size)
      have hN2 := hN.below hb2
      rename_i wn _
      generalize par (dp rs) x = p at *
      have l3 := (hN2.links hxl).1
      rw [HUO.out] at l3
      simp only [padr_some] at l3
      by_cases hrx : row = some x
      · have HA : Hid (AA = none) := by rw [Hid, HAd.out]; simp [hrx]
        subst hrx
        simp only [padr_some]
        have hq := eql_same wn (nb x)
        go_wp2
        go_ret2
        exact ⟨by rw [HA.out]; rfl, hb2⟩
      · have hrb : (row == some x) = false := by simpa using hrx
        have HA : Hid (AA = if p == y then some x else none) := by rw [Hid, HAd.out, hrb]; simp
        have hq : (binOp .eql 69 (.pointer (some ⟨nb x, 0, none⟩)) (.pointer (padr nb row))).run Tryd.prog wn = .ok (.bool false) wn := by
          cases row with
          | none => exact eql_nil2 wn (nb x)
          | some r => exact eql_other (hN2.ne hxl (hrow r rfl) (fun e => hrx (by rw [e]))) (hN2.blk x hxl) (hN2.blk r (hrow r rfl))
        by_cases hpy : p = y
        · subst hpy
          have HA2 : Hid (AA = some x) := by rw [Hid, HA.out]; simp
          have hq2 := neq_same wn (nb p)
          go_wp2
          go_ret2
          exact ⟨by rw [HA2.out]; rfl, hb2⟩
        · have HA2 : Hid (AA = none) := by rw [Hid, HA.out]; simp [hpy]
          have hpl : p < rs.length + 1 := by omega
          have hq2 := neq_other (w := wn) (hN2.ne hpl hyl hpy) (hN2.blk p hpl) (hN2.blk y hyl)
          go_wp2
          go_ret2
          exact ⟨by rw [HA2.out]; rfl, hb2⟩
end Go.Proofs.YtclhjgcapalniaaDoor
/-
  Plain mathematics: where a change puts its row, by nodes and by numbers. Nothing of the program is run here. Conditions: none beyond the lemmas' own premises.
-/
namespace Go.Proofs.YtclhjgcapalniaaDoor

theorem there_iff {rs : List RowD} {id : Int} : thereB rs id = true ↔ atN rs id < rs.length := by simp [thereB]
theorem kids_at {rs : List RowD} (ht : treeB rs = true) {up at' : Int} (hu : thereB rs up = true) : at' ∈ kidsL rs up ↔ (thereB rs at' = true ∧ par (dp rs) (atN rs at' + 1) = atN rs up + 1) := by
  have hul := there_iff.1 hu
  have eu := atN_id hul
  have hk : kidsL rs up = kidsT rs (rat rs (atN rs up)).id := by rw [eu]; simp [kidsT, ht]
  constructor
  · intro h
    have h2 : atN rs at' < rs.length := kidsL_there h
    refine ⟨there_iff.2 h2, ?_⟩
    rw [← kid_par ht hul h2, atN_id h2, ← hk]; exact h
  · rintro ⟨h1, h2⟩
    have hl := there_iff.1 h1
    have := (kid_par ht hul hl).2 h2
    rw [atN_id hl, ← hk] at this; exact this
theorem there_pos {rs : List RowD} (ht : treeB rs = true) {id : Int} (h : thereB rs id = true) : 1 ≤ id ∧ id ≤ 36 := by
  have hl := there_iff.1 h
  have := rok_id ((treeP_of ht).rok _ hl)
  rw [atN_id hl] at this; exact this
theorem at_inj {rs : List RowD} {a b : Int} (ha : thereB rs a = true) (hb : thereB rs b = true) (h : atN rs a = atN rs b) : a = b := by
  rw [← atN_id (there_iff.1 ha), ← atN_id (there_iff.1 hb), h]
theorem third_root (rs : List RowD) : ∀ k, nroots rs k = 3 → ∃ i, i < k ∧ rootB (rat rs i).id = true ∧ nroots rs i = 2
  | 0, h => by simp [nroots] at h
  | k + 1, h => by
    unfold nroots at h
    by_cases hr : rootB (rat rs k).id = true
    · rw [if_pos hr] at h
      exact ⟨k, by omega, hr, by omega⟩
    · rw [if_neg hr] at h
      obtain ⟨i, a, b⟩ := third_root rs k (by omega)
      exact ⟨i, by omega, b⟩
theorem tree_three {rs : List RowD} (ht : treeB rs = true) : thereB rs 3 = true := by
  have hT := treeP_of ht
  obtain ⟨i, a, b, c⟩ := third_root rs rs.length hT.three
  have e := hT.rord i a b
  rw [c] at e
  have := there_at a
  rw [e] at this
  exact there_iff.2 this
def rowO (rs : List RowD) (o : OpD) : Option Nat := if o.kind = 3 then nodeO rs o.id else none
theorem nearA_where {rs : List RowD} {o : OpD} (ht : treeB rs = true) (hk : o.kind = 1 ∨ o.kind = 3) (hn : noWhereB rs o = false) (hu : thereB rs o.up = true) :
    nearA rs o.up o.at_ (rowO rs o) = if 0 < whereA rs o then some (atN rs (whereA rs o) + 1) else none := by
  have hA : whereA rs o = atOfL (kidsL rs o.up) o := by simp [whereA, hn, hu]
  have hany : ((kidsL rs o.up).any (fun x => (x == o.at_) && (o.at_ != o.id))) = true ↔ (o.at_ ∈ kidsL rs o.up ∧ o.at_ ≠ o.id) := by
    simp only [List.any_eq_true, Bool.and_eq_true, beq_iff_eq, bne_iff_ne, ne_eq]
    constructor
    · rintro ⟨x, h1, rfl, h2⟩; exact ⟨h1, h2⟩
    · rintro ⟨h1, h2⟩; exact ⟨_, h1, rfl, h2⟩
  by_cases hc : o.at_ ∈ kidsL rs o.up ∧ o.at_ ≠ o.id
  · have h1 := (kids_at ht hu).1 hc.1
    have e : whereA rs o = o.at_ := by rw [hA, atOfL, if_pos (hany.2 hc)]
    have hp := (there_pos ht h1.1).1
    rw [e, if_pos (by omega)]
    have hr : (rowO rs o == some (atN rs o.at_ + 1)) = false := by
      rw [beq_eq_false_iff_ne]; intro g
      unfold rowO at g; split at g
      · unfold nodeO at g; split at g
        · rename_i hid
          have := Option.some.inj g
          exact hc.2 (at_inj h1.1 hid (by omega))
        · cases g
      · cases g
    simp [nearA, hu, h1.1, hr, h1.2]
  · have e : whereA rs o = 0 := by rw [hA, atOfL, if_neg (fun g => hc (hany.1 g))]
    rw [e, if_neg (by omega)]
    unfold nearA
    rw [if_neg]
    intro g
    simp only [Bool.and_eq_true, Bool.not_eq_true', beq_iff_eq] at g
    obtain ⟨⟨⟨_, g2⟩, g3⟩, g4⟩ := g
    refine hc ⟨(kids_at ht hu).2 ⟨g2, g4⟩, fun e2 => ?_⟩
    rcases hk with hk | hk
    · rw [e2] at g2
      simp [noWhereB, hk, g2] at hn
    · have : rowO rs o = some (atN rs o.at_ + 1) := by rw [e2] at g2 ⊢; simp [rowO, hk, nodeO, g2]
      rw [this] at g3; simp at g3
/-- The nodes under which, and behind which, a change puts its row. -/
def whU (rs : List RowD) (o : OpD) : Option Nat := if noWhereB rs o then none else some (atN rs (whereU rs o) + 1)
def whA (rs : List RowD) (o : OpD) : Option Nat := if noWhereB rs o then none else if 0 < whereA rs o then some (atN rs (whereA rs o) + 1) else none
theorem near_whU {rs : List RowD} {o : OpD} (ht : treeB rs = true) (hn : noWhereB rs o = false) : nearU rs o.up = whU rs o := by
  unfold whU nearU whereU
  rw [hn]
  simp only [Bool.false_eq_true, if_false]
  split
  · rfl
  · rw [nodeO_yes (tree_three ht)]
theorem near_whA {rs : List RowD} {o : OpD} (ht : treeB rs = true) (hk : o.kind = 1 ∨ o.kind = 3) (hn : noWhereB rs o = false) : nearA rs o.up o.at_ (rowO rs o) = whA rs o := by
  cases hu : thereB rs o.up
  · have e : whereA rs o = 0 := by simp [whereA, hu]
    simp [nearA, hu, whA, e]
  · rw [nearA_where ht hk hn hu]
    unfold whA
    rw [hn]; simp
theorem wh_no {rs : List RowD} {o : OpD} (hn : noWhereB rs o = true) : whU rs o = none ∧ whA rs o = none := by simp [whU, whA, hn]
theorem noWhere1 {rs : List RowD} {o : OpD} (hk : o.kind = 1) : noWhereB rs o = thereB rs o.id := by
  cases h : thereB rs o.id <;> simp [noWhereB, hk, h]
theorem noWhere2 {rs : List RowD} {o : OpD} (hk : o.kind = 2) : noWhereB rs o = true := by simp [noWhereB, hk]
theorem noWhere3 {rs : List RowD} {o : OpD} (hk : o.kind = 3) : noWhereB rs o = (!thereB rs o.id || undB rs o.up o.id) := by
  cases h : thereB rs o.id <;> simp [noWhereB, hk, h]
theorem undB_node {rs : List RowD} (ht : treeB rs = true) {a b : Int} (ha : thereB rs a = true) (hb : thereB rs b = true) : undB rs a b = unB (dp rs) (rs.length + 1) (atN rs a + 1) (atN rs b + 1) := by
  have h1 : hasB rs a = true := hasB_iff.2 ⟨ht, there_iff.1 ha⟩
  have h2 : hasB rs b = true := hasB_iff.2 ⟨ht, there_iff.1 hb⟩
  rw [← undT_eq h1 h2]; simp [undT, ht]
theorem undB_gone {rs : List RowD} {a b : Int} (ha : thereB rs a = false) : undB rs a b = false := by
  have : ¬ atN rs a < rs.length := by simpa [thereB] using ha
  simp [undB, this]
end Go.Proofs.YtclhjgcapalniaaDoor
/-
  Plain mathematics: the links of a tree of nodes when a node is taken out and put in elsewhere, when a new one is put in, and the rows that they then say: those of the changed outline. Nothing of the program is run here. Conditions: none beyond the lemmas' own premises.
-/
namespace Go.Proofs.YtclhjgcapalniaaDoor

theorem nx_ah {D : Nat → Int} {m y n : Nat} (hn : 1 ≤ n) (hm : n < m) (hy : 1 ≤ y) : nx D m y = some n ↔ ah D n = some y := by
  constructor
  · intro h
    obtain ⟨a, b, c⟩ := fstBelow_some _ _ _ h
    simp only [Bool.and_eq_true, decide_eq_true_eq, isKid_iff] at b
    refine lstBelow_mk _ _ _ b.1 (isKid_iff.2 ⟨hy, b.2.2.symm⟩) (fun i h1 h2 => ?_)
    have := c i h2
    rw [Bool.eq_false_iff] at this ⊢
    intro g; apply this
    rw [b.2.2] at g
    simp [h1, g]
  · intro h
    obtain ⟨a, b, c⟩ := lstBelow_some _ _ _ h
    have b' := isKid_iff.1 b
    refine fstBelow_mk _ _ _ hm (by simp [a, isKid_iff, hn, b'.2]) (fun i hi => ?_)
    rw [Bool.eq_false_iff]; intro g
    simp only [Bool.and_eq_true, decide_eq_true_eq] at g
    have := c i g.1 hi
    rw [b'.2] at g
    rw [g.2] at this; cases this
theorem fi_ah {D : Nat → Int} {m p n : Nat} (hn : 1 ≤ n) (hm : n < m) : fi D m p = some n ↔ (par D n = p ∧ ah D n = none) := by
  constructor
  · intro h
    obtain ⟨a, b, c⟩ := fstBelow_some _ _ _ h
    have b' := isKid_iff.1 b
    refine ⟨b'.2, lstBelow_mk_none _ _ (fun i hi => ?_)⟩
    rw [b'.2]; exact c i hi
  · rintro ⟨h1, h2⟩
    refine fstBelow_mk _ _ _ hm (isKid_iff.2 ⟨hn, h1⟩) (fun i hi => ?_)
    have := lstBelow_none _ _ h2 i hi
    rw [h1] at this; exact this
theorem joinL_up (L : L5) (p : Nat) (a x : Option Nat) : (joinL L p a x).up = L.up := by cases a <;> cases x <;> rfl
theorem joinL_fi0 (L : L5) (p : Nat) (x : Option Nat) : (joinL L p none x).fi = upd L.fi p x := by cases x <;> rfl
theorem joinL_fi1 (L : L5) (p a : Nat) (x : Option Nat) : (joinL L p (some a) x).fi = L.fi := by cases x <;> rfl
theorem joinL_nx0 (L : L5) (p : Nat) (x : Option Nat) : (joinL L p none x).nx = L.nx := by cases x <;> rfl
theorem joinL_nx1 (L : L5) (p a : Nat) (x : Option Nat) : (joinL L p (some a) x).nx = upd L.nx a x := by cases x <;> rfl
/-- The links behind (*node).cut. -/
def cut5 (L : L5) (n p : Nat) : L5 := { joinL L p (L.ah n) (L.nx n) with up := upd (joinL L p (L.ah n) (L.nx n)).up n none, ah := upd (joinL L p (L.ah n) (L.nx n)).ah n none, nx := upd (joinL L p (L.ah n) (L.nx n)).nx n none }
theorem l5D_lk (rs : List RowD) (m : Nat) : (l5D rs m).lk = linksD (dp rs) m := rfl
theorem cut_links {rs : List RowD} {m n : Nat} (_hD : Deps (dp rs) m) (hn : 1 ≤ n) (hm : n < m) (y : Nat) :
    (y ≠ n → (cut5 (l5D rs m) n (par (dp rs) n)).up y = (cutL (linksD (dp rs) m) n).up y) ∧ (cut5 (l5D rs m) n (par (dp rs) n)).fi y = (cutL (linksD (dp rs) m) n).fi y ∧ (y ≠ n → (cut5 (l5D rs m) n (par (dp rs) n)).nx y = (cutL (linksD (dp rs) m) n).nx y) := by
  have n0 : n ≠ 0 := by omega
  have hah : (l5D rs m).ah n = ah (dp rs) n := by show ahO rs n = _; unfold ahO; rw [if_neg n0]
  have hnx : (l5D rs m).nx n = nx (dp rs) m n := by show nxO rs m n = _; unfold nxO; rw [if_neg n0]
  have hnx2 : (linksD (dp rs) m).nx n = nx (dp rs) m n := by show (if n = 0 then none else _) = _; rw [if_neg n0]
  refine ⟨fun hy => ?_, ?_, fun hy => ?_⟩
  · show upd _ n none y = _
    rw [upd_ne hy, joinL_up]; rfl
  · show (joinL _ _ _ _).fi y = if fi (dp rs) m y = some n then (linksD (dp rs) m).nx n else fi (dp rs) m y
    rw [hah, hnx, hnx2]
    cases ha : ah (dp rs) n with
    | none =>
      rw [joinL_fi0]
      unfold upd
      by_cases e : y = par (dp rs) n
      · rw [if_pos e, if_pos ((fi_ah hn hm).2 ⟨e.symm, ha⟩)]
      · rw [if_neg e, if_neg (fun g => e ((fi_ah hn hm).1 g).1.symm)]; rfl
    | some a =>
      rw [joinL_fi1, if_neg (fun g => by rw [((fi_ah hn hm).1 g).2] at ha; cases ha)]; rfl
  · show upd _ n none y = if (linksD (dp rs) m).nx y = some n then (linksD (dp rs) m).nx n else (linksD (dp rs) m).nx y
    rw [upd_ne hy, hah, hnx, hnx2]
    cases ha : ah (dp rs) n with
    | none =>
      rw [joinL_nx0, if_neg]
      · rfl
      · intro g
        by_cases y0 : y = 0
        · subst y0; cases g
        · have g' : nx (dp rs) m y = some n := by have := g; simp only [linksD, if_neg y0] at this; exact this
          rw [nx_ah hn hm (by omega), ha] at g'; cases g'
    | some a =>
      rw [joinL_nx1]
      unfold upd
      by_cases e : y = a
      · subst e
        have y1 : 1 ≤ y := (isKid_iff.1 (lstBelow_some _ _ _ ha).2.1).1
        have g' := (nx_ah (m := m) hn hm y1).2 ha
        have g : (linksD (dp rs) m).nx y = some n := by simp only [linksD, if_neg (show y ≠ 0 by omega)]; exact g'
        rw [if_pos rfl, if_pos g]
      · rw [if_neg e, if_neg]
        · rfl
        · intro g
          by_cases y0 : y = 0
          · subst y0; cases g
          · have g' : nx (dp rs) m y = some n := by have := g; simp only [linksD, if_neg y0] at this; exact this
            rw [nx_ah hn hm (by omega), ha] at g'; exact e (Option.some.inj g').symm
theorem put_lkF (L : L5) (q n : Nat) (_hqn : q ≠ n) : (putL L q n none).lk = insFL L.lk q n := by
  unfold L5.lk insFL
  have e1 : (putL L q n none).up = fun y => if y = n then some q else L.up y := by
    unfold putL; rw [joinL_up, joinL_up]; rfl
  have e2 : (putL L q n none).nx = fun y => if y = n then L.fi q else L.nx y := by
    unfold putL; rw [joinL_nx1, joinL_nx0]; unfold put1; simp only; rw [upd_upd]; rfl
  have e3 : (putL L q n none).fi = fun y => if y = q then some n else L.fi y := by
    unfold putL; rw [joinL_fi1, joinL_fi0]; rfl
  rw [e1, e2, e3]
theorem put_lkA (L : L5) (q n a : Nat) (_han : a ≠ n) : (putL L q n (some a)).lk = insAL L.lk q a n := by
  unfold L5.lk insAL
  have e1 : (putL L q n (some a)).up = fun y => if y = n then some q else L.up y := by
    unfold putL; rw [joinL_up, joinL_up]; rfl
  have e2 : (putL L q n (some a)).nx = fun y => if y = n then L.nx a else if y = a then some n else L.nx y := by
    unfold putL; rw [joinL_nx1, joinL_nx1]; unfold put1 nextOf upd; funext y
    by_cases h1 : y = n
    · simp [h1]
    · by_cases h2 : y = a <;> simp [h1, h2]
  have e3 : (putL L q n (some a)).fi = L.fi := by
    unfold putL; rw [joinL_fi1, joinL_fi1]; rfl
  rw [e1, e2, e3]
/-- The links say, in preorder, these rows. -/
def Shows (L : L5) (R : Nat → RowD) (M : Nat) (rs : List RowD) : Prop :=
  ∃ g : Fo, g.Ok L.lk 0 ∧ L.fi 0 = g.root ∧ g.nodes.Nodup ∧ (∀ x ∈ g.nodes, 1 ≤ x ∧ x < M) ∧ toRs R (g.pre 0) = rs
def idO (R : Nat → RowD) : Option Nat → Int
  | none => 0
  | some a => (R a).id
theorem nodup_ins {A X B : List Nat} (h : (A ++ B).Nodup) (hx : X.Nodup) (hd : ∀ x ∈ X, x ∉ A ++ B) : (A ++ (X ++ B)).Nodup := by
  simp only [List.nodup_append, List.mem_append, not_or] at *
  obtain ⟨a, b, c⟩ := h
  refine ⟨a, ⟨hx, b, fun x h1 y h2 e => (hd x h1).2 (e ▸ h2)⟩, fun x h1 y h2 e => ?_⟩
  rcases h2 with h2 | h2
  · exact (hd y h2).1 (e ▸ h1)
  · exact c x h1 y h2 e
theorem put_shows {L : L5} {R : Nat → RowD} {g s : Fo} {q n M : Nat} {a : Option Nat} (dn : Int) (hg : g.Ok L.lk 0) (hgr : L.fi 0 = g.root) (hnd : g.nodes.Nodup) (hb : ∀ x ∈ g.nodes, 1 ≤ x ∧ x < M) (hi : IdInj R g)
    (hs : s.Ok L.lk n) (hsr : L.fi n = s.root) (hsn : s.nodes.Nodup) (hsb : ∀ x ∈ s.nodes, 1 ≤ x ∧ x < M) (hn1 : 1 ≤ n) (hnM : n < M) (hns : n ∉ s.nodes) (hng : n ∉ g.nodes) (hd : ∀ x ∈ s.nodes, x ∉ g.nodes)
    (hq : q ∈ g.nodes) (ha : ∀ a0, a = some a0 → a0 ∈ g.nodes ∧ L.up a0 = some q ∧ 0 < (R a0).id) :
    Shows (putL L q n a) R M (putR (toRs R (g.pre 0)) (toRs R ((n, dn) :: s.pre (dn + 1))) (R q).id (idO R a)) := by
  have hqn : q ≠ n := fun e => hng (e ▸ hq)
  have hqs : q ∉ s.nodes := fun h => hd q h hq
  have hq0 : q ≠ 0 := by have := (hb q hq).1; omega
  have hXn : (n :: s.nodes).Nodup := List.nodup_cons.2 ⟨hns, hsn⟩
  have hXd : ∀ x ∈ n :: s.nodes, x ∉ g.nodes := fun x hx => by
    rcases List.mem_cons.1 hx with rfl | h
    · exact hng
    · exact hd x h
  cases a with
  | none =>
    refine ⟨g.insF q n s, ?_, ?_, ?_, ?_, ?_⟩
    · rw [put_lkF L q n hqn]; exact Fo.insF_ok hs hsr hns hqs hqn hg hnd hng
    · have e3 : (putL L q n none).lk.fi 0 = (insFL L.lk q n).fi 0 := by rw [put_lkF L q n hqn]
      have : (putL L q n none).fi 0 = L.fi 0 := e3.trans (if_neg (fun e => hq0 e.symm))
      rw [this, hgr, Fo.insF_root]
    · obtain ⟨A, dq, B, e1, e2⟩ := Fo.insF_pre (n := n) (s := s) 0 hg hnd hq
      have n1 : g.nodes = (A.map (·.1) ++ [q]) ++ B.map (·.1) := by rw [← Fo.pre_nodes g 0, e1]; simp
      have n2 : (g.insF q n s).nodes = (A.map (·.1) ++ [q]) ++ ((n :: s.nodes) ++ B.map (·.1)) := by rw [← Fo.pre_nodes (g.insF q n s) 0, e2]; simp [Fo.pre_nodes]
      rw [n2]; rw [n1] at hnd hXd
      exact nodup_ins hnd hXn hXd
    · obtain ⟨A, dq, B, e1, e2⟩ := Fo.insF_pre (n := n) (s := s) 0 hg hnd hq
      have n1 : g.nodes = (A.map (·.1) ++ [q]) ++ B.map (·.1) := by rw [← Fo.pre_nodes g 0, e1]; simp
      have n2 : (g.insF q n s).nodes = (A.map (·.1) ++ [q]) ++ ((n :: s.nodes) ++ B.map (·.1)) := by rw [← Fo.pre_nodes (g.insF q n s) 0, e2]; simp [Fo.pre_nodes]
      intro x hx
      rw [n2] at hx
      rcases List.mem_append.1 hx with h | h
      · exact hb x (by rw [n1]; exact List.mem_append_left _ h)
      · rcases List.mem_append.1 h with h | h
        · rcases List.mem_cons.1 h with rfl | h
          · exact ⟨hn1, hnM⟩
          · exact hsb x h
        · exact hb x (by rw [n1]; exact List.mem_append_right _ h)
    · exact insF_put dn hg hnd hi hq
  | some a0 =>
    obtain ⟨ha1, ha2, ha3⟩ := ha a0 rfl
    have han : a0 ≠ n := fun e => hng (e ▸ ha1)
    have has : a0 ∉ s.nodes := fun h => hd a0 h ha1
    refine ⟨g.insA a0 n s, ?_, ?_, ?_, ?_, ?_⟩
    · rw [put_lkA L q n a0 han]; exact Fo.insA_ok hs hsr hns has han ha2 hg hnd hng
    · have e3 : (putL L q n (some a0)).lk.fi 0 = (insAL L.lk q a0 n).fi 0 := by rw [put_lkA L q n a0 han]
      have : (putL L q n (some a0)).fi 0 = L.fi 0 := e3
      rw [this, hgr, Fo.insA_root]
    · obtain ⟨A, da, k, B, ⟨e1, lo, hh⟩, e2⟩ := Fo.insA_pre (n := n) (s := s) 0 hg hnd ha1
      have n1 : g.nodes = (A.map (·.1) ++ (a0 :: k.nodes)) ++ B.map (·.1) := by rw [← Fo.pre_nodes g 0, e1]; simp [Fo.pre_nodes]
      have n2 : (g.insA a0 n s).nodes = (A.map (·.1) ++ (a0 :: k.nodes)) ++ ((n :: s.nodes) ++ B.map (·.1)) := by rw [← Fo.pre_nodes (g.insA a0 n s) 0, e2]; simp [Fo.pre_nodes]
      rw [n2]; rw [n1] at hnd hXd
      exact nodup_ins hnd hXn hXd
    · obtain ⟨A, da, k, B, ⟨e1, lo, hh⟩, e2⟩ := Fo.insA_pre (n := n) (s := s) 0 hg hnd ha1
      have n1 : g.nodes = (A.map (·.1) ++ (a0 :: k.nodes)) ++ B.map (·.1) := by rw [← Fo.pre_nodes g 0, e1]; simp [Fo.pre_nodes]
      have n2 : (g.insA a0 n s).nodes = (A.map (·.1) ++ (a0 :: k.nodes)) ++ ((n :: s.nodes) ++ B.map (·.1)) := by rw [← Fo.pre_nodes (g.insA a0 n s) 0, e2]; simp [Fo.pre_nodes]
      intro x hx
      rw [n2] at hx
      rcases List.mem_append.1 hx with h | h
      · exact hb x (by rw [n1]; exact List.mem_append_left _ h)
      · rcases List.mem_append.1 h with h | h
        · rcases List.mem_cons.1 h with rfl | h
          · exact ⟨hn1, hnM⟩
          · exact hsb x h
        · exact hb x (by rw [n1]; exact List.mem_append_right _ h)
    · exact insA_put dn hg hnd hi ha1 hq (by omega) ha2 ha3
/-! ### the forest of an outline -/
theorem upTo_prefix {D : Nat → Int} {s k : Nat} {X Y : List (Nat × Int)} (h : upTo D s k = X ++ Y) : X = upTo D s X.length ∧ X.length ≤ k := by
  have hl : ∀ k s, (upTo D s k).length = k := fun k => by
    induction k with
    | zero => intro s; rfl
    | succ k ih => intro s; simp [upTo, ih]
  have hle : X.length ≤ k := by
    have := congrArg List.length h
    rw [hl, List.length_append] at this; omega
  have e : upTo D s k = upTo D s X.length ++ upTo D (s + X.length) (k - X.length) := by rw [← upTo_add]; congr 1; omega
  rw [e] at h
  exact ⟨(List.append_inj h (by rw [hl])).1.symm, hle⟩
theorem mem_upTo {D : Nat → Int} : ∀ k s x, s ≤ x → x < s + k → (x, D x) ∈ upTo D s k
  | 0, s, x, h1, h2 => by omega
  | k + 1, s, x, h1, h2 => by
    rw [upTo, List.mem_cons]
    by_cases e : x = s
    · subst e; exact .inl rfl
    · exact .inr (mem_upTo k (s + 1) x (by omega) (by omega))
theorem nd_id {rs : List RowD} (hT : TreeP rs) {x y : Nat} (hx : 1 ≤ x ∧ x < rs.length + 1) (hy : 1 ≤ y ∧ y < rs.length + 1) (h : (nd rs x).id = (nd rs y).id) : x = y := by
  obtain ⟨i, rfl⟩ : ∃ i, x = i + 1 := ⟨x - 1, by omega⟩
  obtain ⟨j, rfl⟩ : ∃ j, y = j + 1 := ⟨y - 1, by omega⟩
  rw [hT.id_inj (i := i) (j := j) (by omega) (by omega) h]
theorem fo_inj {rs : List RowD} (hT : TreeP rs) {g : Fo} (hg : ∀ x ∈ g.nodes, 1 ≤ x ∧ x < rs.length + 1) : IdInj (nd rs) g := fun x hx y hy e => nd_id hT (hg x hx) (hg y hy) e
/-- The tree itself says its rows. -/
theorem tree_shows {rs : List RowD} (ht : treeB rs = true) : Shows (l5D rs (rs.length + 1)) (nd rs) (rs.length + 1) rs := by
  have hD := (treeP_of ht).deps
  obtain ⟨a, b, c⟩ := foD_ok hD
  exact ⟨foD (dp rs) (rs.length + 1), a, c.symm, foD_nodup hD, fun x hx => (foD_mem hD x).1 hx, by rw [b]; exact toRs_upTo rs⟩
/-- What a cut of node n leaves out lies under n. -/
theorem cut_part {rs : List RowD} (ht : treeB rs = true) {n : Nat} (hn : 1 ≤ n ∧ n < rs.length + 1) {A B : List (Nat × Int)} {dn : Int} {k : Fo} (h : Stands (foD (dp rs) (rs.length + 1)) 0 n A dn k B) :
    dn = dp rs n ∧ A.length + 1 = n ∧ (∀ x, x ∈ k.nodes → un (dp rs) (rs.length + 1) x n ∧ x ≠ n) := by
  have hD := (treeP_of ht).deps
  have e := h.eq
  rw [(foD_ok hD).2.1] at e
  obtain ⟨h1, h2, h3⟩ := upTo_split e
  refine ⟨h2, by omega, fun x hx => ?_⟩
  have e' : upTo (dp rs) 1 (rs.length + 1 - 1) = (A ++ [(n, dn)]) ++ (k.pre (dn + 1) ++ B) := by rw [e]; simp
  have hl1 := (upTo_prefix e').2
  have e2 : k.pre (dn + 1) ++ B = upTo (dp rs) (n + 1) (rs.length - n) := by
    have s : upTo (dp rs) 1 (rs.length + 1 - 1) = upTo (dp rs) 1 n ++ upTo (dp rs) (1 + n) (rs.length - n) := by rw [← upTo_add]; congr 1; omega
    have p := (upTo_prefix e').1
    have l : (A ++ [(n, dn)]).length = n := by simp; omega
    rw [l] at p
    rw [s, p] at e'
    have := (List.append_cancel_left e').symm
    rw [this, Nat.add_comm 1 n]
  obtain ⟨p, q⟩ := upTo_prefix e2.symm
  obtain ⟨d, hxd⟩ := Fo.mem_pre (dn + 1) hx
  have hm := hxd
  rw [p] at hm
  obtain ⟨m1, m2, m3⟩ := upTo_mem hm
  refine ⟨⟨by omega, ?_⟩, by omega⟩
  obtain ⟨f1, f2, f3, f4⟩ := en_spec (D := dp rs) (m := rs.length + 1) (i := n) hn.2
  rcases Nat.lt_or_ge x (en (dp rs) (rs.length + 1) n) with g | g
  · exact g
  · have g1 := f4 (by omega)
    have g2 := mem_upTo (D := dp rs) (k.pre (dn + 1)).length (n + 1) (en (dp rs) (rs.length + 1) n) f1 (by omega)
    rw [← p] at g2
    have := Fo.pre_ge k (dn + 1) _ g2
    simp only at this; omega
end Go.Proofs.YtclhjgcapalniaaDoor
/-
  Plain mathematics: the links and rows behind a change say the rows of the changed outline: a row made, a text set, a row moved. Nothing of the program is run here. Conditions: none beyond the lemmas' own premises.
-/
namespace Go.Proofs.YtclhjgcapalniaaDoor

theorem put_zero {rs rows : List RowD} {up at' : Int} (h : ¬ 0 < at') : putR rs rows up at' = putR rs rows up 0 := by
  unfold putR placeN; rw [if_neg h, if_neg (by omega)]
theorem whereA_up {rs : List RowD} {o : OpD} (ht : treeB rs = true) (hn : noWhereB rs o = false) (h : 0 < whereA rs o) :
    thereB rs (whereA rs o) = true ∧ par (dp rs) (atN rs (whereA rs o) + 1) = atN rs (whereU rs o) + 1 ∧ whereU rs o = o.up ∧ whereA rs o = o.at_ ∧ o.at_ ≠ o.id := by
  cases hu : thereB rs o.up
  · simp [whereA, hu] at h
  · have hA : whereA rs o = atOfL (kidsL rs o.up) o := by simp [whereA, hn, hu]
    have hU : whereU rs o = o.up := by simp [whereU, hn, hu]
    rw [hA] at h
    have hm := atOfL_mem h
    have hk := (kids_at ht hu).1 hm
    rw [hA, hU]
    refine ⟨hk.1, hk.2, rfl, ?_⟩
    unfold atOfL at h ⊢
    split
    · rename_i g
      simp only [List.any_eq_true, Bool.and_eq_true, beq_iff_eq, bne_iff_ne, ne_eq] at g
      obtain ⟨x, _, _, g3⟩ := g
      exact ⟨rfl, g3⟩
    · rename_i g; rw [if_neg g] at h; omega
theorem nd_at {rs : List RowD} {id : Int} (h : thereB rs id = true) : (nd rs (atN rs id + 1)).id = id := atN_id (there_iff.1 h)
theorem whA_put {rs : List RowD} {o : OpD} (ht : treeB rs = true) (hn : noWhereB rs o = false) (R : Nat → RowD) (hR : ∀ x, x < rs.length + 1 → (R x).id = (nd rs x).id) (rest rows : List RowD) (up : Int) :
    putR rest rows up (idO R (whA rs o)) = putR rest rows up (whereA rs o) := by
  unfold whA
  rw [hn]
  simp only [Bool.false_eq_true, if_false]
  by_cases h : 0 < whereA rs o
  · have g := (whereA_up ht hn h).1
    rw [if_pos h]
    simp only [idO]
    rw [hR _ (by have := there_iff.1 g; omega), nd_at g]
  · rw [if_neg h]
    simp only [idO]
    rw [put_zero h]
/-! ### a row made -/
def newL (L : L5) (n : Nat) : L5 := ⟨upd L.up n none, upd L.ah n none, upd L.nx n none, upd L.fi n none, upd L.la n none⟩
def mkR (rs : List RowD) (o : OpD) : Nat → RowD := fun x => if x = rs.length + 1 then ⟨o.id, 0, o.txt⟩ else nd rs x
theorem whU_mem {rs : List RowD} {o : OpD} (ht : treeB rs = true) (hn : noWhereB rs o = false) : 1 ≤ atN rs (whereU rs o) + 1 ∧ atN rs (whereU rs o) + 1 < rs.length + 1 := by
  have := whereU_there hn (tree_three ht); omega
theorem whU_there {rs : List RowD} {o : OpD} (ht : treeB rs = true) (hn : noWhereB rs o = false) : thereB rs (whereU rs o) = true := there_iff.2 (whereU_there hn (tree_three ht))
theorem make_shows {rs : List RowD} {o : OpD} (ht : treeB rs = true) (hk : o.kind = 1) (hn : noWhereB rs o = false) :
    Shows (putL (newL (l5D rs (rs.length + 1)) (rs.length + 1)) (atN rs (whereU rs o) + 1) (rs.length + 1) (whA rs o)) (mkR rs o) (rs.length + 2) (doR rs o) := by
  have hT := treeP_of ht
  have hD := hT.deps
  obtain ⟨fo, fp, fr⟩ := foD_ok hD
  have fm := fun x => foD_mem hD x
  have hlt : ∀ x ∈ (foD (dp rs) (rs.length + 1)).nodes, x ≠ rs.length + 1 := fun x hx => by have := (fm x).1 hx; omega
  have hR : ∀ x, x < rs.length + 1 → mkR rs o x = nd rs x := fun x hx => if_neg (by omega)
  have hq := whU_mem ht hn
  have h := put_shows (L := newL (l5D rs (rs.length + 1)) (rs.length + 1)) (R := mkR rs o) (g := foD (dp rs) (rs.length + 1)) (s := .nil) (q := atN rs (whereU rs o) + 1) (n := rs.length + 1) (M := rs.length + 2) (a := whA rs o) 0
    (fo.congr fun x hx => ⟨upd_ne (hlt x hx), upd_ne (hlt x hx), upd_ne (hlt x hx)⟩)
    ((show upd (fi (dp rs) (rs.length + 1)) (rs.length + 1) none 0 = fi (dp rs) (rs.length + 1) 0 from upd_ne (by omega)).trans fr.symm) (foD_nodup hD) (fun x hx => by have := (fm x).1 hx; omega)
    (fun x hx y hy e => by
      have h1 := (fm x).1 hx
      have h2 := (fm y).1 hy
      rw [hR x (by omega), hR y (by omega)] at e
      exact nd_id hT h1 h2 e)
    trivial (upd_same _ _ _) (by simp [Fo.nodes]) (by simp [Fo.nodes]) (by omega) (by omega) (by simp [Fo.nodes]) (fun h => by have := (fm _).1 h; omega) (by simp [Fo.nodes])
    ((fm _).2 hq)
    (fun a0 ha => by
      unfold whA at ha
      rw [hn] at ha
      simp only [Bool.false_eq_true, if_false] at ha
      split at ha
      · rename_i hp
        cases ha
        obtain ⟨g1, g2, g3, g4, g5⟩ := whereA_up ht hn hp
        have g1' := there_iff.1 g1
        refine ⟨(fm _).2 (by omega), ?_, ?_⟩
        · have hne : atN rs (whereA rs o) + 1 ≠ rs.length + 1 := by omega
          show upd (upO rs) (rs.length + 1) none (atN rs (whereA rs o) + 1) = some (atN rs (whereU rs o) + 1)
          rw [upd_ne hne]
          unfold upO
          rw [if_neg (by omega), g2]
        · rw [hR _ (by omega), nd_at g1]; exact hp
      · cases ha)
  have e1 : toRs (mkR rs o) ((foD (dp rs) (rs.length + 1)).pre 0) = rs := by
    rw [toRs_congr (R' := nd rs) (fun q hq => by
      have : q.1 ∈ (foD (dp rs) (rs.length + 1)).nodes := Fo.mem_nodes (e := q.2) hq
      rw [hR q.1 ((fm _).1 this).2]; exact ⟨rfl, rfl⟩), fp]
    exact toRs_upTo rs
  have e2 : toRs (mkR rs o) ((rs.length + 1, 0) :: Fo.nil.pre (0 + 1)) = [⟨o.id, 0, o.txt⟩] := by simp [toRs, Fo.pre, mkR]
  have e3 : (mkR rs o (atN rs (whereU rs o) + 1)).id = whereU rs o := by rw [hR _ hq.2, nd_at (whU_there ht hn)]
  rw [e1, e2, e3, whA_put ht hn (mkR rs o) (fun x hx => by rw [hR x hx])] at h
  rw [doR_put hk hn]
  exact h
/-! ### a text set -/
def txR (rs : List RowD) (n : Nat) (t : ByteArray) : Nat → RowD := fun x => if x = n then ⟨(nd rs n).id, (nd rs n).dep, t⟩ else nd rs x
theorem rat_ext {a b : List RowD} (h : a.length = b.length) (hr : ∀ i, i < a.length → rat a i = rat b i) : a = b := by
  refine List.ext_getElem h fun i h1 h2 => ?_
  rw [← rat_lt h1, ← rat_lt h2]; exact hr i h1
theorem upTo_len (D : Nat → Int) : ∀ k s, (upTo D s k).length = k
  | 0, s => rfl
  | k + 1, s => by simp [upTo, upTo_len D k]
theorem upTo_get (D : Nat → Int) : ∀ k s i, i < k → (upTo D s k)[i]? = some (s + i, D (s + i))
  | 0, s, i, h => by omega
  | k + 1, s, 0, h => by simp [upTo]
  | k + 1, s, i + 1, h => by rw [upTo, List.getElem?_cons_succ, upTo_get D k (s + 1) i (by omega), show s + 1 + i = s + (i + 1) by omega]
theorem rat_setTxt {rs : List RowD} {k i : Nat} {t : ByteArray} (hi : i < rs.length) : rat (setTxt rs k t) i = if i = k then ⟨(rat rs i).id, (rat rs i).dep, t⟩ else rat rs i := by
  unfold setTxt
  rw [rat_lt (by simpa using hi), List.getElem_modify, rat_lt hi]
  by_cases e : i = k
  · simp [e]
  · rw [if_neg (fun g => e g.symm), if_neg e]
theorem text_shows {rs : List RowD} (ht : treeB rs = true) {k : Nat} (t : ByteArray) : Shows (l5D rs (rs.length + 1)) (txR rs (k + 1) t) (rs.length + 1) (setTxt rs k t) := by
  have hD := (treeP_of ht).deps
  obtain ⟨a, b, c⟩ := foD_ok hD
  refine ⟨foD (dp rs) (rs.length + 1), a, c.symm, foD_nodup hD, fun x hx => (foD_mem hD x).1 hx, ?_⟩
  rw [b, Nat.add_sub_cancel]
  refine rat_ext (by rw [toRs_len, upTo_len]; simp [setTxt]) fun i hi => ?_
  rw [toRs_len, upTo_len] at hi
  rw [rat_toRs (upTo_get _ _ _ _ hi), rat_setTxt hi]
  by_cases e : i = k
  · subst e
    rw [if_pos rfl]
    simp only [Nat.add_comm 1 i, txR, if_true]
    rfl
  · rw [if_neg e]
    have : i + 1 ≠ k + 1 := by omega
    simp only [txR, Nat.add_comm 1 i, if_neg this]
    rfl
/-! ### a row moved -/
theorem cut_fi0 {rs : List RowD} {m n : Nat} (hD : Deps (dp rs) m) (hn : 1 ≤ n) (hm : n < m) {f : Fo} (ho : f.Ok (linksD (dp rs) m) 0) (hd : f.nodes.Nodup) (hr : f.root = fi (dp rs) m 0) :
    (cut5 (l5D rs m) n (par (dp rs) n)).fi 0 = (f.cut n).root := by
  rw [(cut_links hD hn hm 0).2.1, (Fo.cut_ok (n := n) ho hd).2, hr]
  rfl
theorem move_shows {rs : List RowD} {o : OpD} (ht : treeB rs = true) (hk : o.kind = 3) (hm : madeB o.id = true) (hn : noWhereB rs o = false) :
    Shows (putL (cut5 (l5D rs (rs.length + 1)) (atN rs o.id + 1) (par (dp rs) (atN rs o.id + 1))) (atN rs (whereU rs o) + 1) (atN rs o.id + 1) (whA rs o)) (nd rs) (rs.length + 1) (doR rs o) := by
  have hT := treeP_of ht
  have hD := hT.deps
  obtain ⟨fo, fp, fr⟩ := foD_ok hD
  have fd := foD_nodup hD
  have fm := fun x => foD_mem hD x
  have hno := noWhere3 (rs := rs) hk
  rw [hn] at hno
  have hid : thereB rs o.id = true := by cases h : thereB rs o.id <;> simp [h] at hno ⊢
  have hund : undB rs o.up o.id = false := by cases h : undB rs o.up o.id <;> simp [h] at hno ⊢
  have hidl := there_iff.1 hid
  have hn1 : 1 ≤ atN rs o.id + 1 := by omega
  have hn2 : atN rs o.id + 1 < rs.length + 1 := by omega
  have hU := whU_there ht hn
  have hq := whU_mem ht hn
  obtain ⟨A, dn, k, B, hst, cp, ko, kf, kd, nc⟩ := Fo.cut_pre (n := atN rs o.id + 1) 0 fo fd ((fm _).2 ⟨hn1, hn2⟩)
  obtain ⟨p1, p2, p3⟩ := cut_part ht ⟨hn1, hn2⟩ hst
  obtain ⟨c1, c2⟩ := Fo.cut_ok (n := atN rs o.id + 1) fo fd
  have cn : ∀ x ∈ ((foD (dp rs) (rs.length + 1)).cut (atN rs o.id + 1)).nodes, 1 ≤ x ∧ x < rs.length + 1 := fun x hx => (fm x).1 (Fo.cut_nodes x hx)
  have cne : ∀ x ∈ ((foD (dp rs) (rs.length + 1)).cut (atN rs o.id + 1)).nodes, x ≠ atN rs o.id + 1 := fun x hx e => nc (e ▸ hx)
  have hnk : atN rs o.id + 1 ∉ k.nodes := fun h => (p3 _ h).2 rfl
  have kn : ∀ x ∈ k.nodes, 1 ≤ x ∧ x < rs.length + 1 := fun x hx => by
    have h1 := (p3 x hx).1
    have h2 := en_spec (D := dp rs) hn2
    unfold un at h1; omega
  have knd : k.nodes.Nodup := by
    have := fd
    rw [← Fo.pre_nodes _ 0, hst.eq] at this
    simp only [List.map_append, List.map_cons, Fo.pre_nodes, List.nodup_append, List.nodup_cons] at this
    exact this.2.1.2.1
  have cnd : ((foD (dp rs) (rs.length + 1)).cut (atN rs o.id + 1)).nodes.Nodup := by
    have := fd
    rw [← Fo.pre_nodes _ 0, hst.eq] at this
    rw [← Fo.pre_nodes _ 0, cp]
    simp only [List.map_append, List.map_cons, Fo.pre_nodes, List.nodup_append, List.nodup_cons, List.mem_append, List.mem_cons] at this ⊢
    exact ⟨this.1, this.2.1.2.2.1, fun x hx y hy => this.2.2 x hx y (.inr (.inr hy))⟩
  have inCut : ∀ x, 1 ≤ x → x < rs.length + 1 → ¬ un (dp rs) (rs.length + 1) x (atN rs o.id + 1) → x ∈ ((foD (dp rs) (rs.length + 1)).cut (atN rs o.id + 1)).nodes := fun x h1 h2 h3 => by
    have hx := (fm x).2 ⟨h1, h2⟩
    rw [← Fo.pre_nodes _ 0, hst.eq] at hx
    rw [← Fo.pre_nodes _ 0, cp]
    simp only [List.map_append, List.map_cons, Fo.pre_nodes, List.mem_append, List.mem_cons] at hx ⊢
    rcases hx with h | h | h | h
    · exact .inl h
    · exact absurd (by rw [h]; exact un_self hn2) h3
    · exact absurd (p3 x h).1 h3
    · exact .inr h
  have hqn : ¬ un (dp rs) (rs.length + 1) (atN rs (whereU rs o) + 1) (atN rs o.id + 1) := by
    intro g
    cases hu : thereB rs o.up
    · have e : whereU rs o = 3 := by simp [whereU, hn, hu]
      rw [e] at g
      have h3l := there_iff.1 (tree_three ht)
      have d3 := (rok_root (hT.rok _ h3l)).2 (by rw [atN_id h3l]; rfl)
      have d4 := (en_spec (D := dp rs) hn2).2.2.1
      by_cases e2 : atN rs 3 + 1 = atN rs o.id + 1
      · have := at_inj (tree_three ht) hid (by omega)
        rw [← this] at hm; exact absurd hm (by decide)
      · have d5 := d4 (atN rs 3 + 1) (by unfold un at g; omega) g.2
        have d6 := hD.low _ hn1 hn2
        have d7 : dp rs (atN rs 3 + 1) = 0 := d3
        omega
    · have e : whereU rs o = o.up := by simp [whereU, hn, hu]
      rw [e] at g
      rw [undB_node ht hu hid, Bool.eq_false_iff] at hund
      exact hund (unB_iff.2 g)
  have h := put_shows (L := cut5 (l5D rs (rs.length + 1)) (atN rs o.id + 1) (par (dp rs) (atN rs o.id + 1))) (R := nd rs) (g := (foD (dp rs) (rs.length + 1)).cut (atN rs o.id + 1)) (s := k) (q := atN rs (whereU rs o) + 1) (n := atN rs o.id + 1) (M := rs.length + 1) (a := whA rs o) dn
    (c1.congr fun x hx => ⟨(cut_links hD hn1 hn2 x).1 (cne x hx), (cut_links hD hn1 hn2 x).2.1, (cut_links hD hn1 hn2 x).2.2 (cne x hx)⟩)
    (cut_fi0 hD hn1 hn2 fo fd fr) cnd cn (fo_inj hT cn)
    ((cutL_same ko hnk).congr fun x hx => ⟨(cut_links hD hn1 hn2 x).1 (p3 x hx).2, (cut_links hD hn1 hn2 x).2.1, (cut_links hD hn1 hn2 x).2.2 (p3 x hx).2⟩)
    (by
      rw [(cut_links hD hn1 hn2 _).2.1, ← kf]
      show (if fi (dp rs) (rs.length + 1) _ = some _ then _ else _) = _
      rw [if_neg (fun g => by
        have g1 := ((fi_ah hn1 hn2).1 g).1
        have := (par_spec hD hn1 hn2).1
        omega)])
    knd kn hn1 hn2 hnk nc kd (inCut _ hq.1 hq.2 hqn)
    (fun a0 ha => by
      unfold whA at ha
      rw [hn] at ha
      simp only [Bool.false_eq_true, if_false] at ha
      split at ha
      · rename_i hp
        cases ha
        obtain ⟨g1, g2, g3, g4, g5⟩ := whereA_up ht hn hp
        have g1' := there_iff.1 g1
        have hne : atN rs (whereA rs o) + 1 ≠ atN rs o.id + 1 := fun e => by
          have := at_inj g1 hid (by omega)
          rw [g4] at this; exact g5 this
        refine ⟨inCut _ (by omega) (by omega) (fun g => ?_), ?_, ?_⟩
        · have := (un_par hD (show 1 ≤ atN rs (whereA rs o) + 1 by omega) (by omega) hn2 hne).1 g
          rw [g2] at this
          exact hqn this
        · rw [(cut_links hD hn1 hn2 _).1 hne]
          show (if atN rs (whereA rs o) + 1 = 0 then none else some (par (dp rs) (atN rs (whereA rs o) + 1))) = _
          rw [if_neg (by omega), g2]
        · rw [nd_at g1]; exact hp
      · cases ha)
  rw [nd_at hU, whA_put ht hn (nd rs) (fun x _ => rfl), cp] at h
  have hrs : rs = toRs (nd rs) (A ++ ((atN rs o.id + 1, dn) :: (k.pre (dn + 1) ++ B))) := by
    rw [← hst.eq, fp]; exact (toRs_upTo rs).symm
  have hA : A.length = atN rs o.id := by omega
  have hen : enR rs (atN rs o.id) = A.length + 1 + (k.pre (dn + 1)).length := by
    have := en_split (R := nd rs) (A := A) (K := k.pre (dn + 1)) (B := B) (q := atN rs o.id + 1) (dq := dn) (fun x hx => by have := Fo.pre_ge k (dn + 1) x hx; omega) hst.head
    rw [← hrs, hA] at this
    rw [this, hA]
  have hdo : doR rs o = putR (rs.take (atN rs o.id) ++ rs.drop (enR rs (atN rs o.id))) ((rs.drop (atN rs o.id)).take (enR rs (atN rs o.id) - atN rs o.id)) (whereU rs o) (whereA rs o) := by
    simp [doR, hk, hn]
  have r0 : rs = toRs (nd rs) A ++ (toRs (nd rs) ((atN rs o.id + 1, dn) :: k.pre (dn + 1)) ++ toRs (nd rs) B) := by
    rw [← toRs_app, ← toRs_app]; simpa using hrs
  have lA : (toRs (nd rs) A).length = atN rs o.id := by rw [toRs_len, hA]
  have lK : (toRs (nd rs) ((atN rs o.id + 1, dn) :: k.pre (dn + 1))).length = enR rs (atN rs o.id) - atN rs o.id := by rw [toRs_len, hen, hA]; simp; omega
  have t1 : rs.take (atN rs o.id) = toRs (nd rs) A := by
    have := (take_app (A := toRs (nd rs) A) (B := toRs (nd rs) ((atN rs o.id + 1, dn) :: k.pre (dn + 1)) ++ toRs (nd rs) B) lA.symm).1
    rw [← r0] at this; exact this
  have t2 : rs.drop (atN rs o.id) = toRs (nd rs) ((atN rs o.id + 1, dn) :: k.pre (dn + 1)) ++ toRs (nd rs) B := by
    have := (take_app (A := toRs (nd rs) A) (B := toRs (nd rs) ((atN rs o.id + 1, dn) :: k.pre (dn + 1)) ++ toRs (nd rs) B) lA.symm).2
    rw [← r0] at this; exact this
  have t3 : rs.drop (enR rs (atN rs o.id)) = toRs (nd rs) B := by
    have := (take_app (A := toRs (nd rs) ((atN rs o.id + 1, dn) :: k.pre (dn + 1))) (B := toRs (nd rs) B) lK.symm).2
    rw [← t2, List.drop_drop] at this
    rw [← this]; congr 1; omega
  have t4 : (rs.drop (atN rs o.id)).take (enR rs (atN rs o.id) - atN rs o.id) = toRs (nd rs) ((atN rs o.id + 1, dn) :: k.pre (dn + 1)) := by
    rw [t2]; exact (take_app lK.symm).1
  rw [hdo, t4, t1, t3, ← toRs_app]
  exact h
end Go.Proofs.YtclhjgcapalniaaDoor
