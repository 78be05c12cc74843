/-
  The program's nodes in memory, by their links: what a store into a link does, and the contracts of (*node).join and put. Conditions: as each theorem says.
-/
import Derived.Test.YtefelnodahcolaaDoorNode
namespace Go.Proofs.YtefelnodahcolaaDoor
open Go.ChangeShapes Go.WideShapes Go.ChangeAt Go.RowKit Go.Joins

structure L5 where
  up : Nat → Option Nat
  ah : Nat → Option Nat
  nx : Nat → Option Nat
  fi : Nat → Option Nat
  la : Nat → Option Nat
def upd (f : Nat → Option Nat) (x : Nat) (v : Option Nat) : Nat → Option Nat := fun y => if y = x then v else f y
theorem upd_same (f : Nat → Option Nat) (x : Nat) (v : Option Nat) : upd f x v x = v := by simp [upd]
theorem upd_ne {f : Nat → Option Nat} {x y : Nat} {v : Option Nat} (h : y ≠ x) : upd f x v y = f y := by simp [upd, h]
def lkArr (nb : Nat → Nat) (R : Nat → RowD) (L : L5) (x : Nat) : Array Value :=
  #[.int .i64 (R x).id, .int .i64 (R x).dep, .string (R x).txt, .pointer (padr nb (L.up x)), .pointer (padr nb (L.ah x)), .pointer (padr nb (L.nx x)), .pointer (padr nb (L.fi x)), .pointer (padr nb (L.la x))]
/-- The blocks nb 0, nb 1 and so on hold M nodes, with these rows and these links. -/
structure Lk (w : World) (nb : Nat → Nat) (R : Nat → RowD) (L : L5) (M : Nat) : Prop where
  blk : ∀ x, x < M → w.heap[nb x]? = some (.cells (lkArr nb R L x) 77 (0, 0))
  inj : ∀ i j, i < M → j < M → nb i = nb j → i = j
def l5D (rs : List RowD) (m : Nat) : L5 := ⟨upO rs, ahO rs, nxO rs m, fi (dp rs) m, la (dp rs) m⟩
theorem Nodes.lk {w : World} {nb : Nat → Nat} {rs : List RowD} {m : Nat} (h : Nodes w nb rs m) : Lk w nb (nd rs) (l5D rs m) m :=
  ⟨fun x hx => h.blk x hx, fun i j hi hj e => by
    rcases Nat.lt_trichotomy i j with g | g | g
    · have := h.inj i j g hj; omega
    · exact g
    · have := h.inj j i g hi; omega⟩
theorem Nodes.of_lk {w : World} {nb : Nat → Nat} {rs : List RowD} {L : L5} {m : Nat} (h : Lk w nb (nd rs) L m) (hl : ∀ i, i < m → L.up i = upO rs i ∧ L.ah i = ahO rs i ∧ L.nx i = nxO rs m i ∧ L.fi i = fi (dp rs) m i ∧ L.la i = la (dp rs) m i) (hi : ∀ i j, i < j → j < m → nb i < nb j) : Nodes w nb rs m :=
  ⟨fun i hi' => by
    rw [h.blk i hi']
    obtain ⟨a, b, c, d, e⟩ := hl i hi'
    unfold lkArr nodeArr
    rw [a, b, c, d, e], hi⟩
section
variable {w w' : World} {nb : Nat → Nat} {R : Nat → RowD} {L : L5} {M : Nat}
theorem Lk.lt (h : Lk w nb R L M) {x : Nat} (hx : x < M) : nb x < w.heap.size := (Array.getElem?_eq_some_iff.1 (h.blk x hx)).1
theorem Lk.below {n₀ : Nat} (h : Lk w nb R L M) (hn : ∀ x, x < M → nb x < n₀) (hb : Below n₀ w w') : Lk w' nb R L M := ⟨fun x hx => by rw [hb.block _ (hn x hx)]; exact h.blk x hx, h.inj⟩
theorem Lk.drewN (h : Lk w nb R L M) (n : Nat) : Lk (w.drewN n) nb R L M := ⟨h.blk, h.inj⟩
theorem Lk.row (h : Lk w nb R L M) {x : Nat} (hx : x < M) :
    w.cell? ⟨nb x, 0, none⟩ = some (.int .i64 (R x).id) ∧ w.cell? ⟨nb x, 1, none⟩ = some (.int .i64 (R x).dep) ∧ w.cell? ⟨nb x, 2, none⟩ = some (.string (R x).txt) := by
  have hb := h.blk x hx
  unfold lkArr at hb
  refine ⟨?_, ?_, ?_⟩ <;> simp [World.cell?, hb]
theorem Lk.links (h : Lk w nb R L M) {x : Nat} (hx : x < M) :
    w.cell? ⟨nb x, 3, none⟩ = some (.pointer (padr nb (L.up x))) ∧ w.cell? ⟨nb x, 4, none⟩ = some (.pointer (padr nb (L.ah x))) ∧ w.cell? ⟨nb x, 5, none⟩ = some (.pointer (padr nb (L.nx x))) ∧
    w.cell? ⟨nb x, 6, none⟩ = some (.pointer (padr nb (L.fi x))) ∧ w.cell? ⟨nb x, 7, none⟩ = some (.pointer (padr nb (L.la x))) := by
  have hb := h.blk x hx
  unfold lkArr at hb
  refine ⟨?_, ?_, ?_, ?_, ?_⟩ <;> simp [World.cell?, hb]
theorem Lk.frozen (h : Lk w nb R L M) {x : Nat} (hx : x < M) (o : Nat) : w.frozen? ⟨nb x, o, none⟩ = false := by
  have hb := h.blk x hx
  simp [World.frozen?, hb]
theorem lk_set {o : Nat} {v : Value} {R' : Nat → RowD} {L' : L5} (h : Lk w nb R L M) {x : Nat} (hx : x < M) (h1 : ∀ y, y ≠ x → lkArr nb R' L' y = lkArr nb R L y) (h2 : lkArr nb R' L' x = (lkArr nb R L x).setIfInBounds o v) : Lk (w.setCell ⟨nb x, o, none⟩ v) nb R' L' M := by
  refine ⟨fun y hy => ?_, h.inj⟩
  by_cases e : y = x
  · subst e
    rw [blk_set (h.blk y hx), h2]
  · rw [Below.heap_setCell _ _ _ _ (fun g => e (h.inj y x hy hx g)), h.blk y hy, h1 y e]
theorem Lk.set3 (h : Lk w nb R L M) {x : Nat} (hx : x < M) (v : Option Nat) : Lk (w.setCell ⟨nb x, 3, none⟩ (.pointer (padr nb v))) nb R { L with up := upd L.up x v } M :=
  lk_set h hx (fun y hy => by simp [lkArr, upd_ne hy]) (by simp [lkArr, upd_same])
theorem Lk.set4 (h : Lk w nb R L M) {x : Nat} (hx : x < M) (v : Option Nat) : Lk (w.setCell ⟨nb x, 4, none⟩ (.pointer (padr nb v))) nb R { L with ah := upd L.ah x v } M :=
  lk_set h hx (fun y hy => by simp [lkArr, upd_ne hy]) (by simp [lkArr, upd_same])
theorem Lk.set5 (h : Lk w nb R L M) {x : Nat} (hx : x < M) (v : Option Nat) : Lk (w.setCell ⟨nb x, 5, none⟩ (.pointer (padr nb v))) nb R { L with nx := upd L.nx x v } M :=
  lk_set h hx (fun y hy => by simp [lkArr, upd_ne hy]) (by simp [lkArr, upd_same])
theorem Lk.set6 (h : Lk w nb R L M) {x : Nat} (hx : x < M) (v : Option Nat) : Lk (w.setCell ⟨nb x, 6, none⟩ (.pointer (padr nb v))) nb R { L with fi := upd L.fi x v } M :=
  lk_set h hx (fun y hy => by simp [lkArr, upd_ne hy]) (by simp [lkArr, upd_same])
theorem Lk.set7 (h : Lk w nb R L M) {x : Nat} (hx : x < M) (v : Option Nat) : Lk (w.setCell ⟨nb x, 7, none⟩ (.pointer (padr nb v))) nb R { L with la := upd L.la x v } M :=
  lk_set h hx (fun y hy => by simp [lkArr, upd_ne hy]) (by simp [lkArr, upd_same])
end

/-! ### join -/
def join1 (L : L5) (n : Nat) (a x : Option Nat) : L5 := match a with
  | none => { L with fi := upd L.fi n x }
  | some a => { L with nx := upd L.nx a x }
def join2 (L : L5) (n : Nat) (a x : Option Nat) : L5 := match x with
  | none => { L with la := upd L.la n a }
  | some x => { L with ah := upd L.ah x a }
def joinL (L : L5) (n : Nat) (a x : Option Nat) : L5 := join2 (join1 L n a x) n a x
/-- The nodes have these links now; below block n₀ nothing has turned. -/
def Linked (nb : Nat → Nat) (R : Nat → RowD) (L : L5) (M n₀ : Nat) (w : World) (e : Ending) (w' : World) : Prop := (∃ v, e = .returned v) ∧ Lk w' nb R L M ∧ Below n₀ w w' ∧ w'.heap.size = w.heap.size
theorem join_lk (nb : Nat → Nat) (R : Nat → RowD) (L : L5) (M n₀ : Nat) (n : Nat) (a x : Option Nat) (w : World) (h : Lk w nb R L M) (h0 : ∀ y, y < M → n₀ ≤ nb y) (hn : n < M) (ha : ∀ y, a = some y → y < M) (hx : ∀ y, x = some y → y < M) :
    Calls Tryd.prog 74 #[.pointer (some ⟨nb n, 0, none⟩), .pointer (padr nb a), .pointer (padr nb x)] w (Linked nb R (joinL L n a x) M n₀ w) := by
  obtain ⟨l3, l4, l5, l6, l7⟩ := h.links hn
  have z6 := h.frozen hn 6
  have z7 := h.frozen hn 7
  cases a with
  | none =>
    cases x with
    | none =>
      simp only [padr]
      go_enter Tryd.func74, Tryd.ntmps74
      go_wp2
      go_end0
      exact ⟨⟨_, rfl⟩, (h.set6 hn none).set7 hn none, ((Below.refl _ w).setCell (p := ⟨nb n, 6, none⟩) (h0 n hn) _).setCell (p := ⟨nb n, 7, none⟩) (h0 n hn) _, by simp⟩
    | some x =>
      have hxM := hx x rfl
      obtain ⟨m3, m4, m5, m6, m7⟩ := h.links hxM
      have y4 := h.frozen hxM 4
      simp only [padr]
      go_enter Tryd.func74, Tryd.ntmps74
      go_wp2
      go_end0
      exact ⟨⟨_, rfl⟩, (h.set6 hn (some x)).set4 hxM none, ((Below.refl _ w).setCell (p := ⟨nb n, 6, none⟩) (h0 n hn) _).setCell (p := ⟨nb x, 4, none⟩) (h0 x hxM) _, by simp⟩
  | some a =>
    have haM := ha a rfl
    obtain ⟨k3, k4, k5, k6, k7⟩ := h.links haM
    have x5 := h.frozen haM 5
    cases x with
    | none =>
      simp only [padr]
      go_enter Tryd.func74, Tryd.ntmps74
      go_wp2
      go_end0
      exact ⟨⟨_, rfl⟩, (h.set5 haM none).set7 hn (some a), ((Below.refl _ w).setCell (p := ⟨nb a, 5, none⟩) (h0 a haM) _).setCell (p := ⟨nb n, 7, none⟩) (h0 n hn) _, by simp⟩
    | some x =>
      have hxM := hx x rfl
      obtain ⟨m3, m4, m5, m6, m7⟩ := h.links hxM
      have y4 := h.frozen hxM 4
      simp only [padr]
      go_enter Tryd.func74, Tryd.ntmps74
      go_wp2
      go_end0
      exact ⟨⟨_, rfl⟩, (h.set5 haM (some x)).set4 hxM (some a), ((Below.refl _ w).setCell (p := ⟨nb a, 5, none⟩) (h0 a haM) _).setCell (p := ⟨nb x, 4, none⟩) (h0 x hxM) _, by simp⟩
/-! ### put -/
def nextOf (L : L5) (n : Nat) (a : Option Nat) : Option Nat := match a with
  | none => L.fi n
  | some a => L.nx a
def put1 (L : L5) (n k : Nat) (a : Option Nat) : L5 := { L with up := upd L.up k (some n), ah := upd L.ah k a, nx := upd L.nx k (nextOf L n a) }
def putL (L : L5) (n k : Nat) (a : Option Nat) : L5 := joinL (joinL (put1 L n k a) n a (some k)) n (some k) (nextOf L n a)
theorem upd_upd (f : Nat → Option Nat) (x : Nat) (u v : Option Nat) : upd (upd f x u) x v = upd f x v := by
  funext y; unfold upd; split <;> rfl
theorem put_nx (L : L5) (n k : Nat) (a : Option Nat) (hak : a ≠ some k) : (joinL (put1 L n k a) n a (some k)).nx k = nextOf L n a := by
  cases a with
  | none => simp [joinL, join2, join1, put1, upd]
  | some a =>
    have : k ≠ a := fun e => hak (by rw [e])
    simp [joinL, join2, join1, put1, upd, this]
set_option maxRecDepth 100000 in
theorem put_lk (nb : Nat → Nat) (R : Nat → RowD) (L : L5) (M n₀ : Nat) (n k : Nat) (a : Option Nat) (w : World) (h : Lk w nb R L M) (h0 : ∀ y, y < M → n₀ ≤ nb y) (hn : n < M) (hk : k < M) (ha : ∀ y, a = some y → y < M) (hak : a ≠ some k) (hx : ∀ y, nextOf L n a = some y → y < M) :
    Calls Tryd.prog 62 #[.pointer (some ⟨nb n, 0, none⟩), .pointer (some ⟨nb k, 0, none⟩), .pointer (padr nb a)] w (Linked nb R (putL L n k a) M n₀ w) := by
  obtain ⟨l3, l4, l5, l6, l7⟩ := h.links hn
  obtain ⟨k3, k4, k5, k6, k7⟩ := h.links hk
  have z3 := h.frozen hk 3
  have z4 := h.frozen hk 4
  have z5 := h.frozen hk 5
  have HN := Lib.hid (put_nx L n k a hak)
  have hkk : ∀ y, some k = some y → y < M := fun y e => by cases e; exact hk
  cases a with
  | none =>
    have hl1 : Lk (((w.setCell ⟨nb k, 3, none⟩ (.pointer (some ⟨nb n, 0, none⟩))).setCell ⟨nb k, 4, none⟩ (.pointer none)).setCell ⟨nb k, 5, none⟩ (.pointer (padr nb (L.fi n)))) nb R (put1 L n k none) M := ((h.set3 hk (some n)).set4 hk none).set5 hk (L.fi n)
    have hb1 : Below n₀ w (((w.setCell ⟨nb k, 3, none⟩ (.pointer (some ⟨nb n, 0, none⟩))).setCell ⟨nb k, 4, none⟩ (.pointer none)).setCell ⟨nb k, 5, none⟩ (.pointer (padr nb (L.fi n)))) :=
      (((Below.refl _ w).setCell (p := ⟨nb k, 3, none⟩) (h0 k hk) _).setCell (p := ⟨nb k, 4, none⟩) (h0 k hk) _).setCell (p := ⟨nb k, 5, none⟩) (h0 k hk) _
    have hs1 : (((w.setCell ⟨nb k, 3, none⟩ (.pointer (some ⟨nb n, 0, none⟩))).setCell ⟨nb k, 4, none⟩ (.pointer none)).setCell ⟨nb k, 5, none⟩ (.pointer (padr nb (L.fi n)))).heap.size = w.heap.size := by simp
    have HS := Lib.hid hs1
    clear hs1
    simp only [padr]
    go_enter Tryd.func62, Tryd.ntmps62
    go_wp2_with fail
    refine (join_lk nb R (put1 L n k none) M n₀ n none (some k) _ hl1 h0 hn ha hkk).mono ?_
    rintro e w2 ⟨⟨v, rfl⟩, hl2, hb2, hs2⟩
    have q5 := (hl2.links hk).2.2.1
    rw [HN.out] at q5
    have hs2' := hs2.trans HS.out
    have HS2 := Lib.hid hs2'
    have hb3 := hb1.trans hb2
    clear hl1 hb1 hb2 HS hs2 hs2'
    go_wp2_with fail
    refine (join_lk nb R _ M n₀ n (some k) (nextOf L n none) _ hl2 h0 hn hkk hx).mono ?_
    rintro e w3 ⟨⟨v, rfl⟩, hl3, hb4, hs3⟩
    go_wp2
    go_end0
    exact ⟨⟨_, rfl⟩, hl3, hb3.trans hb4, hs3.trans HS2.out⟩
  | some a =>
    have haM := ha a rfl
    have hne : a ≠ k := fun e => hak (by rw [e])
    obtain ⟨m3, m4, m5, m6, m7⟩ := h.links haM
    have hbk : nb a ≠ nb k := fun e => hne (h.inj a k haM hk e)
    have hl1 : Lk ((((w.setCell ⟨nb k, 3, none⟩ (.pointer (some ⟨nb n, 0, none⟩))).setCell ⟨nb k, 4, none⟩ (.pointer (some ⟨nb a, 0, none⟩))).setCell ⟨nb k, 5, none⟩ (.pointer (padr nb (L.fi n)))).setCell ⟨nb k, 5, none⟩ (.pointer (padr nb (L.nx a)))) nb R (put1 L n k (some a)) M := by
      have := (((h.set3 hk (some n)).set4 hk (some a)).set5 hk (L.fi n)).set5 hk (L.nx a)
      unfold put1 nextOf
      simp only [upd_upd] at this
      exact this
    have hb1 : Below n₀ w ((((w.setCell ⟨nb k, 3, none⟩ (.pointer (some ⟨nb n, 0, none⟩))).setCell ⟨nb k, 4, none⟩ (.pointer (some ⟨nb a, 0, none⟩))).setCell ⟨nb k, 5, none⟩ (.pointer (padr nb (L.fi n)))).setCell ⟨nb k, 5, none⟩ (.pointer (padr nb (L.nx a)))) :=
      ((((Below.refl _ w).setCell (p := ⟨nb k, 3, none⟩) (h0 k hk) _).setCell (p := ⟨nb k, 4, none⟩) (h0 k hk) _).setCell (p := ⟨nb k, 5, none⟩) (h0 k hk) _).setCell (p := ⟨nb k, 5, none⟩) (h0 k hk) _
    have hs1 : ((((w.setCell ⟨nb k, 3, none⟩ (.pointer (some ⟨nb n, 0, none⟩))).setCell ⟨nb k, 4, none⟩ (.pointer (some ⟨nb a, 0, none⟩))).setCell ⟨nb k, 5, none⟩ (.pointer (padr nb (L.fi n)))).setCell ⟨nb k, 5, none⟩ (.pointer (padr nb (L.nx a)))).heap.size = w.heap.size := by simp
    have HS := Lib.hid hs1
    clear hs1
    simp only [padr]
    go_enter Tryd.func62, Tryd.ntmps62
    go_wp2_with fail
    refine (join_lk nb R (put1 L n k (some a)) M n₀ n (some a) (some k) _ hl1 h0 hn ha hkk).mono ?_
    rintro e w2 ⟨⟨v, rfl⟩, hl2, hb2, hs2⟩
    have q5 := (hl2.links hk).2.2.1
    rw [HN.out] at q5
    have hs2' := hs2.trans HS.out
    have HS2 := Lib.hid hs2'
    have hb3 := hb1.trans hb2
    clear hl1 hb1 hb2 HS hs2 hs2'
    go_wp2_with fail
    refine (join_lk nb R _ M n₀ n (some k) (nextOf L n (some a)) _ hl2 h0 hn hkk hx).mono ?_
    rintro e w3 ⟨⟨v, rfl⟩, hl3, hb4, hs3⟩
    go_wp2
    go_end0
    exact ⟨⟨_, rfl⟩, hl3, hb3.trans hb4, hs3.trans HS2.out⟩
end Go.Proofs.YtefelnodahcolaaDoor
