/-
  GENERAL LEMMAS for the walks over printing: blocks, cells, rows; lists of numbers, of exps and literals as they lie in memory.
-/
import Derived.Test.YtgjmefcognoepaaRows
import Derived.WalkKit
import Derived.WalkSpells
import Derived.WalkLawsBesides
import Derived.Maps.OwnSet
import Derived.DeepKeys4
import Derived.Lib.Hide
import Derived.Deep.AppendLies
import Derived.Deep.LoopGhost
import Derived.Deep.RegionHeld3
import Derived.BigQuiet
namespace Go.Proofs.Ytgjmefcognoepaa.Pr
open Go Go.RowKit Go.Maps Go.WideMaps

theorem cell_lt {w : World} {b off : Nat} {v : Value} (h : w.cell? ⟨b, off, none⟩ = some v) : b < w.heap.size := by
  unfold World.cell? at h
  cases hb : w.heap[b]? with
  | none => simp [hb] at h
  | some o => exact lt_of_block hb
theorem owns_shape {w : World} {base : Nat} {e : TypeId} {size : Nat} {v : Value} {n : Nat} {xs : List Value} (h : w.ownsRow base e size v n xs) : ∃ ao c, v = .slice ao n c := by
  rcases h.2 with ⟨rfl, rfl⟩ | ⟨g, cap, cur, rfl, _⟩
  · exact ⟨_, _, rfl⟩
  · exact ⟨_, _, rfl⟩
theorem own_ge {w : World} {base : Nat} {e : TypeId} {size : Nat} {v : Value} {n : Nat} {xs : List Value} (ho : w.ownsRow base e size v n xs) : ∀ k, v.ownBlock = some k → base ≤ k := by
  intro k he
  rcases ho.2 with ⟨rfl, _⟩ | ⟨g, cap, cur, rfl, hg, _⟩
  · simp [Value.ownBlock] at he
  · simp [Value.ownBlock] at he; omega
theorem other_block {w w1 : World} {base : Nat} {e : TypeId} {size : Nat} {v : Value} {n : Nat} {xs : List Value} (ho : w.ownsRow base e size v n xs) (hg : w.grownBy w1 v.ownBlock) {k : Nat} {o : Obj} (hk : w.heap[k]? = some o) (ht : ∀ cur, o ≠ .cells cur e (0, 0)) :
    w1.heap[k]? = some o := by
  rw [hg.block k (lt_of_block hk) ?_]
  · exact hk
  · intro he
    rcases ho.2 with ⟨rfl, _⟩ | ⟨g, cap, cur, rfl, _, hh, _⟩
    · simp [Value.ownBlock] at he
    · simp [Value.ownBlock] at he
      subst he
      rw [hh] at hk
      exact ht cur (Option.some.inj hk).symm
theorem owns_mono {w : World} {base base' : Nat} {e : TypeId} {size : Nat} {v : Value} {n : Nat} {xs : List Value} (hb : base' ≤ base) (h : w.ownsRow base e size v n xs) : w.ownsRow base' e size v n xs := by
  refine ⟨h.1, ?_⟩
  rcases h.2 with h' | ⟨g, cap, cur, hv, hg, r⟩
  · exact .inl h'
  · exact .inr ⟨g, cap, cur, hv, Nat.le_trans hb hg, r⟩
theorem row_kept {w w' : World} {base : Nat} {e : TypeId} {size : Nat} {v : Value} {n : Nat} {xs : List Value} (h : w.ownsRow base e size v n xs) (hb : Below w.heap.size w w') : w'.ownsRow base e size v n xs := by
  have hg : w.grownBy w' none := ⟨hb.os, hb.tape, hb.output, hb.size, fun k hk _ => hb.block k hk⟩
  exact h.kept hg (by cases hv : v.ownBlock <;> simp)
theorem owns_set {w : World} {base : Nat} {e : TypeId} {g cap n : Nat} {cells : List Value} (h : w.ownsRow base e 1 (.slice (some ⟨g, 0, none⟩) n cap) n cells) {i : Nat} (_hi : i < n) (u : Value) :
    (w.setCell ⟨g, i, none⟩ u).ownsRow base e 1 (.slice (some ⟨g, 0, none⟩) n cap) n (cells.set i u) := by
  refine ⟨by rw [List.length_set]; exact h.1, ?_⟩
  rcases h.2 with ⟨h', _⟩ | ⟨g', cap', cur, hv, hg, hh, h1, h2, h3, h4⟩
  · cases h'
  · simp only [Value.slice.injEq, Option.some.injEq, Addr.mk.injEq, true_and, and_true] at hv
    obtain ⟨rfl, rfl⟩ := hv
    refine .inr ⟨g, cap, cur.setIfInBounds i u, rfl, hg, heap_setCell_same w g i _ _ u hh, h1, h2, by rw [Array.size_setIfInBounds]; exact h3, ?_⟩
    rw [Array.toList_setIfInBounds, ← h4, List.take_set]
theorem row_frozen {w : World} {base : Nat} {e : TypeId} {size g cap n : Nat} {cells : List Value} (h : w.ownsRow base e size (.slice (some ⟨g, 0, none⟩) n cap) n cells) (i : Nat) : w.frozen? ⟨g, i, none⟩ = false := by
  rcases h.2 with ⟨h', _⟩ | ⟨g', cap', cur, hv', _, hh', _⟩
  · cases h'
  · simp only [Value.slice.injEq, Option.some.injEq, Addr.mk.injEq, true_and, and_true] at hv'
    obtain ⟨rfl, rfl⟩ := hv'
    simp [World.frozen?, hh']
theorem below_step {w W w1 : World} (h : Below w.heap.size w W) (h1 : Below W.heap.size W w1) : Below w.heap.size w w1 := h.trans (h1.mono h.size)
theorem below_alloc {w W : World} (h : Below w.heap.size w W) (o : Obj) : Below w.heap.size w (W.alloc o) := h.alloc h.size o
theorem below_set {w W : World} (h : Below w.heap.size w W) {g : Nat} (o : Nat) (u : Value) (hg : w.heap.size ≤ g) : Below w.heap.size w (W.setCell ⟨g, o, none⟩ u) := h.setCell (p := ⟨g, o, none⟩) hg u
theorem below_drewN {B : Nat} {a w : World} (h : Below B a w) (q : Nat) : Below B a (w.drewN q) := ⟨h.os, h.tape, h.output, h.size, h.block⟩
theorem grown_set (w : World) (g o : Nat) (u : Value) : w.grownBy (w.setCell ⟨g, o, none⟩ u) (some g) :=
  ⟨rfl, rfl, rfl, ((Below.refl 0 w).setCell (p := ⟨g, o, none⟩) (Nat.zero_le _) u).size, fun k _ hk => heap_setCell_other w ⟨g, o, none⟩ _ _ (fun e => hk (by rw [e]))⟩
theorem own_ne {w : World} {base : Nat} {e : TypeId} {size : Nat} {v : Value} {n : Nat} {xs : List Value} (ho : w.ownsRow base e size v n xs) {g : Nat} {cur : Array Value} {t : TypeId} {fr : Nat × Nat} (hg : w.heap[g]? = some (.cells cur t fr)) (hne : t ≠ e) : v.ownBlock = none ∨ v.ownBlock ≠ some g := by
  rcases ho.2 with ⟨rfl, _⟩ | ⟨k, cap, cur', rfl, _, hh, _⟩
  · exact .inl rfl
  · right
    intro he
    simp [Value.ownBlock] at he
    subst he
    rw [hh] at hg
    have := Option.some.inj hg
    simp only [Obj.cells.injEq] at this
    exact hne this.2.1.symm
theorem cell_keep_alloc {w : World} {b i : Nat} {v : Value} (h : w.cell? ⟨b, i, none⟩ = some v) (o : Obj) : (w.alloc o).cell? ⟨b, i, none⟩ = some v := by
  rw [← h]
  unfold World.cell?
  rw [heap_alloc_old w o (cell_lt h)]
theorem cell_keep_set {w : World} {b i g : Nat} {v : Value} (h : w.cell? ⟨b, i, none⟩ = some v) (hne : b ≠ g) (o : Nat) (u : Value) : (w.setCell ⟨g, o, none⟩ u).cell? ⟨b, i, none⟩ = some v := by
  rw [← h]
  unfold World.cell?
  rw [heap_setCell_other w ⟨g, o, none⟩ _ _ hne]

theorem alloc3_size (w : World) (o0 o1 o2 : Obj) : (((w.alloc o0).alloc o1).alloc o2).heap.size = w.heap.size + 3 := by simp
theorem alloc3_0 (w : World) (o0 o1 o2 : Obj) : (((w.alloc o0).alloc o1).alloc o2).heap[w.heap.size]? = some o0 := by
  rw [heap_alloc_old _ _ (by simp; omega), heap_alloc_old _ _ (by simp)]
  exact heap_alloc_new w _
theorem alloc3_1 (w : World) (o0 o1 o2 : Obj) : (((w.alloc o0).alloc o1).alloc o2).heap[w.heap.size + 1]? = some o1 := by
  rw [heap_alloc_old _ _ (by simp)]
  exact heap_alloc2_new w _ _
theorem alloc3_2 (w : World) (o0 o1 o2 : Obj) : (((w.alloc o0).alloc o1).alloc o2).heap[w.heap.size + 2]? = some o2 := by
  have := heap_alloc_new ((w.alloc o0).alloc o1) o2
  simpa using this
theorem alloc3_below (w : World) (o0 o1 o2 : Obj) : Below w.heap.size w (((w.alloc o0).alloc o1).alloc o2) := below_alloc (below_alloc (below_alloc (Below.refl _ _) _) _) _

/-- All blocks that S holds are as they were. -/
def Same (S : Nat → Prop) (w w' : World) : Prop := ∀ b, S b → w'.heap[b]? = w.heap[b]?
theorem Same.refl (S : Nat → Prop) (w : World) : Same S w w := fun _ _ => rfl
theorem Same.trans {S : Nat → Prop} {a b c : World} (h : Same S a b) (g : Same S b c) : Same S a c := fun k hk => (g k hk).trans (h k hk)
theorem Same.cell {S : Nat → Prop} {w w' : World} (h : Same S w w') {b off : Nat} (hb : S b) : w'.cell? ⟨b, off, none⟩ = w.cell? ⟨b, off, none⟩ := by
  unfold World.cell?
  rw [show (⟨b, off, none⟩ : Addr).block = b from rfl, h b hb]
theorem Same.below {S : Nat → Prop} {w w' : World} (hS : ∀ b, S b → b < w.heap.size) (h : Below w.heap.size w w') : Same S w w' := fun b hb => h.block b (hS b hb)
theorem Same.set {S : Nat → Prop} (w : World) {g : Nat} (hg : ¬ S g) (o : Nat) (u : Value) : Same S w (w.setCell ⟨g, o, none⟩ u) := fun b hb => heap_setCell_other w ⟨g, o, none⟩ b u (fun e => hg ((show b = g from e) ▸ hb))
theorem Same.mono {S T : Nat → Prop} {w w' : World} (hST : ∀ b, S b → T b) (h : Same T w w') : Same S w w' := fun b hb => h b (hST b hb)

/-- The blocks from lo on and ahead of hi. -/
def Seg (lo hi : Nat) (b : Nat) : Prop := lo ≤ b ∧ b < hi
theorem Seg.mono {lo hi lo' hi' b : Nat} (h : Seg lo hi b) (h1 : lo' ≤ lo) (h2 : hi ≤ hi') : Seg lo' hi' b := ⟨Nat.le_trans h1 h.1, Nat.lt_of_lt_of_le h.2 h2⟩

/-- Numbers to read. -/
def IntsIn (S : Nat → Prop) (w : World) (a : Option Addr) (xs : List Int) : Prop :=
  ∀ i (h : i < xs.length), ∃ (b off : Nat), a = some ⟨b, off, none⟩ ∧ S b ∧ w.cell? ⟨b, off + i, none⟩ = some (.int .i64 xs[i])
theorem IntsIn.kept {S : Nat → Prop} {w w' : World} {a : Option Addr} {xs : List Int} (h : IntsIn S w a xs) (hs : Same S w w') : IntsIn S w' a xs := by
  intro i hi
  obtain ⟨b, off, rfl, h1, h2⟩ := h i hi
  exact ⟨b, off, rfl, h1, (hs.cell h1).trans h2⟩
theorem IntsIn.mono {S T : Nat → Prop} {w : World} {a : Option Addr} {xs : List Int} (h : IntsIn S w a xs) (hs : ∀ b, S b → T b) : IntsIn T w a xs := by
  intro i hi
  obtain ⟨b, off, rfl, h1, h2⟩ := h i hi
  exact ⟨b, off, rfl, hs b h1, h2⟩
theorem IntsIn.nil (S : Nat → Prop) (w : World) (a : Option Addr) : IntsIn S w a [] := fun i h => by simp at h

/-- Texts to read. -/
def TxtsIn (S : Nat → Prop) (w : World) (a : Option Addr) (xs : List ByteArray) : Prop :=
  ∀ i (h : i < xs.length), ∃ (b off : Nat), a = some ⟨b, off, none⟩ ∧ S b ∧ w.cell? ⟨b, off + i, none⟩ = some (.string xs[i])
theorem TxtsIn.kept {S : Nat → Prop} {w w' : World} {a : Option Addr} {xs : List ByteArray} (h : TxtsIn S w a xs) (hs : Same S w w') : TxtsIn S w' a xs := by
  intro i hi
  obtain ⟨b, off, rfl, h1, h2⟩ := h i hi
  exact ⟨b, off, rfl, h1, (hs.cell h1).trans h2⟩
theorem TxtsIn.mono {S T : Nat → Prop} {w : World} {a : Option Addr} {xs : List ByteArray} (h : TxtsIn S w a xs) (hs : ∀ b, S b → T b) : TxtsIn T w a xs := by
  intro i hi
  obtain ⟨b, off, rfl, h1, h2⟩ := h i hi
  exact ⟨b, off, rfl, hs b h1, h2⟩

/-- A reading of a struct: its cells, flat, and what they mean. -/
abbrev Flat (α : Type) := (Nat → Prop) → World → List Value → α → Prop
/-- A reading that hangs on the blocks of S alone. -/
def Keeps {α : Type} (F : Flat α) : Prop :=
  (∀ (S : Nat → Prop) (w w' : World) (vs : List Value) (x : α), F S w vs x → Same S w w' → F S w' vs x) ∧
  (∀ (S T : Nat → Prop) (w : World) (vs : List Value) (x : α), F S w vs x → (∀ k, S k → T k) → F T w vs x)
/-- These cells stand there. -/
def CellsAt (w : World) (b o : Nat) (vs : List Value) : Prop := ∀ j (h : j < vs.length), w.cell? ⟨b, o + j, none⟩ = some vs[j]
theorem CellsAt.kept {S : Nat → Prop} {w w' : World} {b o : Nat} {vs : List Value} (h : CellsAt w b o vs) (hb : S b) (hs : Same S w w') : CellsAt w' b o vs := fun j hj => (hs.cell hb).trans (h j hj)
/-- Structs in a row, c cells each. -/
def RowIn {α : Type} (F : Flat α) (c : Nat) (S : Nat → Prop) (w : World) (a : Option Addr) (l : List α) : Prop :=
  ∀ i (h : i < l.length), ∃ (b off : Nat) (vs : List Value), a = some ⟨b, off, none⟩ ∧ S b ∧ vs.length = c ∧ CellsAt w b (off + i * c) vs ∧ F S w vs l[i]
theorem RowIn.kept {α : Type} {F : Flat α} (hP : Keeps F) {c : Nat} {S : Nat → Prop} {w w' : World} {a : Option Addr} {l : List α} (h : RowIn F c S w a l) (hs : Same S w w') : RowIn F c S w' a l := by
  intro i hi
  obtain ⟨b, off, vs, rfl, h1, h2, h3, h4⟩ := h i hi
  exact ⟨b, off, vs, rfl, h1, h2, h3.kept h1 hs, hP.1 S w w' _ _ h4 hs⟩
theorem RowIn.mono {α : Type} {F : Flat α} (hP : Keeps F) {c : Nat} {S T : Nat → Prop} {w : World} {a : Option Addr} {l : List α} (h : RowIn F c S w a l) (hs : ∀ b, S b → T b) : RowIn F c T w a l := by
  intro i hi
  obtain ⟨b, off, vs, rfl, h1, h2, h3, h4⟩ := h i hi
  exact ⟨b, off, vs, rfl, hs b h1, h2, h3, hP.2 S T w _ _ h4 hs⟩

/-- The sum of the weights. -/
def wsum {α : Type} (f : α → Nat) : List α → Nat
  | [] => 0
  | x :: r => f x + wsum f r
theorem wsum_append {α : Type} (f : α → Nat) : ∀ (l r : List α), wsum f (l ++ r) = wsum f l + wsum f r
  | [], r => by rw [List.nil_append, wsum]; omega
  | a :: l, r => by rw [List.cons_append, wsum, wsum, wsum_append f l r]; omega
theorem wsum_take {α : Type} (f : α → Nat) {l : List α} {k : Nat} (h : k < l.length) : wsum f (l.take (k + 1)) = wsum f (l.take k) + f l[k] := by
  rw [List.take_succ_eq_append_getElem h, wsum_append, wsum, wsum]; omega
theorem wsum_take_le {α : Type} (f : α → Nat) (l : List α) (k : Nat) : wsum f (l.take k) ≤ wsum f l := by
  have := wsum_append f (l.take k) (l.drop k)
  rw [List.take_append_drop] at this
  omega
theorem wsum_mem {α : Type} (f : α → Nat) : ∀ {l : List α} {x : α}, x ∈ l → f x ≤ wsum f l
  | a :: l, x, h => by
    rw [wsum]
    rcases List.mem_cons.1 h with rfl | h
    · omega
    · have := wsum_mem f h; omega

/-- Cells written one behind the other. -/
def setAll (w : World) (g : Nat) : Nat → List Value → World
  | _, [] => w
  | o, v :: r => setAll (w.setCell ⟨g, o, none⟩ v) g (o + 1) r
theorem setAll_facts (g : Nat) (ty : TypeId) : ∀ (vs : List Value) (o : Nat) (w : World) (cur : Array Value), w.heap[g]? = some (.cells cur ty (0, 0)) → o + vs.length ≤ cur.size →
    (∃ cur' : Array Value, (setAll w g o vs).heap[g]? = some (.cells cur' ty (0, 0)) ∧ cur'.size = cur.size ∧ (∀ j, (j < o ∨ o + vs.length ≤ j) → cur'[j]? = cur[j]?) ∧ (∀ j (h : j < vs.length), cur'[o + j]? = some vs[j])) ∧
    (setAll w g o vs).heap.size = w.heap.size ∧ (∀ k, k ≠ g → (setAll w g o vs).heap[k]? = w.heap[k]?) ∧ (setAll w g o vs).os = w.os ∧ (setAll w g o vs).tape = w.tape ∧ (setAll w g o vs).output = w.output
  | [], o, w, cur, hc, _ => ⟨⟨cur, hc, rfl, fun _ _ => rfl, fun j h => by simp at h⟩, rfl, fun _ _ => rfl, rfl, rfl, rfl⟩
  | v :: r, o, w, cur, hc, ho => by
    have hc1 := heap_setCell_same w g o cur ty v hc
    have hl : (v :: r).length = r.length + 1 := rfl
    obtain ⟨⟨cur', h1, h2, h3, h4⟩, h5, h6, h7, h8, h9⟩ := setAll_facts g ty r (o + 1) _ _ hc1 (by rw [Array.size_setIfInBounds]; omega)
    have hsz : (w.setCell ⟨g, o, none⟩ v).heap.size = w.heap.size := by simp [World.setCell]
    refine ⟨⟨cur', h1, by rw [h2, Array.size_setIfInBounds], ?_, ?_⟩, by rw [setAll, h5, hsz], ?_, h7, h8, h9⟩
    · intro j hj
      rw [h3 j (by omega)]
      exact Array.getElem?_setIfInBounds_ne (by omega)
    · intro j hj
      cases j with
      | zero =>
        rw [Nat.add_zero, h3 o (by omega)]
        simp [Array.getElem?_setIfInBounds_self]
        omega
      | succ j =>
        have := h4 j (by simpa using hj)
        rw [show o + (j + 1) = o + 1 + j from by omega, this]
        rfl
    · intro k hk
      rw [setAll, h6 k hk]
      exact heap_setCell_other w ⟨g, o, none⟩ k v hk

/-- The first k items of a new row are laid at g. -/
def RowTo {α : Type} (F : Flat α) (c : Nat) (ty : TypeId) (n0 g : Nat) (w : World) (l : List α) (k : Nat) : Prop :=
  (∃ cur : Array Value, w.heap[g]? = some (.cells cur ty (0, 0)) ∧ cur.size = l.length * c) ∧ n0 ≤ g ∧ ∀ i (h : i < l.length), i < k → ∃ vs : List Value, vs.length = c ∧ CellsAt w g (i * c) vs ∧ F (Seg (g + 1) w.heap.size) w vs l[i]
theorem RowTo.done {α : Type} {F : Flat α} (hP : Keeps F) {c : Nat} {ty : TypeId} {n0 g : Nat} {w : World} {l : List α} (h : RowTo F c ty n0 g w l l.length) : RowIn F c (Seg n0 w.heap.size) w (some ⟨g, 0, none⟩) l := by
  obtain ⟨⟨cur, hc, hsz⟩, hg, hall⟩ := h
  intro i hi
  obtain ⟨vs, h1, h2, h3⟩ := hall i hi hi
  exact ⟨g, 0, vs, rfl, ⟨hg, lt_of_block hc⟩, h1, by rw [Nat.zero_add]; exact h2, hP.2 _ _ _ _ _ h3 (fun b hb => hb.mono (by omega) (Nat.le_refl _))⟩
theorem RowTo.room {α : Type} {F : Flat α} {c : Nat} {ty : TypeId} {n0 g : Nat} {w : World} {l : List α} {k : Nat} (h : RowTo F c ty n0 g w l k) {w1 : World} (hb : Below w.heap.size w w1) (hk : k < l.length) {j : Nat} (hj : j < c) : (∃ u, w1.cell? ⟨g, k * c + j, none⟩ = some u) ∧ w1.frozen? ⟨g, k * c + j, none⟩ = false := by
  obtain ⟨⟨cur, hc, hsz⟩, _, _⟩ := h
  have hc1 := (hb.block _ (lt_of_block hc)).trans hc
  have hm : (k + 1) * c ≤ l.length * c := Nat.mul_le_mul_right c hk
  rw [Nat.succ_mul] at hm
  refine ⟨⟨cur[k * c + j]'(by omega), ?_⟩, by simp [World.frozen?, hc1]⟩
  rw [cell_of_row w1 g _ _ _ _ hc1]
  exact Array.getElem?_eq_getElem (by omega)
theorem RowTo.step {α : Type} {F : Flat α} (hP : Keeps F) {c : Nat} {ty : TypeId} {n0 g : Nat} {w : World} {l : List α} {k : Nat} (h : RowTo F c ty n0 g w l k) (hk : k < l.length) {w1 : World} (hb : Below w.heap.size w w1) {vs : List Value} (hv : vs.length = c) (hF : F (Seg w.heap.size w1.heap.size) w1 vs l[k]) :
    RowTo F c ty n0 g (setAll w1 g (k * c) vs) l (k + 1) ∧ Below g w (setAll w1 g (k * c) vs) := by
  obtain ⟨⟨cur, hc, hsz⟩, hg, hall⟩ := h
  have hgl := lt_of_block hc
  have hc1 := (hb.block _ hgl).trans hc
  have hm : (k + 1) * c ≤ l.length * c := Nat.mul_le_mul_right c hk
  rw [Nat.succ_mul] at hm
  obtain ⟨⟨cur', h1, h2, h3, h4⟩, h5, h6, h7, h8, h9⟩ := setAll_facts g ty vs (k * c) w1 cur hc1 (by omega)
  have hSame : Same (Seg (g + 1) w.heap.size) w (setAll w1 g (k * c) vs) := fun b hb' => (h6 b (by have := hb'.1; omega)).trans (hb.block b hb'.2)
  have hSame2 : Same (Seg w.heap.size w1.heap.size) w1 (setAll w1 g (k * c) vs) := fun b hb' => h6 b (by have := hb'.1; omega)
  have hbs := hb.size
  refine ⟨⟨⟨cur', h1, by omega⟩, hg, ?_⟩, ⟨h7.trans hb.os, h8.trans hb.tape, h9.trans hb.output, by rw [h5]; exact hb.size, fun b hb' => (h6 b (by omega)).trans (hb.block b (by omega))⟩⟩
  intro i hi hik
  by_cases hlt : i < k
  · obtain ⟨us, g1, g2, g3⟩ := hall i hi hlt
    have hm2 : (i + 1) * c ≤ k * c := Nat.mul_le_mul_right c hlt
    rw [Nat.succ_mul] at hm2
    refine ⟨us, g1, ?_, ?_⟩
    · intro j hj
      rw [cell_of_row _ g _ _ _ _ h1, h3 _ (by omega), ← cell_of_row w g _ _ _ _ hc]
      exact g2 j hj
    · exact hP.2 _ _ _ _ _ (hP.1 _ _ _ _ _ g3 hSame) (fun b hb' => hb'.mono (Nat.le_refl _) (by omega))
  · obtain rfl : i = k := by omega
    refine ⟨vs, hv, ?_, ?_⟩
    · intro j hj
      rw [cell_of_row _ g _ _ _ _ h1]
      exact h4 j hj
    · exact hP.2 _ _ _ _ _ (hP.1 _ _ _ _ _ hF hSame2) (fun b hb' => hb'.mono (by omega) (by omega))

end Go.Proofs.Ytgjmefcognoepaa.Pr
