/-
  THE LAWS' OWN MARKING: of a text, of a list of texts (and its looking again), of a rule.
-/
import Derived.Test.YtcohjmbbanjjeaaGreatDoorPTq
namespace Go.Proofs.YtcohjmbbanjjeaaGreatDoor.Pr
open Go Go.RowKit Go.Maps Go.WideMaps

abbrev lst (s : ByteArray) : List UInt8 := s.data.toList
theorem lst_inj {a b : ByteArray} (h : lst a = lst b) : a = b := by
  cases a; cases b
  simp only [lst] at h
  congr 1
  exact Array.toList_inj.1 h

/-- The digits of k, ahead of those that are there. -/
def digs : Nat → Nat → List UInt8 → List UInt8
  | 0, _, acc => acc
  | f + 1, k, acc => if k = 0 then acc else digs f (k / 10) (UInt8.ofNat (48 + k % 10) :: acc)
def markOf (k : Nat) : List UInt8 := 109 :: digs k k []
theorem digs_zero (f : Nat) (acc : List UInt8) : digs f 0 acc = acc := by
  cases f with
  | zero => rw [digs]
  | succ f => rw [digs, if_pos rfl]
theorem digs_step {f k : Nat} (acc : List UInt8) (h : 0 < k) (hf : k ≤ f) : ∃ f', k / 10 ≤ f' ∧ digs f k acc = digs f' (k / 10) (UInt8.ofNat (48 + k % 10) :: acc) := by
  cases f with
  | zero => omega
  | succ f => exact ⟨f, by omega, by rw [digs, if_neg (by omega)]⟩

def MkTRel (w : World) (k : Nat) (v0 v3 : Value) (wr : World) : Prop :=
  ∃ (f k' : Nat) (s : ByteArray), Below w.heap.size w wr ∧ v0 = .int .i64 (k' : Int) ∧ v3 = .string s ∧ k' ≤ f ∧ s.size + k' ≤ k ∧ digs f k' (lst s) = digs k k []

def MarksOk (ms : List ByteArray) : Prop := ∀ j (h : j < ms.length), lst ms[j] = markOf (1 + j)

def MkSRel (w : World) (B : Nat) (v : Value) (xs : List ByteArray) (v1 v5 : Value) (wr : World) : Prop :=
  ∃ (i : Nat) (ms : List ByteArray), v5 = .int .i64 (i : Int) ∧ v1 = .int .i64 (1 + (i : Int)) ∧ i ≤ xs.length ∧ ms.length = i ∧ MarksOk ms ∧ wr.ownsRow B 9 1 v xs.length (txtCells (ms ++ xs.drop i)) ∧ Below B w wr

def HdSRel (w : World) (n : Nat) (v1 v5 : Value) (wr : World) : Prop := ∃ i : Nat, Below w.heap.size w wr ∧ v1 = .int .i64 (1 + (i : Int)) ∧ v5 = .int .i64 (i : Int) ∧ i ≤ n

/-! ### Marking leaves the kinds of cells as they are -/

/-- From w to w' only cells of S were written: numbers with numbers, texts with texts; and new memory came. -/
structure Mkd (S : Nat → Prop) (w w' : World) : Prop where
  os : w'.os = w.os
  tape : w'.tape = w.tape
  output : w'.output = w.output
  size : w.heap.size ≤ w'.heap.size
  block : ∀ b, b < w.heap.size → ¬ S b → w'.heap[b]? = w.heap[b]?
  slice : ∀ b o a n c, S b → w.cell? ⟨b, o, none⟩ = some (.slice a n c) → w'.cell? ⟨b, o, none⟩ = some (.slice a n c)
  int : ∀ b o x, S b → w.cell? ⟨b, o, none⟩ = some (.int .i64 x) → ∃ y, w'.cell? ⟨b, o, none⟩ = some (.int .i64 y)
  str : ∀ b o x, S b → w.cell? ⟨b, o, none⟩ = some (.string x) → ∃ y, w'.cell? ⟨b, o, none⟩ = some (.string y)
  frozen : ∀ b o, S b → w.frozen? ⟨b, o, none⟩ = false → w'.frozen? ⟨b, o, none⟩ = false
theorem Mkd.refl (S : Nat → Prop) (w : World) : Mkd S w w := ⟨rfl, rfl, rfl, Nat.le_refl _, fun _ _ _ => rfl, fun _ _ _ _ _ _ h => h, fun _ _ x _ h => ⟨x, h⟩, fun _ _ x _ h => ⟨x, h⟩, fun _ _ _ h => h⟩
theorem Mkd.trans {S : Nat → Prop} {a b c : World} (h : Mkd S a b) (g : Mkd S b c) : Mkd S a c := by
  refine ⟨g.os.trans h.os, g.tape.trans h.tape, g.output.trans h.output, Nat.le_trans h.size g.size, fun k hk hs => ?_, fun k o x n d hs hc => g.slice k o x n d hs (h.slice k o x n d hs hc), fun k o x hs hc => ?_, fun k o x hs hc => ?_, fun k o hs hf => g.frozen k o hs (h.frozen k o hs hf)⟩
  · rw [g.block k (Nat.lt_of_lt_of_le hk h.size) hs, h.block k hk hs]
  · obtain ⟨y, hy⟩ := h.int k o x hs hc
    exact g.int k o y hs hy
  · obtain ⟨y, hy⟩ := h.str k o x hs hc
    exact g.str k o y hs hy
theorem Mkd.below {S : Nat → Prop} {w w' : World} (hS : ∀ b, S b → b < w.heap.size) (h : Below w.heap.size w w') : Mkd S w w' := by
  have hc : ∀ b o, S b → w'.cell? ⟨b, o, none⟩ = w.cell? ⟨b, o, none⟩ := fun b o hb => h.cell (p := ⟨b, o, none⟩) (hS b hb)
  refine ⟨h.os, h.tape, h.output, h.size, fun b hb _ => h.block b hb, fun b o a n c hs h1 => (hc b o hs).trans h1, fun b o x hs h1 => ⟨x, (hc b o hs).trans h1⟩, fun b o x hs h1 => ⟨x, (hc b o hs).trans h1⟩, fun b o hs hf => ?_⟩
  unfold World.frozen? at hf ⊢
  rw [show (⟨b, o, none⟩ : Addr).block = b from rfl, h.block b (hS b hs)]
  exact hf
theorem Mkd.setInt {S : Nat → Prop} {w : World} {g o : Nat} {x : Int} (hg : S g) (hc : w.cell? ⟨g, o, none⟩ = some (.int .i64 x)) (y : Int) : Mkd S w (w.setCell ⟨g, o, none⟩ (.int .i64 y)) := by
  have hsame := World.cell?_setCell_same w ⟨g, o, none⟩ (.int .i64 y) hc
  have hoth : ∀ b p, (⟨g, o, none⟩ : Addr) ≠ ⟨b, p, none⟩ → (w.setCell ⟨g, o, none⟩ (.int .i64 y)).cell? ⟨b, p, none⟩ = w.cell? ⟨b, p, none⟩ := fun b p h => World.cell?_setCell_other w _ _ _ h
  have hG := grown_set w g o (.int .i64 y)
  refine ⟨hG.os, hG.tape, hG.output, hG.size, fun b hb hs => hG.block b hb (fun e => hs (by cases e; exact hg)), fun b p a n c _ h1 => ?_, fun b p z _ h1 => ?_, fun b p z _ h1 => ?_, fun b p _ hf => by rw [World.frozen?_setCell]; exact hf⟩
  · by_cases e : (⟨g, o, none⟩ : Addr) = ⟨b, p, none⟩
    · rw [← e] at h1; rw [hc] at h1; cases h1
    · rw [hoth b p e]; exact h1
  · by_cases e : (⟨g, o, none⟩ : Addr) = ⟨b, p, none⟩
    · rw [← e]; exact ⟨y, hsame⟩
    · rw [hoth b p e]; exact ⟨z, h1⟩
  · by_cases e : (⟨g, o, none⟩ : Addr) = ⟨b, p, none⟩
    · rw [← e] at h1; rw [hc] at h1; cases h1
    · rw [hoth b p e]; exact ⟨z, h1⟩
theorem Mkd.setStr {S : Nat → Prop} {w : World} {g o : Nat} {x : ByteArray} (hg : S g) (hc : w.cell? ⟨g, o, none⟩ = some (.string x)) (y : ByteArray) : Mkd S w (w.setCell ⟨g, o, none⟩ (.string y)) := by
  have hsame := World.cell?_setCell_same w ⟨g, o, none⟩ (.string y) hc
  have hoth : ∀ b p, (⟨g, o, none⟩ : Addr) ≠ ⟨b, p, none⟩ → (w.setCell ⟨g, o, none⟩ (.string y)).cell? ⟨b, p, none⟩ = w.cell? ⟨b, p, none⟩ := fun b p h => World.cell?_setCell_other w _ _ _ h
  have hG := grown_set w g o (.string y)
  refine ⟨hG.os, hG.tape, hG.output, hG.size, fun b hb hs => hG.block b hb (fun e => hs (by cases e; exact hg)), fun b p a n c _ h1 => ?_, fun b p z _ h1 => ?_, fun b p z _ h1 => ?_, fun b p _ hf => by rw [World.frozen?_setCell]; exact hf⟩
  · by_cases e : (⟨g, o, none⟩ : Addr) = ⟨b, p, none⟩
    · rw [← e] at h1; rw [hc] at h1; cases h1
    · rw [hoth b p e]; exact h1
  · by_cases e : (⟨g, o, none⟩ : Addr) = ⟨b, p, none⟩
    · rw [← e] at h1; rw [hc] at h1; cases h1
    · rw [hoth b p e]; exact ⟨z, h1⟩
  · by_cases e : (⟨g, o, none⟩ : Addr) = ⟨b, p, none⟩
    · rw [← e]; exact ⟨y, hsame⟩
    · rw [hoth b p e]; exact ⟨z, h1⟩
theorem Mkd.toBelow {S : Nat → Prop} {w w' : World} {B : Nat} (h : Mkd S w w') (hB : B ≤ w.heap.size) (hS : ∀ b, S b → B ≤ b) : Below B w w' := ⟨h.os, h.tape, h.output, h.size, fun b hb => h.block b (by omega) (fun hs => by have := hS b hs; omega)⟩

/-- n numbers lie there. -/
def IntSh (S : Nat → Prop) (w : World) (a : Option Addr) (n : Nat) : Prop := ∀ i, i < n → ∃ (b off : Nat) (x : Int), a = some ⟨b, off, none⟩ ∧ S b ∧ w.cell? ⟨b, off + i, none⟩ = some (.int .i64 x)
theorem IntsIn.sh {S : Nat → Prop} {w : World} {a : Option Addr} {xs : List Int} (h : IntsIn S w a xs) : IntSh S w a xs.length := by
  intro i hi
  obtain ⟨b, off, h1, h2, h3⟩ := h i hi
  exact ⟨b, off, _, h1, h2, h3⟩
theorem IntSh.kept {S : Nat → Prop} {w w' : World} {a : Option Addr} {n : Nat} (h : IntSh S w a n) (m : Mkd S w w') : IntSh S w' a n := by
  intro i hi
  obtain ⟨b, off, x, h1, h2, h3⟩ := h i hi
  obtain ⟨y, hy⟩ := m.int _ _ _ h2 h3
  exact ⟨b, off, y, h1, h2, hy⟩
/-- n exps (or literals) lie there. -/
def ItSh (S : Nat → Prop) (w : World) (a : Option Addr) (n : Nat) : Prop := ∀ i, i < n → ∃ (b off : Nat) (x : Int) (s : ByteArray) (ka : Option Addr) (m kc : Nat), a = some ⟨b, off, none⟩ ∧ S b ∧ w.cell? ⟨b, off + i * 3, none⟩ = some (.int .i64 x) ∧ w.cell? ⟨b, off + i * 3 + 1, none⟩ = some (.string s) ∧ w.cell? ⟨b, off + i * 3 + 2, none⟩ = some (.slice ka m kc) ∧ m ≤ 2097152 ∧ IntSh S w ka m
theorem RowIn.sh {S : Nat → Prop} {w : World} {a : Option Addr} {l : List It} (h : RowIn FIt 3 S w a l) (hl : ∀ x ∈ l, x.xs.length ≤ 2097152) : ItSh S w a l.length := by
  intro i hi
  obtain ⟨b, off, vs, h1, h2, h3, h4, axs, cxs, rfl, h6⟩ := h i hi
  exact ⟨b, off, _, _, axs, _, cxs, h1, h2, h4 0 (by simp), h4 1 (by simp), h4 2 (by simp), hl _ (List.getElem_mem hi), h6.sh⟩
theorem ItSh.kept {S : Nat → Prop} {w w' : World} {a : Option Addr} {n : Nat} (h : ItSh S w a n) (m : Mkd S w w') : ItSh S w' a n := by
  intro i hi
  obtain ⟨b, off, x, s, ka, q, kc, h1, h2, h3, h4, h5, h6, h7⟩ := h i hi
  obtain ⟨y, hy⟩ := m.int _ _ _ h2 h3
  obtain ⟨t, ht⟩ := m.str _ _ _ h2 h4
  exact ⟨b, off, y, t, ka, q, kc, h1, h2, hy, ht, m.slice _ _ _ _ _ h2 h5, h6, h7.kept m⟩

def MkIRel (S : Nat → Prop) (w : World) (n : Nat) (k : Int) (v1 v5 : Value) (wr : World) : Prop := ∃ (i : Nat) (z : Int), v5 = .int .i64 (i : Int) ∧ v1 = .int .i64 z ∧ z = k + i ∧ i ≤ n ∧ Mkd S w wr

def MkExpRel (S : Nat → Prop) (w : World) (n : Nat) (k : Int) (v1 v5 : Value) (wr : World) : Prop := ∃ (i : Nat) (z : Int), v5 = .int .i64 (i : Int) ∧ v1 = .int .i64 z ∧ k ≤ z ∧ z ≤ k + 2097156 * i ∧ i ≤ n ∧ Mkd S w wr

def MkLitRel (S : Nat → Prop) (w : World) (n : Nat) (k : Int) (v1 v5 : Value) (wr : World) : Prop := ∃ (i : Nat) (z : Int), v5 = .int .i64 (i : Int) ∧ v1 = .int .i64 z ∧ k ≤ z ∧ z ≤ k + 2097156 * i ∧ i ≤ n ∧ Mkd S w wr

end Go.Proofs.YtcohjmbbanjjeaaGreatDoor.Pr
