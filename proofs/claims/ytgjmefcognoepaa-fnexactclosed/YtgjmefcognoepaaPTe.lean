/-
  THE LAWS' OWN HELPERS over exps and literals.
-/
import Derived.Test.YtgjmefcognoepaaPSz
namespace Go.Proofs.Ytgjmefcognoepaa.Pr
open Go Go.RowKit Go.Maps Go.WideMaps

theorem lenIntS (l : List Int) : l.length ≤ wtIntS l := by unfold wtIntS; omega
theorem lenStringS (l : List ByteArray) : l.length ≤ wtStringS l := by unfold wtStringS; omega
theorem frozen_row {w : World} {g : Nat} {cs : Array Value} {t : TypeId} (h : w.heap[g]? = some (.cells cs t (0, 0))) (j : Nat) : w.frozen? ⟨g, j, none⟩ = false := by simp [World.frozen?, h]
theorem cells_eq {cur : Array Value} {vs : List Value} (h1 : cur.size = vs.length) (h2 : ∀ j (h : j < vs.length), cur[0 + j]? = some vs[j]) : cur = vs.toArray := by
  apply Array.ext
  · simpa using h1
  · intro i hi hi2
    have := h2 i (by omega)
    rw [Nat.zero_add, Array.getElem?_eq_getElem hi] at this
    simpa using this
theorem laid_out {w W : World} {c : Nat} {z1 z2 : Array Value} {ty ty2 : TypeId} (j0 : Nat) (pend fin : List Value) (k1 : W.heap[w.heap.size + 1]? = some (.cells z1 ty (0, 0))) (k2 : W.heap[w.heap.size + 2]? = some (.cells z2 ty2 (0, 0))) (hb : Below w.heap.size w W) (hp : j0 + pend.length ≤ z2.size) (hf : fin.length = c) (hz : z1.size = c) :
    (setAll (setAll W (w.heap.size + 2) j0 pend) (w.heap.size + 1) 0 fin).heap[w.heap.size + 1]? = some (.cells fin.toArray ty (0, 0)) ∧ Below w.heap.size w (setAll (setAll W (w.heap.size + 2) j0 pend) (w.heap.size + 1) 0 fin) ∧
    (∀ S : Nat → Prop, ¬ S (w.heap.size + 1) → ¬ S (w.heap.size + 2) → Same S W (setAll (setAll W (w.heap.size + 2) j0 pend) (w.heap.size + 1) 0 fin)) ∧ (setAll (setAll W (w.heap.size + 2) j0 pend) (w.heap.size + 1) 0 fin).heap.size = W.heap.size := by
  obtain ⟨_, p2, p3, p4, p5, p6⟩ := setAll_facts (w.heap.size + 2) ty2 pend j0 W z2 k2 hp
  have q1 := (p3 (w.heap.size + 1) (by omega)).trans k1
  obtain ⟨⟨cur, r1, r2, _, r4⟩, r5, r6, r7, r8, r9⟩ := setAll_facts (w.heap.size + 1) ty fin 0 _ z1 q1 (by omega)
  rw [cells_eq (by omega) r4] at r1
  refine ⟨r1, ⟨r7.trans (p4.trans hb.os), r8.trans (p5.trans hb.tape), r9.trans (p6.trans hb.output), by rw [r5, p2]; exact hb.size, fun b hb' => ?_⟩, fun S h1 h2 b hb' => ?_, r5.trans p2⟩
  · rw [r6 b (by omega), p3 b (by omega)]
    exact hb.block b hb'
  · rw [r6 b (fun e => h1 (e ▸ hb')), p3 b (fun e => h2 (e ▸ hb'))]

structure It where
  k : Int
  s : ByteArray
  xs : List Int
def FIt : Flat It := fun S w vs x => ∃ (axs : Option Addr) (cxs : Nat), vs = [.int .i64 x.k, .string x.s, .slice axs x.xs.length cxs] ∧ IntsIn S w axs x.xs
theorem FIt_keeps : Keeps FIt := by
  refine ⟨?_, ?_⟩
  · rintro S w w' vs x ⟨axs, cxs, rfl, h0⟩ hs
    exact ⟨_, _, rfl, h0.kept hs⟩
  · rintro S T w vs x ⟨axs, cxs, rfl, h0⟩ hs
    exact ⟨_, _, rfl, h0.mono hs⟩
def It.wt (x : It) : Nat := x.s.size + wtIntS x.xs
def It.fits (x : It) : Prop := x.s.size ≤ 9223372036854775807 ∧ x.xs.length ≤ 9223372036854775807

def wtExpS (l : List It) : Nat := wsum It.wt l + l.length
theorem lenExpS (l : List It) : l.length ≤ wtExpS l := by unfold wtExpS; omega
def SzRelExpS (w : World) (l : List It) (L : Int) (v1 v5 : Value) (wr : World) : Prop :=
  ∃ k : Nat, Below w.heap.size w wr ∧ v5 = .int .i64 (k : Int) ∧ k ≤ l.length ∧ v1 = .int .i64 (L - (l.length : Int) - (wsum It.wt (l.take k) : Int)) ∧ ((wsum It.wt (l.take k) : Int) + l.length ≤ L)

def EqRelExpS (w : World) (n : Nat) (v : Value) (wr : World) : Prop := ∃ k : Nat, Below w.heap.size w wr ∧ v = .int .i64 (k : Int) ∧ k ≤ n

def wtLitS (l : List It) : Nat := wsum It.wt l + l.length
theorem lenLitS (l : List It) : l.length ≤ wtLitS l := by unfold wtLitS; omega
def SzRelLitS (w : World) (l : List It) (L : Int) (v1 v5 : Value) (wr : World) : Prop :=
  ∃ k : Nat, Below w.heap.size w wr ∧ v5 = .int .i64 (k : Int) ∧ k ≤ l.length ∧ v1 = .int .i64 (L - (l.length : Int) - (wsum It.wt (l.take k) : Int)) ∧ ((wsum It.wt (l.take k) : Int) + l.length ≤ L)

def EqRelLitS (w : World) (n : Nat) (v : Value) (wr : World) : Prop := ∃ k : Nat, Below w.heap.size w wr ∧ v = .int .i64 (k : Int) ∧ k ≤ n

end Go.Proofs.Ytgjmefcognoepaa.Pr
