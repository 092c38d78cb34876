/-
  THE LAWS' OWN HELPERS over rules.
-/
import Derived.Test.YtgjmefcognoepaaPTe
namespace Go.Proofs.Ytgjmefcognoepaa.Pr
open Go Go.RowKit Go.Maps Go.WideMaps

structure Ru where
  es : List It
  hd : It
  bd : List It
def FRu : Flat Ru := fun S w vs x => ∃ (aes : Option Addr) (ces : Nat), ∃ (ahdxs : Option Addr) (chdxs : Nat), ∃ (abd : Option Addr) (cbd : Nat), vs = [.slice aes x.es.length ces, .int .i64 x.hd.k, .string x.hd.s, .slice ahdxs x.hd.xs.length chdxs, .slice abd x.bd.length cbd] ∧ RowIn FIt 3 S w aes x.es ∧ IntsIn S w ahdxs x.hd.xs ∧ RowIn FIt 3 S w abd x.bd
theorem FRu_keeps : Keeps FRu := by
  refine ⟨?_, ?_⟩
  · rintro S w w' vs x ⟨aes, ces, ahdxs, chdxs, abd, cbd, rfl, h0, h1, h2⟩ hs
    exact ⟨_, _, _, _, _, _, rfl, RowIn.kept FIt_keeps h0 hs, h1.kept hs, RowIn.kept FIt_keeps h2 hs⟩
  · rintro S T w vs x ⟨aes, ces, ahdxs, chdxs, abd, cbd, rfl, h0, h1, h2⟩ hs
    exact ⟨_, _, _, _, _, _, rfl, RowIn.mono FIt_keeps h0 hs, h1.mono hs, RowIn.mono FIt_keeps h2 hs⟩
def Ru.wt (x : Ru) : Nat := wtExpS x.es + x.hd.wt + wtLitS x.bd
def Ru.fits (x : Ru) : Prop := (x.es.length ≤ 9223372036854775807 ∧ ∀ y ∈ x.es, y.fits) ∧ x.hd.fits ∧ (x.bd.length ≤ 9223372036854775807 ∧ ∀ y ∈ x.bd, y.fits)

def wtRuleS (l : List Ru) : Nat := wsum Ru.wt l + l.length
theorem lenRuleS (l : List Ru) : l.length ≤ wtRuleS l := by unfold wtRuleS; omega
def SzRelRuleS (w : World) (l : List Ru) (L : Int) (v1 v5 : Value) (wr : World) : Prop :=
  ∃ k : Nat, Below w.heap.size w wr ∧ v5 = .int .i64 (k : Int) ∧ k ≤ l.length ∧ v1 = .int .i64 (L - (l.length : Int) - (wsum Ru.wt (l.take k) : Int)) ∧ ((wsum Ru.wt (l.take k) : Int) + l.length ≤ L)

def EqRelRuleS (w : World) (n : Nat) (v : Value) (wr : World) : Prop := ∃ k : Nat, Below w.heap.size w wr ∧ v = .int .i64 (k : Int) ∧ k ≤ n

end Go.Proofs.Ytgjmefcognoepaa.Pr
