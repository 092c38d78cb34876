/-
  THE STORE OF impl/l01_terms.go AS MEMORY: rows of nodes and cells, maps from each to its place. Nothing is walked here.
-/
import Derived.Test.YtngnmfoephegmaaDoorRows
import Derived.WalkKit
import Derived.WalkSpells
import Derived.Maps.OwnSet
import Derived.DeepKeys4
import Derived.Lib.Hide
import Derived.Deep.AppendLies
namespace Go.Proofs.YtngnmfoephegmaaDoor
open Go Go.RowKit Go.Maps Go.WideMaps

theorem laidOut : laidOutB Tryd.prog = true := by kernel_rfl

/-- A node: the fields of termNode. -/
structure Nd where
  kind : Int
  name : ByteArray
  num : Int
  args : Nat

namespace Nd
def cells (n : Nd) : List Value := [.int .i64 n.kind, .string n.name, .int .i64 n.num, .int .i64 n.args]
def val (n : Nd) : Value := .agg #[.int .i64 n.kind, .string n.name, .int .i64 n.num, .int .i64 n.args]
/-- Within the bounds that a key asks. -/
structure Ok (n : Nd) : Prop where
  k0 : 0 ≤ n.kind
  k1 : n.kind ≤ 3
  nm : n.name.size ≤ 1000
  u0 : -1000000 ≤ n.num
  u1 : n.num ≤ 1000000
  ar : n.args ≤ 1000000
end Nd

theorem cellsN : Tryd.prog.cellsOf 59 = 4 := by kernel_rfl
theorem cellsI : Tryd.prog.cellsOf 3 = 1 := by kernel_rfl
theorem cellsS : Tryd.prog.cellsOf 9 = 1 := by kernel_rfl
theorem keyTypeN : Tryd.prog.keyType 59 = true := by kernel_rfl
theorem typesSize : ∃ d, Tryd.prog.types.size + 1 = d + 3 := by
  have : 2 ≤ Tryd.prog.types.size := of_decide_eq_true (by kernel_rfl)
  generalize Tryd.prog.types.size = n at this
  exact ⟨n - 2, by omega⟩

theorem wf64 {n : Int} (h0 : -1000000 ≤ n) (h1 : n ≤ 1000000) : (Lit.int .i64 n).wf = true := by
  have e1 : IntKind.i64.min = -9223372036854775808 := rfl
  have e2 : IntKind.i64.max = 9223372036854775807 := rfl
  simp [Lit.wf, e1, e2]; omega

/-- A node that is Ok is a key. -/
theorem keyOf_node (n : Nd) (h : n.Ok) : ∃ l, keyOf Tryd.prog 59 n.val = some l := by
  have f : n.val.formed Tryd.prog 59 = true := by simp [Nd.val, Value.formed, Tryd.underlying59, cellsN]
  have w1 := wf64 (n := n.kind) (by have := h.k0; omega) (by have := h.k1; omega)
  have w2 := wf64 h.u0 h.u1
  have w3 := wf64 (n := (n.args : Int)) (by omega) (by have := h.ar; omega)
  have s1 : n.name.size ≤ maxLen := by have := h.nm; unfold maxLen; omega
  simp only [keyOf, Tryd.underlying59, keyTypeN, f, Bool.and_self, if_true]
  obtain ⟨d, hd⟩ := typesSize
  rw [hd]
  simp only [Nd.val, Value.cells, Program.keyLits, Tryd.underlying59, cellsN]
  simp [Tryd.underlying3, Tryd.underlying9, cellsI, cellsS, w1, w2, w3, s1]

theorem rowN : (59 : TypeId) < Tryd.prog.types.size := of_decide_eq_true (by kernel_rfl)
set_option maxRecDepth 100000 in
theorem wideN : (match Tryd.prog.underlying 59 with | some (.array _ _) | some (.struct _) => true | _ => false) = true := by kernel_rfl
set_option maxRecDepth 100000 in
theorem lawN : Keyed Tryd.prog 59 := Keyed.of_law (deep_law_laid laidOut (m := 3) (by omega) rowN (by kernel_rfl) wideN)

/-- A cell of a list: two places. -/
structure Cl where
  head : Nat
  tail : Nat

namespace Cl
def cells (c : Cl) : List Value := [.int .i64 c.head, .int .i64 c.tail]
def val (c : Cl) : Value := .agg #[.int .i64 c.head, .int .i64 c.tail]
structure Ok (c : Cl) : Prop where
  h : c.head ≤ 1000000
  t : c.tail ≤ 1000000
end Cl

theorem cellsC : Tryd.prog.cellsOf 85 = 2 := by kernel_rfl
theorem keyTypeC : Tryd.prog.keyType 85 = true := by kernel_rfl
theorem keyOf_cell (c : Cl) (h : c.Ok) : ∃ l, keyOf Tryd.prog 85 c.val = some l := by
  have f : c.val.formed Tryd.prog 85 = true := by simp [Cl.val, Value.formed, Tryd.underlying85, cellsC]
  have w1 := wf64 (n := (c.head : Int)) (by omega) (by have := h.h; omega)
  have w2 := wf64 (n := (c.tail : Int)) (by omega) (by have := h.t; omega)
  simp only [keyOf, Tryd.underlying85, keyTypeC, f, Bool.and_self, if_true]
  obtain ⟨d, hd⟩ := typesSize
  rw [hd]
  simp only [Cl.val, Value.cells, Program.keyLits, Tryd.underlying85, cellsC]
  simp [Tryd.underlying3, cellsI, w1, w2, List.range_succ]
theorem rowC : (85 : TypeId) < Tryd.prog.types.size := of_decide_eq_true (by kernel_rfl)
set_option maxRecDepth 100000 in
theorem wideC : (match Tryd.prog.underlying 85 with | some (.array _ _) | some (.struct _) => true | _ => false) = true := by kernel_rfl
set_option maxRecDepth 100000 in
theorem lawC : Keyed Tryd.prog 85 := Keyed.of_law (deep_law_laid laidOut (m := 3) (by omega) rowC (by kernel_rfl) wideC)

/-! ### A map from what is in a list to its place -/

/-- The map D has just the keys of vs (as values of type kt), each at its place and off. -/
structure MapIs (kt : TypeId) (off : Nat) (D : DataW Unit) (vs : List Value) : Prop where
  hit : ∀ i v, vs[i]? = some v → ∃ l, keyOf Tryd.prog kt v = some l ∧ Maps.has D l = true ∧ ∀ z, D.atKey l z = .lit (.int .i64 ((i + off : Nat) : Int))
  miss : ∀ v l, keyOf Tryd.prog kt v = some l → (∀ i : Nat, vs[i]? ≠ some v) → Maps.has D l = false

theorem mapIs_nil (kt : TypeId) (off : Nat) : MapIs kt off (.map []) [] := ⟨fun i v h => by simp at h, fun v l _ _ => rfl⟩

theorem MapIs.inj {kt : TypeId} {off : Nat} {D : DataW Unit} {vs : List Value} (h : MapIs kt off D vs) {i j : Nat} {v : Value} (hi : vs[i]? = some v) (hj : vs[j]? = some v) : i = j := by
  obtain ⟨l, k1, _, a1⟩ := h.hit i v hi
  obtain ⟨l', k2, _, a2⟩ := h.hit j v hj
  obtain rfl := Option.some.inj (k1.symm.trans k2)
  have := (a1 .nil).symm.trans (a2 .nil)
  simp at this
  omega

theorem MapIs.put {kt : TypeId} {off : Nat} {D : DataW Unit} {vs : List Value} (K : Keyed Tryd.prog kt) (h : MapIs kt off D vs) (hD : IsMap D) {v : Value} {l : Lit} (hk : keyOf Tryd.prog kt v = some l) (hno : ∀ i : Nat, vs[i]? ≠ some v) :
    MapIs kt off (D.put l (.lit (.int .i64 ((vs.length + off : Nat) : Int)))) (vs ++ [v]) := by
  have hl := K.key hk
  refine ⟨fun i u hu => ?_, fun u l' hu hn => ?_⟩
  · by_cases hlt : i < vs.length
    · rw [List.getElem?_append_left hlt] at hu
      obtain ⟨l', k', h', a'⟩ := h.hit i u hu
      have hne : l' ≠ l := fun e => by
        subst e
        exact hno i (by rw [hu, K.inj k' hk])
      exact ⟨l', k', by rw [has_put_other hne]; exact h', fun z => by rw [atKey_put_other hne]; exact a' z⟩
    · have hi : i = vs.length := by
        have := (List.getElem?_eq_some_iff.1 hu).1
        simp at this; omega
      subst hi
      simp at hu
      subst hu
      exact ⟨l, hk, has_put_same hD hl _, fun z => atKey_put_same hD hl _ z⟩
  · have hne : l' ≠ l := fun e => by
      subst e
      have := K.inj hu hk
      subst this
      exact hn vs.length (by simp)
    rw [has_put_other hne]
    exact h.miss u l' hu fun i hi => hn i (by
      rw [List.getElem?_append_left (List.getElem?_eq_some_iff.1 hi).1]; exact hi)

/-! ### The store -/

def nodeCells (ns : List Nd) : List Value := ns.flatMap Nd.cells
def listCells (cs : List Cl) : List Value := .int .i64 0 :: .int .i64 0 :: cs.flatMap Cl.cells

theorem nodeCells_length (ns : List Nd) : (nodeCells ns).length = ns.length * 4 := by
  induction ns with
  | nil => rfl
  | cons n ns ih =>
    have : nodeCells (n :: ns) = n.cells ++ nodeCells ns := rfl
    rw [this, List.length_append, ih]; simp [Nd.cells]; omega
theorem listCells_length (cs : List Cl) : (listCells cs).length = (cs.length + 1) * 2 := by
  have : ∀ cs : List Cl, (cs.flatMap Cl.cells).length = cs.length * 2 := fun cs => by
    induction cs with
    | nil => rfl
    | cons c cs ih => rw [List.flatMap_cons, List.length_append, ih]; simp [Cl.cells]; omega
  simp [listCells, this]; omega
theorem nodeCells_snoc (ns : List Nd) (n : Nd) : nodeCells (ns ++ [n]) = nodeCells ns ++ n.cells := by simp [nodeCells]
theorem listCells_snoc (cs : List Cl) (c : Cl) : listCells (cs ++ [c]) = listCells cs ++ c.cells := by simp [listCells]

/-- In the world w block b is a store (its own memory from base on) that holds the nodes ns and the cells cs. -/
structure StoreAt (w : World) (base b : Nat) (ns : List Nd) (cs : List Cl) : Prop where
  lies : ∃ (vn vc : Value) (mn mc : Nat) (Dn Dc : DataW Unit), base ≤ b ∧ base ≤ mn ∧ base ≤ mc ∧ mn ≠ mc ∧
    w.heap[b]? = some (.cells #[vn, vc, .map (some mn), .map (some mc)] 65 (0, 0)) ∧
    w.ownsRow base 59 4 vn ns.length (nodeCells ns) ∧ w.ownsRow base 85 2 vc (cs.length + 1) (listCells cs) ∧
    w.ownsMap Tryd.prog 59 (plainElem Tryd.prog 3) mn ns.length Dn ∧ MapIs 59 0 Dn (ns.map Nd.val) ∧
    w.ownsMap Tryd.prog 85 (plainElem Tryd.prog 3) mc cs.length Dc ∧ MapIs 85 1 Dc (cs.map Cl.val)

/-- What a call that works in the store leaves as it was: all below base, and every row that is of none of the store's kinds. -/
structure Fr (base : Nat) (w w' : World) : Prop where
  below : Below base w w'
  rows : ∀ (k : Nat) (cs : Array Value) (t : TypeId), w.heap[k]? = some (.cells cs t (0, 0)) → t ≠ 59 → t ≠ 85 → t ≠ 65 → w'.heap[k]? = some (.cells cs t (0, 0))

theorem Fr.refl (base : Nat) (w : World) : Fr base w w := ⟨Below.refl _ _, fun _ _ _ h _ _ _ => h⟩
theorem Fr.trans {base : Nat} {a b c : World} (h : Fr base a b) (k : Fr base b c) : Fr base a c :=
  ⟨h.below.trans k.below, fun i cs t hi h1 h2 h3 => k.rows i cs t (h.rows i cs t hi h1 h2 h3) h1 h2 h3⟩
/-- A call that leaves all old memory alone. -/
theorem Fr.of_below {base : Nat} {w w' : World} (h : Below w.heap.size w w') (hb : base ≤ w.heap.size) : Fr base w w' :=
  ⟨h.mono hb, fun k cs t hk _ _ _ => by rw [h.block k (lt_of_block hk)]; exact hk⟩

/-- A row of ints of the caller's own outlives a call in the store. -/
theorem Fr.ints {base base' : Nat} {w w' : World} {e : TypeId} {size : Nat} {v : Value} {n : Nat} {xs : List Value} (h : Fr base w w') (h1 : e ≠ 59) (h2 : e ≠ 85) (h3 : e ≠ 65)
    (ho : w.ownsRow base' e size v n xs) : w'.ownsRow base' e size v n xs := by
  refine ⟨ho.1, ?_⟩
  rcases ho.2 with h' | ⟨g, cap, cur, hv, hg, hh, r⟩
  · exact .inl h'
  · exact .inr ⟨g, cap, cur, hv, hg, h.rows g cur e hh h1 h2 h3, r⟩

/-- A store outlives what is done to other blocks. -/
theorem StoreAt.kept {w w' : World} {base b : Nat} {ns : List Nd} {cs : List Cl} (h : StoreAt w base b ns cs) (hb : Below w.heap.size w w') : StoreAt w' base b ns cs := by
  obtain ⟨vn, vc, mn, mc, Dn, Dc, a1, a2, a3, a4, a5, a6, a7, a8, a9, a10, a11⟩ := h.lies
  have hg : w.grownBy w' none := ⟨hb.os, hb.tape, hb.output, hb.size, fun k hk _ => hb.block k hk⟩
  exact ⟨vn, vc, mn, mc, Dn, Dc, a1, a2, a3, a4, by rw [hb.block b (lt_of_block a5)]; exact a5, a6.kept hg (by cases hv : vn.ownBlock <;> simp), a7.kept hg (by cases hv : vc.ownBlock <;> simp), a8.kept hg (by simp), a9, a10.kept hg (by simp), a11⟩

end Go.Proofs.YtngnmfoephegmaaDoor
