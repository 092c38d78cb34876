/-
  THE STORE OF impl/l01_terms.go AS MEMORY: rows of nodes and cells, maps from each to its place. Nothing is walked here.
  THE WALK over (*termStore).putNode.
  THE WALK over (*termStore).putCell.
  THE WALKS over newTermStore, (*termStore).putList, listItems, argsOf.
-/
import Derived.Test.YtcohjmbbanjjeaaGreatDoorRows
import Derived.WalkKit
import Derived.WalkSpells
import Derived.Maps.OwnSet
import Derived.DeepKeys4
import Derived.Lib.Hide
import Derived.Deep.AppendLies
import Derived.Deep.QuietTactic
import Derived.BigQuiet
import Derived.StillTailTactics
import Derived.Deep.RegionLaw
import Derived.BigRegion
import Derived.Deep.LoopGhost
namespace Go.Proofs.YtcohjmbbanjjeaaGreatDoor
open Go Go.RowKit Go.Maps Go.WideMaps

theorem laidOut : laidOutB Tryz.prog = true := by kernel_rfl

/-- A node: the fields of termNode. -/
structure Nd where
  kind : Int
  name : ByteArray
  num : Int
  args : Nat

namespace Nd
def cells (n : Nd) : List Value := [.int .i64 n.kind, .string n.name, .int .i64 n.num, .int .i64 n.args]
def val (n : Nd) : Value := .agg #[.int .i64 n.kind, .string n.name, .int .i64 n.num, .int .i64 n.args]
/-- Within the bounds that a key asks. -/
structure Ok (n : Nd) : Prop where
  k0 : 0 ≤ n.kind
  k1 : n.kind ≤ 3
  nm : n.name.size ≤ 1000
  u0 : -1000000 ≤ n.num
  u1 : n.num ≤ 1000000
  ar : n.args ≤ 1000000
end Nd

theorem cellsN : Tryz.prog.cellsOf 101 = 4 := by kernel_rfl
theorem cellsI : Tryz.prog.cellsOf 3 = 1 := by kernel_rfl
theorem cellsS : Tryz.prog.cellsOf 9 = 1 := by kernel_rfl
theorem keyTypeN : Tryz.prog.keyType 101 = true := by kernel_rfl
theorem typesSize : ∃ d, Tryz.prog.types.size + 1 = d + 3 := by
  have : 2 ≤ Tryz.prog.types.size := of_decide_eq_true (by kernel_rfl)
  generalize Tryz.prog.types.size = n at this
  exact ⟨n - 2, by omega⟩

theorem wf64 {n : Int} (h0 : -1000000 ≤ n) (h1 : n ≤ 1000000) : (Lit.int .i64 n).wf = true := by
  have e1 : IntKind.i64.min = -9223372036854775808 := rfl
  have e2 : IntKind.i64.max = 9223372036854775807 := rfl
  simp [Lit.wf, e1, e2]; omega

/-- A node that is Ok is a key. -/
theorem keyOf_node (n : Nd) (h : n.Ok) : ∃ l, keyOf Tryz.prog 101 n.val = some l := by
  have f : n.val.formed Tryz.prog 101 = true := by simp [Nd.val, Value.formed, Tryz.underlying101, cellsN]
  have w1 := wf64 (n := n.kind) (by have := h.k0; omega) (by have := h.k1; omega)
  have w2 := wf64 h.u0 h.u1
  have w3 := wf64 (n := (n.args : Int)) (by omega) (by have := h.ar; omega)
  have s1 : n.name.size ≤ maxLen := by have := h.nm; unfold maxLen; omega
  simp only [keyOf, Tryz.underlying101, keyTypeN, f, Bool.and_self, if_true]
  obtain ⟨d, hd⟩ := typesSize
  rw [hd]
  simp only [Nd.val, Value.cells, Program.keyLits, Tryz.underlying101, cellsN]
  simp [Tryz.underlying3, Tryz.underlying9, cellsI, cellsS, w1, w2, w3, s1]

theorem rowN : (101 : TypeId) < Tryz.prog.types.size := of_decide_eq_true (by kernel_rfl)
set_option maxRecDepth 100000 in
theorem wideN : (match Tryz.prog.underlying 101 with | some (.array _ _) | some (.struct _) => true | _ => false) = true := by kernel_rfl
set_option maxRecDepth 100000 in
theorem lawN : Keyed Tryz.prog 101 := Keyed.of_law (deep_law_laid laidOut (m := 3) (by omega) rowN (by kernel_rfl) wideN)

/-- A cell of a list: two places. -/
structure Cl where
  head : Nat
  tail : Nat

namespace Cl
def cells (c : Cl) : List Value := [.int .i64 c.head, .int .i64 c.tail]
def val (c : Cl) : Value := .agg #[.int .i64 c.head, .int .i64 c.tail]
structure Ok (c : Cl) : Prop where
  h : c.head ≤ 1000000
  t : c.tail ≤ 1000000
end Cl

theorem cellsC : Tryz.prog.cellsOf 182 = 2 := by kernel_rfl
theorem keyTypeC : Tryz.prog.keyType 182 = true := by kernel_rfl
theorem keyOf_cell (c : Cl) (h : c.Ok) : ∃ l, keyOf Tryz.prog 182 c.val = some l := by
  have f : c.val.formed Tryz.prog 182 = true := by simp [Cl.val, Value.formed, Tryz.underlying182, cellsC]
  have w1 := wf64 (n := (c.head : Int)) (by omega) (by have := h.h; omega)
  have w2 := wf64 (n := (c.tail : Int)) (by omega) (by have := h.t; omega)
  simp only [keyOf, Tryz.underlying182, keyTypeC, f, Bool.and_self, if_true]
  obtain ⟨d, hd⟩ := typesSize
  rw [hd]
  simp only [Cl.val, Value.cells, Program.keyLits, Tryz.underlying182, cellsC]
  simp [Tryz.underlying3, cellsI, w1, w2, List.range_succ]
theorem rowC : (182 : TypeId) < Tryz.prog.types.size := of_decide_eq_true (by kernel_rfl)
set_option maxRecDepth 100000 in
theorem wideC : (match Tryz.prog.underlying 182 with | some (.array _ _) | some (.struct _) => true | _ => false) = true := by kernel_rfl
set_option maxRecDepth 100000 in
theorem lawC : Keyed Tryz.prog 182 := Keyed.of_law (deep_law_laid laidOut (m := 3) (by omega) rowC (by kernel_rfl) wideC)

/-! ### A map from what is in a list to its place -/

/-- The map D has just the keys of vs (as values of type kt), each at its place and off. -/
structure MapIs (kt : TypeId) (off : Nat) (D : DataW Unit) (vs : List Value) : Prop where
  hit : ∀ i v, vs[i]? = some v → ∃ l, keyOf Tryz.prog kt v = some l ∧ Maps.has D l = true ∧ ∀ z, D.atKey l z = .lit (.int .i64 ((i + off : Nat) : Int))
  miss : ∀ v l, keyOf Tryz.prog kt v = some l → (∀ i : Nat, vs[i]? ≠ some v) → Maps.has D l = false

theorem mapIs_nil (kt : TypeId) (off : Nat) : MapIs kt off (.map []) [] := ⟨fun i v h => by simp at h, fun v l _ _ => rfl⟩

theorem MapIs.inj {kt : TypeId} {off : Nat} {D : DataW Unit} {vs : List Value} (h : MapIs kt off D vs) {i j : Nat} {v : Value} (hi : vs[i]? = some v) (hj : vs[j]? = some v) : i = j := by
  obtain ⟨l, k1, _, a1⟩ := h.hit i v hi
  obtain ⟨l', k2, _, a2⟩ := h.hit j v hj
  obtain rfl := Option.some.inj (k1.symm.trans k2)
  have := (a1 .nil).symm.trans (a2 .nil)
  simp at this
  omega

theorem MapIs.put {kt : TypeId} {off : Nat} {D : DataW Unit} {vs : List Value} (K : Keyed Tryz.prog kt) (h : MapIs kt off D vs) (hD : IsMap D) {v : Value} {l : Lit} (hk : keyOf Tryz.prog kt v = some l) (hno : ∀ i : Nat, vs[i]? ≠ some v) :
    MapIs kt off (D.put l (.lit (.int .i64 ((vs.length + off : Nat) : Int)))) (vs ++ [v]) := by
  have hl := K.key hk
  refine ⟨fun i u hu => ?_, fun u l' hu hn => ?_⟩
  · by_cases hlt : i < vs.length
    · rw [List.getElem?_append_left hlt] at hu
      obtain ⟨l', k', h', a'⟩ := h.hit i u hu
      have hne : l' ≠ l := fun e => by
        subst e
        exact hno i (by rw [hu, K.inj k' hk])
      exact ⟨l', k', by rw [has_put_other hne]; exact h', fun z => by rw [atKey_put_other hne]; exact a' z⟩
    · have hi : i = vs.length := by
        have := (List.getElem?_eq_some_iff.1 hu).1
        simp at this; omega
      subst hi
      simp at hu
      subst hu
      exact ⟨l, hk, has_put_same hD hl _, fun z => atKey_put_same hD hl _ z⟩
  · have hne : l' ≠ l := fun e => by
      subst e
      have := K.inj hu hk
      subst this
      exact hn vs.length (by simp)
    rw [has_put_other hne]
    exact h.miss u l' hu fun i hi => hn i (by
      rw [List.getElem?_append_left (List.getElem?_eq_some_iff.1 hi).1]; exact hi)

/-! ### The store -/

def nodeCells (ns : List Nd) : List Value := ns.flatMap Nd.cells
def listCells (cs : List Cl) : List Value := .int .i64 0 :: .int .i64 0 :: cs.flatMap Cl.cells

theorem nodeCells_length (ns : List Nd) : (nodeCells ns).length = ns.length * 4 := by
  induction ns with
  | nil => rfl
  | cons n ns ih =>
    have : nodeCells (n :: ns) = n.cells ++ nodeCells ns := rfl
    rw [this, List.length_append, ih]; simp [Nd.cells]; omega
theorem listCells_length (cs : List Cl) : (listCells cs).length = (cs.length + 1) * 2 := by
  have : ∀ cs : List Cl, (cs.flatMap Cl.cells).length = cs.length * 2 := fun cs => by
    induction cs with
    | nil => rfl
    | cons c cs ih => rw [List.flatMap_cons, List.length_append, ih]; simp [Cl.cells]; omega
  simp [listCells, this]; omega
theorem nodeCells_snoc (ns : List Nd) (n : Nd) : nodeCells (ns ++ [n]) = nodeCells ns ++ n.cells := by simp [nodeCells]
theorem listCells_snoc (cs : List Cl) (c : Cl) : listCells (cs ++ [c]) = listCells cs ++ c.cells := by simp [listCells]

/-- In the world w block b is a store (its own memory from base on) that holds the nodes ns and the cells cs. -/
structure StoreAt (w : World) (base b : Nat) (ns : List Nd) (cs : List Cl) : Prop where
  lies : ∃ (vn vc : Value) (mn mc : Nat) (Dn Dc : DataW Unit), base ≤ b ∧ base ≤ mn ∧ base ≤ mc ∧ mn ≠ mc ∧
    w.heap[b]? = some (.cells #[vn, vc, .map (some mn), .map (some mc)] 107 (0, 0)) ∧
    w.ownsRow base 101 4 vn ns.length (nodeCells ns) ∧ w.ownsRow base 182 2 vc (cs.length + 1) (listCells cs) ∧
    w.ownsMap Tryz.prog 101 (plainElem Tryz.prog 3) mn ns.length Dn ∧ MapIs 101 0 Dn (ns.map Nd.val) ∧
    w.ownsMap Tryz.prog 182 (plainElem Tryz.prog 3) mc cs.length Dc ∧ MapIs 182 1 Dc (cs.map Cl.val)

/-- What a call that works in the store leaves as it was: all below base, and every row that is of none of the store's kinds. -/
structure Fr (base : Nat) (w w' : World) : Prop where
  below : Below base w w'
  rows : ∀ (k : Nat) (cs : Array Value) (t : TypeId), w.heap[k]? = some (.cells cs t (0, 0)) → t ≠ 101 → t ≠ 182 → t ≠ 107 → w'.heap[k]? = some (.cells cs t (0, 0))

theorem Fr.refl (base : Nat) (w : World) : Fr base w w := ⟨Below.refl _ _, fun _ _ _ h _ _ _ => h⟩
theorem Fr.trans {base : Nat} {a b c : World} (h : Fr base a b) (k : Fr base b c) : Fr base a c :=
  ⟨h.below.trans k.below, fun i cs t hi h1 h2 h3 => k.rows i cs t (h.rows i cs t hi h1 h2 h3) h1 h2 h3⟩
/-- A call that leaves all old memory alone. -/
theorem Fr.of_below {base : Nat} {w w' : World} (h : Below w.heap.size w w') (hb : base ≤ w.heap.size) : Fr base w w' :=
  ⟨h.mono hb, fun k cs t hk _ _ _ => by rw [h.block k (lt_of_block hk)]; exact hk⟩

/-- A row of ints of the caller's own outlives a call in the store. -/
theorem Fr.ints {base base' : Nat} {w w' : World} {e : TypeId} {size : Nat} {v : Value} {n : Nat} {xs : List Value} (h : Fr base w w') (h1 : e ≠ 101) (h2 : e ≠ 182) (h3 : e ≠ 107)
    (ho : w.ownsRow base' e size v n xs) : w'.ownsRow base' e size v n xs := by
  refine ⟨ho.1, ?_⟩
  rcases ho.2 with h' | ⟨g, cap, cur, hv, hg, hh, r⟩
  · exact .inl h'
  · exact .inr ⟨g, cap, cur, hv, hg, h.rows g cur e hh h1 h2 h3, r⟩

/-- A store outlives what is done to other blocks. -/
theorem StoreAt.kept {w w' : World} {base b : Nat} {ns : List Nd} {cs : List Cl} (h : StoreAt w base b ns cs) (hb : Below w.heap.size w w') : StoreAt w' base b ns cs := by
  obtain ⟨vn, vc, mn, mc, Dn, Dc, a1, a2, a3, a4, a5, a6, a7, a8, a9, a10, a11⟩ := h.lies
  have hg : w.grownBy w' none := ⟨hb.os, hb.tape, hb.output, hb.size, fun k hk _ => hb.block k hk⟩
  exact ⟨vn, vc, mn, mc, Dn, Dc, a1, a2, a3, a4, by rw [hb.block b (lt_of_block a5)]; exact a5, a6.kept hg (by cases hv : vn.ownBlock <;> simp), a7.kept hg (by cases hv : vc.ownBlock <;> simp), a8.kept hg (by simp), a9, a10.kept hg (by simp), a11⟩

end Go.Proofs.YtcohjmbbanjjeaaGreatDoor

namespace Go.Proofs.YtcohjmbbanjjeaaGreatDoor
open Go Go.RowKit Go.Maps Go.WideMaps

theorem infoN : (Tryz.prog.info? 101).map (fun i => (i.zero, i.size, i.bytes)) = some (some (.agg #[.int .i64 0, .string ⟨#[]⟩, .int .i64 0, .int .i64 0]), 4, 40) := by kernel_rfl
theorem zeroInt (w : World) : (zeroValue 3).run Tryz.prog w = .ok (.int .i64 0) w := by kernel_rfl

theorem below_box (w : World) (o : Obj) (k : Nat) : Below w.heap.size w ((w.alloc o).drewN k) := ((Below.refl _ _).alloc (Nat.le_refl _) o).trans ⟨rfl, rfl, rfl, Nat.le_refl _, fun _ _ => rfl⟩
/-- A block of another kind is not the row that grows. -/
theorem other_block {w w1 : World} {base : Nat} {e : TypeId} {size : Nat} {v : Value} {n : Nat} {xs : List Value} (ho : w.ownsRow base e size v n xs) (hg : w.grownBy w1 v.ownBlock) {k : Nat} {o : Obj} (hk : w.heap[k]? = some o) (ht : ∀ cur, o ≠ .cells cur e (0, 0)) :
    w1.heap[k]? = some o := by
  rw [hg.block k (lt_of_block hk) ?_]
  · exact hk
  · intro he
    rcases ho.2 with ⟨rfl, _⟩ | ⟨g, cap, cur, rfl, _, hh, _⟩
    · simp [Value.ownBlock] at he
    · simp [Value.ownBlock] at he
      subst he
      rw [hh] at hk
      exact ht cur (Option.some.inj hk).symm
theorem own_lt {w : World} {base : Nat} {e : TypeId} {size : Nat} {v : Value} {n : Nat} {xs : List Value} (ho : w.ownsRow base e size v n xs) : v.ownBlock ≠ some w.heap.size := by
  intro he
  rcases ho.2 with ⟨rfl, _⟩ | ⟨g, cap, cur, rfl, _, hh, _⟩
  · simp [Value.ownBlock] at he
  · simp [Value.ownBlock] at he
    have := lt_of_block hh
    omega
/-- A row of one kind lies in no block of another. -/
theorem own_apart {w : World} {base : Nat} {e : TypeId} {size : Nat} {v : Value} {n : Nat} {xs : List Value} (ho : w.ownsRow base e size v n xs) {k : Nat} {o : Obj} (hk : w.heap[k]? = some o) (ht : ∀ cur, o ≠ .cells cur e (0, 0)) : v.ownBlock ≠ some k := by
  intro he
  rcases ho.2 with ⟨rfl, _⟩ | ⟨g, cap, cur, rfl, _, hh, _⟩
  · simp [Value.ownBlock] at he
  · simp [Value.ownBlock] at he
    subst he
    rw [hh] at hk
    exact ht cur (Option.some.inj hk).symm
theorem own_other {w : World} {base base' : Nat} {e e' : TypeId} {size size' : Nat} {v v' : Value} {n n' : Nat} {xs xs' : List Value} (ho : w.ownsRow base e size v n xs) (ho' : w.ownsRow base' e' size' v' n' xs') (hne : e ≠ e') : v'.ownBlock = none ∨ v'.ownBlock ≠ v.ownBlock := by
  rcases ho'.2 with ⟨rfl, _⟩ | ⟨g, cap, cur, rfl, _, hh, _⟩
  · exact .inl rfl
  · right
    intro he
    exact own_apart ho hh (fun cur h => hne (by simp at h; exact h.2.symm)) he.symm
theorem own_ge {w : World} {base : Nat} {e : TypeId} {size : Nat} {v : Value} {n : Nat} {xs : List Value} (ho : w.ownsRow base e size v n xs) : ∀ k, v.ownBlock = some k → base ≤ k := by
  intro k he
  rcases ho.2 with ⟨rfl, _⟩ | ⟨g, cap, cur, rfl, hg, _⟩
  · simp [Value.ownBlock] at he
  · simp [Value.ownBlock] at he; omega
theorem map_block {w : World} {kt e : TypeId} {m n : Nat} {D : DataW Unit} (h : w.ownsMap Tryz.prog kt (plainElem Tryz.prog e) m n D) : ∃ es c, w.heap[m]? = some (.map es c) := by
  obtain ⟨es, c, hb, _⟩ := h
  exact ⟨es, c, hb⟩

/-- The row of the kind e grows, and its new value is stored in the field j of the store. -/
theorem after_append {base b : Nat} {W w1 : World} {O : Obj} {C : Array Value} {e : TypeId} {size : Nat} {vo : Value} {no : Nat} {xo : List Value} {g N cap : Nat} {xs : List Value} {j : Nat}
    (hb : base ≤ b) (hBW : base ≤ W.heap.size) (he : e ≠ 107) (hin : e = 101 ∨ e = 182)
    (d5 : W.heap[b]? = some (.cells C 107 (0, 0))) (d6 : W.ownsRow base e size vo no xo)
    (hown : w1.ownsRow base e size (.slice (some ⟨g, 0, none⟩) N cap) N xs) (hgrow : ((W.alloc O).drew).grownBy w1 vo.ownBlock) (f5 : w1.heap[b]? = some (.cells C 107 (0, 0))) :
    (w1.setCell ⟨b, j, none⟩ (.slice (some ⟨g, 0, none⟩) N cap)).ownsRow base e size (.slice (some ⟨g, 0, none⟩) N cap) N xs ∧
    (∀ {e' : TypeId} {size' : Nat} {v' : Value} {n' : Nat} {xs' : List Value}, e' ≠ e → e' ≠ 107 → W.ownsRow base e' size' v' n' xs' → (w1.setCell ⟨b, j, none⟩ (.slice (some ⟨g, 0, none⟩) N cap)).ownsRow base e' size' v' n' xs') ∧
    (∀ {kt et : TypeId} {m n : Nat} {D : DataW Unit}, W.ownsMap Tryz.prog kt (plainElem Tryz.prog et) m n D → (w1.setCell ⟨b, j, none⟩ (.slice (some ⟨g, 0, none⟩) N cap)).ownsMap Tryz.prog kt (plainElem Tryz.prog et) m n D) ∧
    Fr base W (w1.setCell ⟨b, j, none⟩ (.slice (some ⟨g, 0, none⟩) N cap)) := by
  have d6' := (d6.alloc O).drew
  refine ⟨ownsRow_setCell_other hown (own_apart hown f5 (fun cur h => by simp at h; exact he h.2.symm)) _, ?_, ?_, ?_, ?_⟩
  · intro e' size' v' n' xs' hne hns h
    have h1 := ((h.alloc O).drew).kept hgrow (own_other d6' ((h.alloc O).drew) (Ne.symm hne))
    exact ownsRow_setCell_other h1 (own_apart h1 f5 (fun cur h => by simp at h; exact hns h.2.symm)) _
  · intro kt et m n D h
    obtain ⟨es, c, hm⟩ := map_block ((h.alloc O).drew)
    have h1 := ((h.alloc O).drew).kept hgrow (Ne.symm (own_apart d6' hm (fun cur h => by simp at h)))
    exact h1.setCell (by
      intro hmb
      obtain ⟨es', c', hm'⟩ := map_block h1
      have hmb' : m = b := hmb
      rw [hmb', f5] at hm'
      simp at hm') _
  · have hal : Below base W (W.alloc O).drew := ((Below.refl _ _).alloc hBW O).trans ⟨rfl, rfl, rfl, Nat.le_refl _, fun _ _ => rfl⟩
    exact (hal.grown hgrow (by show base ≤ (W.heap.push O).size; simp; omega) (own_ge d6)).trans ⟨rfl, rfl, rfl, by simp, fun k hk => heap_setCell_other w1 _ _ _ (by show k ≠ b; omega)⟩
  · intro k cs t hk h1 h2 h3
    rw [heap_setCell_other w1 _ _ _ (by
      intro hkb
      have hkb' : k = b := hkb
      rw [hkb', d5] at hk
      simp at hk
      exact h3 hk.2.symm)]
    have hk' : ((W.alloc O).drew).heap[k]? = some (.cells cs t (0, 0)) := (heap_alloc_old W O (lt_of_block hk)).trans hk
    exact other_block d6' hgrow hk' (fun cur h => by
      simp at h
      rcases hin with rfl | rfl
      · exact h1 h.2
      · exact h2 h.2)

theorem owns_shape {w : World} {base : Nat} {e : TypeId} {size : Nat} {v : Value} {n : Nat} {xs : List Value} (h : w.ownsRow base e size v n xs) : ∃ ao c, v = .slice ao n c := by
  rcases h.2 with ⟨rfl, rfl⟩ | ⟨g, cap, cur, rfl, _⟩
  · exact ⟨_, _, rfl⟩
  · exact ⟨_, _, rfl⟩

set_option maxRecDepth 100000 in
set_option maxHeartbeats 1000000 in
theorem putNode_old {base b : Nat} {ns : List Nd} {cs : List Cl} (n : Nd) (_hn : n.Ok) (i : Nat) (hi : ns[i]? = some n) (w : World) (hS : StoreAt w base b ns cs) (_hB : base ≤ w.heap.size) :
    Calls Tryz.prog 105 #[.pointer (some ⟨b, 0, none⟩), n.val] w fun e w' => e = .returned (.int .i64 i) ∧ Below w.heap.size w w' := by
  obtain ⟨vn, vc, mn, mc, Dn, Dc, a1, a2, a3, a4, a5, a6, a7, a8, a9, a10, a11⟩ := hS.lies
  obtain ⟨l, hk, hhas, hat⟩ := a9.hit i n.val (by simp [hi])
  have c2 : w.cell? ⟨b, 2, none⟩ = some (.map (some mn)) := by rw [cell_of_row w b 2 _ _ _ a5]; rfl
  have lb := lt_of_block a5
  have hlook : ∀ o k, (Instr.lookup 104 (.map (some mn)) n.val true).run Tryz.prog ((w.alloc o).drewN k) = .ok (.tuple #[.int .i64 i, .bool true]) ((w.alloc o).drewN k) := fun o k => by
    have a8' : ((w.alloc o).drewN k).ownsMap Tryz.prog 101 (plainElem Tryz.prog 3) mn ns.length Dn := a8.alloc o
    obtain ⟨v, ps, hr, hv⟩ := a8'.look_ok lawN Tryz.underlying104 (zeroInt _) (plainElem_int Tryz.underlying3 (by rfl)) hk
    rw [hat] at hv
    obtain ⟨a, rfl, e⟩ := plainElem_int_inv Tryz.underlying3 hv
    simp only [Prod.mk.injEq, DataW.lit.injEq, Lit.int.injEq, true_and, Nat.add_zero] at e
    rw [hr, hhas, ← e.1.1]
  clear a6 a7 a8 a9 a10 a11 hk hhas hat hi hS a5
  simp only [Nd.val] at hlook ⊢
  go_enter Tryz.func105, Tryz.ntmps105
  go_wp2
  go_quiet (fail)
  go_wp2
  go_ret
  exact ⟨rfl, below_box w _ nq⟩

theorem Nd.val_inj {a b : Nd} (h : a.val = b.val) : a = b := by
  obtain ⟨a1, a2, a3, a4⟩ := a
  obtain ⟨b1, b2, b3, b4⟩ := b
  simp only [Nd.val, Value.agg.injEq, Array.mk.injEq, List.cons.injEq, Value.int.injEq, Value.string.injEq, true_and, and_true] at h
  obtain ⟨rfl, rfl, rfl, h4⟩ := h
  have : a4 = b4 := by omega
  rw [this]
theorem no_val {ns : List Nd} {n : Nd} (h : ∀ i : Nat, ns[i]? ≠ some n) : ∀ i : Nat, (ns.map Nd.val)[i]? ≠ some n.val := by
  intro i hi
  rw [List.getElem?_map, Option.map_eq_some_iff] at hi
  obtain ⟨m, hm, he⟩ := hi
  exact h i (by rw [hm, Nd.val_inj he])

theorem below_base {base : Nat} {w w' : World} {m : Nat} (hg : w.grownBy w' (some m)) (hm : base ≤ m) (hB : base ≤ w.heap.size) : Below base w w' :=
  (Below.refl _ _).grown hg hB (fun k hk => by cases hk; exact hm)

/-- The map is told the new node: the store with it. -/
theorem after_store {base b : Nat} {W W2 w3 : World} {ns : List Nd} {cs : List Cl} {n : Nd} {g cap : Nat} {vc : Value} {mn mc : Nat} {Dn Dc : DataW Unit} {l : Lit}
    (a1 : base ≤ b) (a2 : base ≤ mn) (a3 : base ≤ mc) (a4 : mn ≠ mc) (hBW : base ≤ W.heap.size)
    (k5 : W2.heap[b]? = some (.cells (#[.slice (some ⟨g, 0, none⟩) (ns.length + 1) cap, vc, .map (some mn), .map (some mc)]) 107 (0, 0)))
    (k6 : W2.ownsRow base 101 4 (.slice (some ⟨g, 0, none⟩) (ns.length + 1) cap) (ns.length + 1) (nodeCells ns ++ n.cells)) (k7 : W2.ownsRow base 182 2 vc (cs.length + 1) (listCells cs))
    (k10 : W2.ownsMap Tryz.prog 182 (plainElem Tryz.prog 3) mc cs.length Dc) (kF : Fr base W W2) (k8 : W2.ownsMap Tryz.prog 101 (plainElem Tryz.prog 3) mn ns.length Dn)
    (a9 : MapIs 101 0 Dn (ns.map Nd.val)) (a11 : MapIs 182 1 Dc (cs.map Cl.val)) (hk : keyOf Tryz.prog 101 n.val = some l) (hno : ∀ i : Nat, (ns.map Nd.val)[i]? ≠ some n.val)
    (ho3 : w3.ownsMap Tryz.prog 101 (plainElem Tryz.prog 3) mn (ns.length + 1) (Dn.put l (.lit (.int .i64 ns.length)))) (hg3 : W2.drew.grownBy w3 (some mn)) (hD : IsMap Dn) :
    StoreAt w3 base b (ns ++ [n]) cs ∧ Fr base W w3 := by
  have hB2 : base ≤ W2.heap.size := Nat.le_trans hBW kF.below.size
  obtain ⟨es, c, hm⟩ := map_block k8
  have far : ∀ (k : Nat) (C : Array Value) (t : TypeId) (fr : Nat × Nat), W2.heap[k]? = some (.cells C t fr) → w3.heap[k]? = some (.cells C t fr) := fun k C t fr hk => by
    rw [hg3.block k (lt_of_block hk) ?_]
    · exact hk
    · intro h
      obtain rfl := Option.some.inj h
      rw [hm] at hk
      cases hk
  have row : ∀ {e : TypeId} {size : Nat} {v : Value} {n : Nat} {xs : List Value}, W2.ownsRow base e size v n xs → w3.ownsRow base e size v n xs := fun h =>
    h.drew.kept hg3 (.inr (own_apart h hm (fun cur h => by cases h)))
  refine ⟨⟨_, vc, mn, mc, Dn.put l (.lit (.int .i64 ns.length)), Dc, a1, a2, a3, a4, far _ _ _ _ k5, ?_, row k7, ?_, ?_, k10.drew.kept hg3 (fun h => a4 (Option.some.inj h).symm), a11⟩, kF.trans ⟨?_, ?_⟩⟩
  · have := row k6
    rw [← nodeCells_snoc] at this
    rw [List.length_append]
    exact this
  · rw [List.length_append]
    exact ho3
  · rw [List.map_append]
    have := a9.put lawN hD hk hno
    rw [List.length_map, Nat.add_zero] at this
    exact this
  · exact (⟨rfl, rfl, rfl, Nat.le_refl _, fun _ _ => rfl⟩ : Below base W2 W2.drew).trans (below_base hg3 a2 hB2)
  · exact fun k C t hk _ _ _ => far k C t _ hk

set_option maxRecDepth 100000 in
set_option maxHeartbeats 1000000 in
theorem putNode_new {base b : Nat} {ns : List Nd} {cs : List Cl} (n : Nd) (hn : n.Ok) (hno : ∀ i : Nat, ns[i]? ≠ some n) (w : World) (hS : StoreAt w base b ns cs) (hB : base ≤ w.heap.size) (hlen : ns.length ≤ 1000000) :
    Calls Tryz.prog 105 #[.pointer (some ⟨b, 0, none⟩), n.val] w fun e w' => e = .returned (.int .i64 ns.length) ∧ StoreAt w' base b (ns ++ [n]) cs ∧ Fr base w w' := by
  obtain ⟨vn, vc, mn, mc, Dn, Dc, a1, a2, a3, a4, a5, a6, a7, a8, a9, a10, a11⟩ := hS.lies
  obtain ⟨l, hk⟩ := keyOf_node n hn
  have hno' : ∀ i : Nat, (ns.map Nd.val)[i]? ≠ some n.val := no_val hno
  have hhas := a9.miss n.val l hk hno'
  have c2 : w.cell? ⟨b, 2, none⟩ = some (.map (some mn)) := by rw [cell_of_row w b 2 _ _ _ a5]; rfl
  have c0 : w.cell? ⟨b, 0, none⟩ = some vn := by rw [cell_of_row w b 0 _ _ _ a5]; rfl
  have lb := lt_of_block a5
  have hlook : ∀ o k, (Instr.lookup 104 (.map (some mn)) n.val true).run Tryz.prog ((w.alloc o).drewN k) = .ok (.tuple #[.int .i64 0, .bool false]) ((w.alloc o).drewN k) := fun o k => by
    have a8' : ((w.alloc o).drewN k).ownsMap Tryz.prog 101 (plainElem Tryz.prog 3) mn ns.length Dn := a8.alloc o
    obtain ⟨v, ps, hr, hv⟩ := a8'.look_ok lawN Tryz.underlying104 (zeroInt _) (plainElem_int Tryz.underlying3 (by rfl)) hk
    rw [atKey_of_not_has hhas] at hv
    obtain ⟨a, rfl, e⟩ := plainElem_int_inv Tryz.underlying3 hv
    simp only [Prod.mk.injEq, DataW.lit.injEq, Lit.int.injEq, true_and] at e
    rw [hr, hhas, ← e.1.1]
  obtain ⟨an, cn, rfl⟩ := owns_shape a6
  have hbel := fun k => below_box w (.cells #[.int .i64 n.kind, .string n.name, .int .i64 n.num, .int .i64 n.args] 101) k
  have hsz : ∀ k, ((w.alloc (.cells #[.int .i64 n.kind, .string n.name, .int .i64 n.num, .int .i64 n.args] 101)).drewN k).heap.size = w.heap.size + 1 := fun k => by
    show (w.heap.push _).size = _; simp
  have hbox : ∀ k, ((w.alloc (.cells #[.int .i64 n.kind, .string n.name, .int .i64 n.num, .int .i64 n.args] 101)).drewN k).heap[w.heap.size]? = some (.cells #[.int .i64 n.kind, .string n.name, .int .i64 n.num, .int .i64 n.args] 101 (0, 0)) := fun k => heap_alloc_new w _
  have HBEL := Lib.hid hbel
  have HSZ := Lib.hid hsz
  have HBOX := Lib.hid hbox
  have A5 := Lib.hid a5
  have HK := Lib.hid hk
  have HNO := Lib.hid hno'
  have HS := Lib.hid hS
  clear hS a5 hk hno' hhas hno hbel hsz hbox
  simp only [Nd.val] at hlook ⊢
  go_enter Tryz.func105, Tryz.ntmps105
  go_wp2
  go_quiet (fail)
  clear hlook
  have b1 := HBEL.out nq
  have b2 := HSZ.out nq
  have b3 := HBOX.out nq
  clear HBEL HSZ HBOX
  generalize (w.alloc (.cells #[.int .i64 n.kind, .string n.name, .int .i64 n.num, .int .i64 n.args] 101)).drewN nq = W at *
  have d5 : W.heap[b]? = some (.cells #[.slice an ns.length cn, vc, .map (some mn), .map (some mc)] 107 (0, 0)) := by rw [b1.block b lb]; exact A5.out
  have hgW : w.grownBy W none := ⟨b1.os, b1.tape, b1.output, b1.size, fun k hk _ => b1.block k hk⟩
  have hvb := own_lt a6
  have d6 := a6.kept hgW (by cases (Value.slice an ns.length cn).ownBlock <;> simp)
  have d7 := a7.kept hgW (by cases vc.ownBlock <;> simp)
  have d8 := a8.kept hgW (by simp)
  have d10 := a10.kept hgW (by simp)
  have e0 : W.cell? ⟨b, 0, none⟩ = some (.slice an ns.length cn) := by rw [cell_of_row W b 0 _ _ _ d5]; rfl
  have e2 : W.cell? ⟨b, 2, none⟩ = some (.map (some mn)) := by rw [cell_of_row W b 2 _ _ _ d5]; rfl
  have x0 : W.cell? ⟨w.heap.size, 0, none⟩ = some (.int .i64 n.kind) := by rw [cell_of_row W _ 0 _ _ _ b3]; rfl
  have x1 : W.cell? ⟨w.heap.size, 1, none⟩ = some (.string n.name) := by rw [cell_of_row W _ 1 _ _ _ b3]; rfl
  have x2 : W.cell? ⟨w.heap.size, 2, none⟩ = some (.int .i64 n.num) := by rw [cell_of_row W _ 2 _ _ _ b3]; rfl
  have x3 : W.cell? ⟨w.heap.size, 3, none⟩ = some (.int .i64 n.args) := by rw [cell_of_row W _ 3 _ _ _ b3]; rfl
  have lbW := lt_of_block d5
  have hBW : base ≤ W.heap.size := by omega
  have B1 := Lib.hid b1
  have B2 := Lib.hid b2
  have B3 := Lib.hid b3
  have D5 := Lib.hid d5
  have lw : w.heap.size < W.heap.size := by omega
  obtain ⟨i0, hi, hz0, hz1, hz2⟩ := info_parts infoN
  clear b1 b2 b3 d5 hgW a6 a7 a8 a10 c0 c2
  go_wp2
  go_region_law (refine step_append_lies _ (by rfl) (.tmp 27) (.tmp 29) 102 (by rfl) base 101 i0 _ 4 40 Tryz.underlying102 hi hz0 hz1 hz2 rfl (by omega) (.slice an ns.length cn) ns.length (nodeCells ns) (by rfl) ((d6.alloc _).drew) ⟨W.heap.size, 0, none⟩ 1 1 n.cells (by rfl) (by rfl) (World.news_of_block (cs := n.cells.toArray) (t := 101) (fr := (0, 0)) (heap_alloc_new W _)) (by simp [Nd.cells, Value.oneCell']) (by omega) (by unfold maxLen; omega) (by omega) (by simp; omega) (W.heap.size + 1) (by simp) ?_; intro g cap w1 hown1 hgrow hat hlt; have f5 := other_block ((d6.alloc _).drew) hgrow (k := b) ((heap_alloc_old W _ lbW).trans D5.out) (by intro cur h; simp at h); have g0 := cell_of_row w1 b 0 _ _ _ f5; simp at g0; have g1 : w1.frozen? ⟨b, 0, none⟩ = false := by simp [World.frozen?, f5])
  all_goals
    have k5 := heap_setCell_same w1 b 0 _ _ (.slice (some ⟨g, 0, none⟩) (ns.length + 1) cap) f5
    have k3 : (w1.setCell ⟨b, 0, none⟩ (.slice (some ⟨g, 0, none⟩) (ns.length + 1) cap)).heap[w.heap.size]? = some (.cells #[.int .i64 n.kind, .string n.name, .int .i64 n.num, .int .i64 n.args] 101 (0, 0)) := by
      rw [heap_setCell_other w1 _ _ _ (by show w.heap.size ≠ b; omega), hgrow.block _ (by show w.heap.size < (W.heap.push _).size; simp; omega) (Ne.symm hvb)]
      exact (heap_alloc_old W _ lw).trans B3.out
    obtain ⟨k6, k7, k8, kF⟩ := after_append (j := 0) a1 hBW (by decide) (.inl rfl) D5.out d6 hown1 hgrow f5
    have k10 := k8 d10
    have k8 := k8 d8
    have k7 := k7 (by decide) (by decide) d7
    generalize (w1.setCell ⟨b, 0, none⟩ (.slice (some ⟨g, 0, none⟩) (ns.length + 1) cap)) = W2 at *
    have y2 : W2.cell? ⟨b, 2, none⟩ = some (.map (some mn)) := by rw [cell_of_row W2 b 2 _ _ _ k5]; rfl
    have x0 : W2.cell? ⟨w.heap.size, 0, none⟩ = some (.int .i64 n.kind) := by rw [cell_of_row W2 _ 0 _ _ _ k3]; rfl
    have x1 : W2.cell? ⟨w.heap.size, 1, none⟩ = some (.string n.name) := by rw [cell_of_row W2 _ 1 _ _ _ k3]; rfl
    have x2 : W2.cell? ⟨w.heap.size, 2, none⟩ = some (.int .i64 n.num) := by rw [cell_of_row W2 _ 2 _ _ _ k3]; rfl
    have x3 : W2.cell? ⟨w.heap.size, 3, none⟩ = some (.int .i64 n.args) := by rw [cell_of_row W2 _ 3 _ _ _ k3]; rfl
    have K5 := Lib.hid k5
    clear k5 k3 hown1 hgrow hat hlt f5 g0 g1 d6 d7 d8 d10 e0 e2
    go_wp2
    go_still_tail 6, (by kernel_rfl)
    change wpList _ _ _ _ _ W2.drew
    refine wpList_mapUpdate_own _ rfl (.tmp 36) (.tmp 37) (.tmp 38) 104 rfl 101 3 lawN Tryz.underlying104 _ mn ns.length Dn rfl k8.drew (by unfold maxLen; omega) n.val (.int .i64 ns.length) l rfl rfl HK.out _ [] (plainElem_int Tryz.underlying3 (wf64 (by omega) (by omega))) ?_
    intro w3 ho3 hg3
    have fin : StoreAt w3 base b (ns ++ [n]) cs ∧ Fr base W w3 := after_store a1 a2 a3 a4 hBW K5.out k6 k7 k10 kF k8 a9 a11 HK.out HNO.out ho3 hg3 k8.isMap
    have fin2 : Fr base w W := Fr.of_below B1.out hB
    have fin3 := fin2.trans fin.2
    have fin1 := fin.1
    clear fin ho3 hg3 k6 k7 k10 kF k8
    go_wp2
    go_ret
    exact ⟨rfl, fin1, fin3⟩

/-- (*termStore).putNode: the place of the node, which is there then. -/
theorem putNode_any {base b : Nat} {ns : List Nd} {cs : List Cl} (n : Nd) (hn : n.Ok) (w : World) (hS : StoreAt w base b ns cs) (hB : base ≤ w.heap.size) (hlen : ns.length ≤ 1000000) :
    Calls Tryz.prog 105 #[.pointer (some ⟨b, 0, none⟩), n.val] w fun e w' => ∃ (i : Nat) (ns' : List Nd), e = .returned (.int .i64 i) ∧ ns'[i]? = some n ∧ (ns' = ns ∨ ns' = ns ++ [n]) ∧ StoreAt w' base b ns' cs ∧ Fr base w w' := by
  by_cases h : ∃ i : Nat, ns[i]? = some n
  · obtain ⟨i, hi⟩ := h
    exact (putNode_old n hn i hi w hS hB).mono fun e w' ⟨he, hb⟩ => ⟨i, ns, he, hi, .inl rfl, hS.kept hb, Fr.of_below hb hB⟩
  · exact (putNode_new n hn (fun i hi => h ⟨i, hi⟩) w hS hB hlen).mono fun e w' ⟨he, hs, hf⟩ => ⟨ns.length, ns ++ [n], he, by simp, .inr rfl, hs, hf⟩

end Go.Proofs.YtcohjmbbanjjeaaGreatDoor

namespace Go.Proofs.YtcohjmbbanjjeaaGreatDoor
open Go Go.RowKit Go.Maps Go.WideMaps

theorem infoC : (Tryz.prog.info? 182).map (fun i => (i.zero, i.size, i.bytes)) = some (some (.agg #[.int .i64 0, .int .i64 0]), 2, 16) := by kernel_rfl
theorem Cl.val_inj {a b : Cl} (h : a.val = b.val) : a = b := by
  obtain ⟨a1, a2⟩ := a
  obtain ⟨b1, b2⟩ := b
  simp only [Cl.val, Value.agg.injEq, Array.mk.injEq, List.cons.injEq, Value.int.injEq, true_and, and_true] at h
  obtain ⟨h1, h2⟩ := h
  have e1 : a1 = b1 := by omega
  have e2 : a2 = b2 := by omega
  rw [e1, e2]
theorem no_valC {cs : List Cl} {c : Cl} (h : ∀ i : Nat, cs[i]? ≠ some c) : ∀ i : Nat, (cs.map Cl.val)[i]? ≠ some c.val := by
  intro i hi
  rw [List.getElem?_map, Option.map_eq_some_iff] at hi
  obtain ⟨m, hm, he⟩ := hi
  exact h i (by rw [hm, Cl.val_inj he])

set_option maxRecDepth 100000 in
set_option maxHeartbeats 1000000 in
theorem putCell_old {base b : Nat} {ns : List Nd} {cs : List Cl} (c : Cl) (_hn : c.Ok) (i : Nat) (hi : cs[i]? = some c) (w : World) (hS : StoreAt w base b ns cs) (_hB : base ≤ w.heap.size) :
    Calls Tryz.prog 121 #[.pointer (some ⟨b, 0, none⟩), c.val] w fun e w' => e = .returned (.int .i64 ((i + 1 : Nat) : Int)) ∧ Below w.heap.size w w' := by
  obtain ⟨vn, vc, mn, mc, Dn, Dc, a1, a2, a3, a4, a5, a6, a7, a8, a9, a10, a11⟩ := hS.lies
  obtain ⟨l, hk, hhas, hat⟩ := a11.hit i c.val (by simp [hi])
  have c2 : w.cell? ⟨b, 3, none⟩ = some (.map (some mc)) := by rw [cell_of_row w b 3 _ _ _ a5]; rfl
  have lb := lt_of_block a5
  have hlook : ∀ o k, (Instr.lookup 105 (.map (some mc)) c.val true).run Tryz.prog ((w.alloc o).drewN k) = .ok (.tuple #[.int .i64 ((i + 1 : Nat) : Int), .bool true]) ((w.alloc o).drewN k) := fun o k => by
    have a10' : ((w.alloc o).drewN k).ownsMap Tryz.prog 182 (plainElem Tryz.prog 3) mc cs.length Dc := a10.alloc o
    obtain ⟨v, ps, hr, hv⟩ := a10'.look_ok lawC Tryz.underlying105 (zeroInt _) (plainElem_int Tryz.underlying3 (by rfl)) hk
    rw [hat] at hv
    obtain ⟨a, rfl, e⟩ := plainElem_int_inv Tryz.underlying3 hv
    simp only [Prod.mk.injEq, DataW.lit.injEq, Lit.int.injEq, true_and] at e
    rw [hr, hhas, ← e.1.1]
  clear a6 a7 a8 a9 a10 a11 hk hhas hat hi hS a5
  simp only [Cl.val] at hlook ⊢
  go_enter Tryz.func121, Tryz.ntmps121
  go_wp2
  go_quiet (fail)
  go_wp2
  go_ret
  exact ⟨rfl, below_box w _ nq⟩

/-- The map is told the new cell: the store with it. -/
theorem after_storeC {base b : Nat} {W W2 w3 : World} {ns : List Nd} {cs : List Cl} {c : Cl} {g cap : Nat} {vn : Value} {mn mc : Nat} {Dn Dc : DataW Unit} {l : Lit}
    (a1 : base ≤ b) (a2 : base ≤ mn) (a3 : base ≤ mc) (a4 : mn ≠ mc) (hBW : base ≤ W.heap.size)
    (k5 : W2.heap[b]? = some (.cells (#[vn, .slice (some ⟨g, 0, none⟩) (cs.length + 1 + 1) cap, .map (some mn), .map (some mc)]) 107 (0, 0)))
    (k6 : W2.ownsRow base 182 2 (.slice (some ⟨g, 0, none⟩) (cs.length + 1 + 1) cap) (cs.length + 1 + 1) (listCells cs ++ c.cells)) (k7 : W2.ownsRow base 101 4 vn ns.length (nodeCells ns))
    (k10 : W2.ownsMap Tryz.prog 101 (plainElem Tryz.prog 3) mn ns.length Dn) (kF : Fr base W W2) (k8 : W2.ownsMap Tryz.prog 182 (plainElem Tryz.prog 3) mc cs.length Dc)
    (a9 : MapIs 101 0 Dn (ns.map Nd.val)) (a11 : MapIs 182 1 Dc (cs.map Cl.val)) (hk : keyOf Tryz.prog 182 c.val = some l) (hno : ∀ i : Nat, (cs.map Cl.val)[i]? ≠ some c.val)
    (ho3 : w3.ownsMap Tryz.prog 182 (plainElem Tryz.prog 3) mc (cs.length + 1) (Dc.put l (.lit (.int .i64 ((cs.length + 1 : Nat) : Int))))) (hg3 : W2.drew.grownBy w3 (some mc)) (hD : IsMap Dc) :
    StoreAt w3 base b ns (cs ++ [c]) ∧ Fr base W w3 := by
  have hB2 : base ≤ W2.heap.size := Nat.le_trans hBW kF.below.size
  obtain ⟨es, cc, hm⟩ := map_block k8
  have far : ∀ (k : Nat) (C : Array Value) (t : TypeId) (fr : Nat × Nat), W2.heap[k]? = some (.cells C t fr) → w3.heap[k]? = some (.cells C t fr) := fun k C t fr hk => by
    rw [hg3.block k (lt_of_block hk) ?_]
    · exact hk
    · intro h
      obtain rfl := Option.some.inj h
      rw [hm] at hk
      cases hk
  have row : ∀ {e : TypeId} {size : Nat} {v : Value} {n : Nat} {xs : List Value}, W2.ownsRow base e size v n xs → w3.ownsRow base e size v n xs := fun h =>
    h.drew.kept hg3 (.inr (own_apart h hm (fun cur h => by cases h)))
  refine ⟨⟨vn, _, mn, mc, Dn, Dc.put l (.lit (.int .i64 ((cs.length + 1 : Nat) : Int))), a1, a2, a3, a4, far _ _ _ _ k5, row k7, ?_, k10.drew.kept hg3 (fun h => a4 (Option.some.inj h)), a9, ?_, ?_⟩, kF.trans ⟨?_, ?_⟩⟩
  · have := row k6
    rw [← listCells_snoc] at this
    rw [List.length_append]
    exact this
  · rw [List.length_append]
    exact ho3
  · rw [List.map_append]
    have := a11.put lawC hD hk hno
    rw [List.length_map] at this
    exact this
  · exact (⟨rfl, rfl, rfl, Nat.le_refl _, fun _ _ => rfl⟩ : Below base W2 W2.drew).trans (below_base hg3 a3 hB2)
  · exact fun k C t hk _ _ _ => far k C t _ hk

set_option maxRecDepth 100000 in
set_option maxHeartbeats 1000000 in
theorem putCell_new {base b : Nat} {ns : List Nd} {cs : List Cl} (c : Cl) (hn : c.Ok) (hno : ∀ i : Nat, cs[i]? ≠ some c) (w : World) (hS : StoreAt w base b ns cs) (hB : base ≤ w.heap.size) (hlen : cs.length ≤ 900000) :
    Calls Tryz.prog 121 #[.pointer (some ⟨b, 0, none⟩), c.val] w fun e w' => e = .returned (.int .i64 ((cs.length + 1 : Nat) : Int)) ∧ StoreAt w' base b ns (cs ++ [c]) ∧ Fr base w w' := by
  obtain ⟨vn, vc, mn, mc, Dn, Dc, a1, a2, a3, a4, a5, a6, a7, a8, a9, a10, a11⟩ := hS.lies
  obtain ⟨l, hk⟩ := keyOf_cell c hn
  have hno' : ∀ i : Nat, (cs.map Cl.val)[i]? ≠ some c.val := no_valC hno
  have hhas := a11.miss c.val l hk hno'
  have c2 : w.cell? ⟨b, 3, none⟩ = some (.map (some mc)) := by rw [cell_of_row w b 3 _ _ _ a5]; rfl
  have c0 : w.cell? ⟨b, 1, none⟩ = some vc := by rw [cell_of_row w b 1 _ _ _ a5]; rfl
  have lb := lt_of_block a5
  have hlook : ∀ o k, (Instr.lookup 105 (.map (some mc)) c.val true).run Tryz.prog ((w.alloc o).drewN k) = .ok (.tuple #[.int .i64 0, .bool false]) ((w.alloc o).drewN k) := fun o k => by
    have a8' : ((w.alloc o).drewN k).ownsMap Tryz.prog 182 (plainElem Tryz.prog 3) mc cs.length Dc := a10.alloc o
    obtain ⟨v, ps, hr, hv⟩ := a8'.look_ok lawC Tryz.underlying105 (zeroInt _) (plainElem_int Tryz.underlying3 (by rfl)) hk
    rw [atKey_of_not_has hhas] at hv
    obtain ⟨a, rfl, e⟩ := plainElem_int_inv Tryz.underlying3 hv
    simp only [Prod.mk.injEq, DataW.lit.injEq, Lit.int.injEq, true_and] at e
    rw [hr, hhas, ← e.1.1]
  obtain ⟨an, cn, rfl⟩ := owns_shape a7
  have hbel := fun k => below_box w (.cells #[.int .i64 c.head, .int .i64 c.tail] 182) k
  have hsz : ∀ k, ((w.alloc (.cells #[.int .i64 c.head, .int .i64 c.tail] 182)).drewN k).heap.size = w.heap.size + 1 := fun k => by
    show (w.heap.push _).size = _; simp
  have hbox : ∀ k, ((w.alloc (.cells #[.int .i64 c.head, .int .i64 c.tail] 182)).drewN k).heap[w.heap.size]? = some (.cells #[.int .i64 c.head, .int .i64 c.tail] 182 (0, 0)) := fun k => heap_alloc_new w _
  have HBEL := Lib.hid hbel
  have HSZ := Lib.hid hsz
  have HBOX := Lib.hid hbox
  have A5 := Lib.hid a5
  have HK := Lib.hid hk
  have HNO := Lib.hid hno'
  have HS := Lib.hid hS
  clear hS a5 hk hno' hhas hno hbel hsz hbox
  simp only [Cl.val] at hlook ⊢
  go_enter Tryz.func121, Tryz.ntmps121
  go_wp2
  go_quiet (fail)
  clear hlook
  have b1 := HBEL.out nq
  have b2 := HSZ.out nq
  have b3 := HBOX.out nq
  clear HBEL HSZ HBOX
  generalize (w.alloc (.cells #[.int .i64 c.head, .int .i64 c.tail] 182)).drewN nq = W at *
  have d5 : W.heap[b]? = some (.cells #[vn, .slice an (cs.length + 1) cn, .map (some mn), .map (some mc)] 107 (0, 0)) := by rw [b1.block b lb]; exact A5.out
  have hgW : w.grownBy W none := ⟨b1.os, b1.tape, b1.output, b1.size, fun k hk _ => b1.block k hk⟩
  have hvb := own_lt a7
  have d6 := a6.kept hgW (by cases vn.ownBlock <;> simp)
  have d7 := a7.kept hgW (by cases (Value.slice an (cs.length + 1) cn).ownBlock <;> simp)
  have d8 := a8.kept hgW (by simp)
  have d10 := a10.kept hgW (by simp)
  have e0 : W.cell? ⟨b, 1, none⟩ = some (.slice an (cs.length + 1) cn) := by rw [cell_of_row W b 1 _ _ _ d5]; rfl
  have e2 : W.cell? ⟨b, 3, none⟩ = some (.map (some mc)) := by rw [cell_of_row W b 3 _ _ _ d5]; rfl
  have x0 : W.cell? ⟨w.heap.size, 0, none⟩ = some (.int .i64 c.head) := by rw [cell_of_row W _ 0 _ _ _ b3]; rfl
  have x1 : W.cell? ⟨w.heap.size, 1, none⟩ = some (.int .i64 c.tail) := by rw [cell_of_row W _ 1 _ _ _ b3]; rfl
  have lbW := lt_of_block d5
  have hBW : base ≤ W.heap.size := by omega
  have B1 := Lib.hid b1
  have B2 := Lib.hid b2
  have B3 := Lib.hid b3
  have D5 := Lib.hid d5
  have lw : w.heap.size < W.heap.size := by omega
  obtain ⟨i0, hi, hz0, hz1, hz2⟩ := info_parts infoC
  clear b1 b2 b3 d5 hgW a6 a7 a8 a10 c0 c2
  go_wp2
  go_region_law (refine step_append_lies _ (by rfl) (.tmp 27) (.tmp 29) 103 (by rfl) base 182 i0 _ 2 16 Tryz.underlying103 hi hz0 hz1 hz2 rfl (by omega) (.slice an (cs.length + 1) cn) (cs.length + 1) (listCells cs) (by rfl) ((d7.alloc _).drew) ⟨W.heap.size, 0, none⟩ 1 1 c.cells (by rfl) (by rfl) (World.news_of_block (cs := c.cells.toArray) (t := 182) (fr := (0, 0)) (heap_alloc_new W _)) (by simp [Cl.cells, Value.oneCell']) (by omega) (by unfold maxLen; omega) (by omega) (by simp; omega) (W.heap.size + 1) (by simp) ?_; intro g cap w1 hown1 hgrow hat hlt; have f5 := other_block ((d7.alloc _).drew) hgrow (k := b) ((heap_alloc_old W _ lbW).trans D5.out) (by intro cur h; simp at h); have g0 := cell_of_row w1 b 1 _ _ _ f5; simp at g0; have g1 : w1.frozen? ⟨b, 1, none⟩ = false := by simp [World.frozen?, f5])
  all_goals
    have k5 := heap_setCell_same w1 b 1 _ _ (.slice (some ⟨g, 0, none⟩) (cs.length + 1 + 1) cap) f5
    have k3 : (w1.setCell ⟨b, 1, none⟩ (.slice (some ⟨g, 0, none⟩) (cs.length + 1 + 1) cap)).heap[w.heap.size]? = some (.cells #[.int .i64 c.head, .int .i64 c.tail] 182 (0, 0)) := by
      rw [heap_setCell_other w1 _ _ _ (by show w.heap.size ≠ b; omega), hgrow.block _ (by show w.heap.size < (W.heap.push _).size; simp; omega) (Ne.symm hvb)]
      exact (heap_alloc_old W _ lw).trans B3.out
    obtain ⟨k6, k7, k8, kF⟩ := after_append (j := 1) a1 hBW (by decide) (.inr rfl) D5.out d7 hown1 hgrow f5
    have k10 := k8 d8
    have k8 := k8 d10
    have k7 := k7 (by decide) (by decide) d6
    generalize (w1.setCell ⟨b, 1, none⟩ (.slice (some ⟨g, 0, none⟩) (cs.length + 1 + 1) cap)) = W2 at *
    have y2 : W2.cell? ⟨b, 3, none⟩ = some (.map (some mc)) := by rw [cell_of_row W2 b 3 _ _ _ k5]; rfl
    have x0 : W2.cell? ⟨w.heap.size, 0, none⟩ = some (.int .i64 c.head) := by rw [cell_of_row W2 _ 0 _ _ _ k3]; rfl
    have x1 : W2.cell? ⟨w.heap.size, 1, none⟩ = some (.int .i64 c.tail) := by rw [cell_of_row W2 _ 1 _ _ _ k3]; rfl
    have K5 := Lib.hid k5
    clear k5 k3 hown1 hgrow hat hlt f5 g0 g1 d6 d7 d8 d10 e0 e2
    go_wp2
    go_still_tail 6, (by kernel_rfl)
    change wpList _ _ _ _ _ W2.drew
    refine wpList_mapUpdate_own _ rfl (.tmp 36) (.tmp 37) (.tmp 38) 105 rfl 182 3 lawC Tryz.underlying105 _ mc cs.length Dc rfl k8.drew (by unfold maxLen; omega) c.val (.int .i64 ((cs.length + 1 : Nat) : Int)) l rfl rfl HK.out _ [] (plainElem_int Tryz.underlying3 (wf64 (by omega) (by omega))) ?_
    intro w3 ho3 hg3
    have fin : StoreAt w3 base b ns (cs ++ [c]) ∧ Fr base W w3 := after_storeC a1 a2 a3 a4 hBW K5.out k6 k7 k10 kF k8 a9 a11 HK.out HNO.out ho3 hg3 k8.isMap
    have fin2 : Fr base w W := Fr.of_below B1.out hB
    have fin3 := fin2.trans fin.2
    have fin1 := fin.1
    clear fin ho3 hg3 k6 k7 k10 kF k8
    go_wp2
    go_ret
    exact ⟨rfl, fin1, fin3⟩

/-- (*termStore).putCell: the place of the cell, which is there then. -/
theorem putCell_any {base b : Nat} {ns : List Nd} {cs : List Cl} (c : Cl) (hn : c.Ok) (w : World) (hS : StoreAt w base b ns cs) (hB : base ≤ w.heap.size) (hlen : cs.length ≤ 900000) :
    Calls Tryz.prog 121 #[.pointer (some ⟨b, 0, none⟩), c.val] w fun e w' => ∃ (i : Nat) (cs' : List Cl), e = .returned (.int .i64 ((i + 1 : Nat) : Int)) ∧ cs'[i]? = some c ∧ (cs' = cs ∨ cs' = cs ++ [c]) ∧ StoreAt w' base b ns cs' ∧ Fr base w w' := by
  by_cases h : ∃ i : Nat, cs[i]? = some c
  · obtain ⟨i, hi⟩ := h
    exact (putCell_old c hn i hi w hS hB).mono fun e w' ⟨he, hb⟩ => ⟨i, cs, he, hi, .inl rfl, hS.kept hb, Fr.of_below hb hB⟩
  · exact (putCell_new c hn (fun i hi => h ⟨i, hi⟩) w hS hB hlen).mono fun e w' ⟨he, hs, hf⟩ => ⟨cs.length, cs ++ [c], he, by simp, .inr rfl, hs, hf⟩

end Go.Proofs.YtcohjmbbanjjeaaGreatDoor

namespace Go.Proofs.YtcohjmbbanjjeaaGreatDoor
open Go Go.RowKit Go.Maps Go.WideMaps

theorem run_mk_cells (w : World) : (Instr.makeSlice 103 (.int .i64 1) (.int .i64 1)).run Tryz.prog w = .ok (.slice (some ⟨w.heap.size, 0, none⟩) 1 1) (w.alloc (.cells #[.int .i64 0, .int .i64 0] 182)) := by
  obtain ⟨i0, hi, hz0, hz1, hz2⟩ := info_parts infoC
  have em : madeCells (Value.agg #[Value.int IntKind.i64 0, Value.int IntKind.i64 0]).cells (Int.toNat 1 * 2) = #[.int .i64 0, .int .i64 0] := by kernel_rfl
  rw [run_make w 103 182 i0 _ Tryz.underlying103 hi hz0 .i64 .i64 1 1 (by omega) (by omega) (by rw [hz2]; omega) (by omega), hz1, em]
  rfl

/-- newTermStore: an empty store, in new memory. -/
theorem newStore_lies (w : World) : StoreAt ((((w.alloc (.cells #[.int .i64 0, .int .i64 0] 182)).alloc (.map #[] 0)).alloc (.map #[] 0)).alloc
    (.cells #[.slice none 0 0, .slice (some ⟨w.heap.size, 0, none⟩) 1 1, .map (some (w.heap.size + 1)), .map (some (w.heap.size + 2))] 107)) w.heap.size (w.heap.size + 3) [] [] := by
  have s1 : (w.alloc (.cells #[.int .i64 0, .int .i64 0] 182)).heap.size = w.heap.size + 1 := by simp
  have s2 : ((w.alloc (.cells #[.int .i64 0, .int .i64 0] 182)).alloc (.map #[] 0)).heap.size = w.heap.size + 2 := by simp
  have s3 : (((w.alloc (.cells #[.int .i64 0, .int .i64 0] 182)).alloc (.map #[] 0)).alloc (.map #[] 0)).heap.size = w.heap.size + 3 := by simp
  have o1 : (w.alloc (.cells #[.int .i64 0, .int .i64 0] 182)).ownsRow w.heap.size 182 2 (.slice (some ⟨w.heap.size, 0, none⟩) 1 1) 1 (listCells []) :=
    ⟨rfl, .inr ⟨w.heap.size, 1, #[.int .i64 0, .int .i64 0], rfl, Nat.le_refl _, heap_alloc_new _ _, Nat.le_refl _, by simp [maxLen], rfl, rfl⟩⟩
  have m1 := World.ownsMap_made (H := Unit) (w.alloc (.cells #[.int .i64 0, .int .i64 0] 182)) Tryz.prog 101 (plainElem Tryz.prog 3)
  have m2 := World.ownsMap_made (H := Unit) ((w.alloc (.cells #[.int .i64 0, .int .i64 0] 182)).alloc (.map #[] 0)) Tryz.prog 182 (plainElem Tryz.prog 3)
  rw [s1] at m1
  rw [s2] at m2
  refine ⟨_, _, _, _, _, _, by omega, by omega, by omega, by omega, ?_, World.ownsRow_nil _ _ _ _, ((o1.alloc _).alloc _).alloc _, (m1.alloc _).alloc _, mapIs_nil _ _, m2.alloc _, mapIs_nil _ _⟩
  have := heap_alloc_new (((w.alloc (.cells #[.int .i64 0, .int .i64 0] 182)).alloc (.map #[] 0)).alloc (.map #[] 0)) (.cells #[.slice none 0 0, .slice (some ⟨w.heap.size, 0, none⟩) 1 1, .map (some (w.heap.size + 1)), .map (some (w.heap.size + 2))] 107)
  rw [s3] at this
  exact this

set_option maxRecDepth 100000 in
set_option maxHeartbeats 400000 in
theorem newTermStore_any (w : World) : Calls Tryz.prog 56 #[] w fun e w' => ∃ b, e = .returned (.pointer (some ⟨b, 0, none⟩)) ∧ StoreAt w' w.heap.size b [] [] ∧ Below w.heap.size w w' := by
  have hmm := @run_makeMap Tryz.prog
  have hms := run_mk_cells
  have HL := Lib.hid (newStore_lies w)
  go_enter Tryz.func56, Tryz.ntmps56
  go_wp2
  go_ret
  refine ⟨_, rfl, HL.out, ?_⟩
  exact ((((Below.refl _ _).alloc (Nat.le_refl _) _).alloc (by simp) _).alloc (by simp; omega) _).alloc (by simp; omega) _

/-! ### Lists of places -/

/-- The list that begins at place l of the cells. -/
def ListAt (cs : List Cl) : Nat → List Nat → Prop
  | l, [] => l = 0
  | l, x :: xs => ∃ i l', l = i + 1 ∧ cs[i]? = some ⟨x, l'⟩ ∧ ListAt cs l' xs

theorem ListAt.mono {cs cs' : List Cl} (h : ∀ (i : Nat) (c : Cl), cs[i]? = some c → cs'[i]? = some c) : ∀ {xs : List Nat} {l : Nat}, ListAt cs l xs → ListAt cs' l xs
  | [], _, hl => hl
  | _ :: _, _, ⟨i, l', e, hi, ht⟩ => ⟨i, l', e, h i _ hi, ListAt.mono h ht⟩
theorem ListAt.le {cs : List Cl} : ∀ {xs : List Nat} {l : Nat}, ListAt cs l xs → l ≤ cs.length
  | [], _, hl => by have : _ = 0 := hl; omega
  | _ :: _, _, ⟨i, l', e, hi, ht⟩ => by have := (List.getElem?_eq_some_iff.1 hi).1; omega
theorem ListAt.fn {cs : List Cl} : ∀ {xs ys : List Nat} {l : Nat}, ListAt cs l xs → ListAt cs l ys → xs = ys
  | [], [], _, _, _ => rfl
  | [], _ :: _, _, h, ⟨i, l', e, _⟩ => by have : _ = 0 := h; omega
  | _ :: _, [], _, ⟨i, l', e, _⟩, h => by have : _ = 0 := h; omega
  | x :: xs, y :: ys, l, ⟨i, l', e, hi, ht⟩, ⟨j, k', e', hj, hk⟩ => by
    obtain rfl : i = j := by omega
    rw [hi] at hj
    obtain ⟨rfl, rfl⟩ : x = y ∧ l' = k' := by simpa using hj
    rw [ListAt.fn ht hk]

/-- More cells at the end. -/
def Ext {α : Type} (xs ys : List α) : Prop := ∃ zs, ys = xs ++ zs
theorem Ext.refl {α : Type} (xs : List α) : Ext xs xs := ⟨[], by simp⟩
theorem Ext.trans {α : Type} {xs ys zs : List α} (h : Ext xs ys) (k : Ext ys zs) : Ext xs zs := by
  obtain ⟨a, rfl⟩ := h
  obtain ⟨b, rfl⟩ := k
  exact ⟨a ++ b, by simp⟩
theorem Ext.get {α : Type} {xs ys : List α} (h : Ext xs ys) (i : Nat) (c : α) (hi : xs[i]? = some c) : ys[i]? = some c := by
  obtain ⟨zs, rfl⟩ := h
  rw [List.getElem?_append_left (List.getElem?_eq_some_iff.1 hi).1]
  exact hi
theorem Ext.len {α : Type} {xs ys : List α} (h : Ext xs ys) : xs.length ≤ ys.length := by
  obtain ⟨zs, rfl⟩ := h
  simp
theorem ext_of_put {α : Type} {xs ys : List α} {c : α} (h : ys = xs ∨ ys = xs ++ [c]) : Ext xs ys ∧ ys.length ≤ xs.length + 1 := by
  rcases h with rfl | rfl
  · exact ⟨Ext.refl _, by omega⟩
  · exact ⟨⟨[c], rfl⟩, by simp⟩

def intCells (xs : List Nat) : List Value := xs.map fun x : Nat => Value.int .i64 (x : Int)
theorem intCells_length (xs : List Nat) : (intCells xs).length = xs.length * 1 := by simp [intCells]
theorem intCells_one (l : List Nat) : ∀ u ∈ intCells l, u.oneCell' = true := fun u hu => by
  obtain ⟨_, _, rfl⟩ := List.mem_map.1 hu
  rfl

/-- What the loop of putList holds behind the places from k on. -/
def PutRel (w : World) (base b base' : Nat) (ns : List Nd) (cs : List Cl) (items : List Nat) (v : Value) (lv iv : Value) (wr : World) : Prop :=
  ∃ (k L : Nat) (cs' : List Cl), k ≤ items.length ∧ iv = .int .i64 ((k : Int) - 1) ∧ lv = .int .i64 (L : Int) ∧ ListAt cs' L (items.drop k) ∧ Ext cs cs' ∧ cs'.length ≤ cs.length + (items.length - k) ∧
    StoreAt wr base b ns cs' ∧ Fr base w wr ∧ wr.ownsRow base' 3 1 v items.length (intCells items)

set_option maxRecDepth 100000 in
set_option maxHeartbeats 1000000 in
theorem putList_none {base b : Nat} {ns : List Nd} {cs : List Cl} (av : Option Addr) (cv : Nat) (w : World) (_hS : StoreAt w base b ns cs) :
    Calls Tryz.prog 107 #[.pointer (some ⟨b, 0, none⟩), .slice av 0 cv] w fun e w' => e = .returned (.int .i64 0) ∧ w = w' := by
  go_enter Tryz.func107, Tryz.ntmps107
  go_wp2
  refine wp_loop_rounds 1 ?_
  rw [rounds_succ]
  go_wp2
  go_ret
  exact ⟨rfl, rfl⟩

set_option maxRecDepth 100000 in
set_option maxHeartbeats 1000000 in
theorem putList_some {base b base' : Nat} {ns : List Nd} {cs : List Cl} (items : List Nat) (g cv : Nat) (w : World) (hS : StoreAt w base b ns cs) (hB : base ≤ w.heap.size)
    (hv : w.ownsRow base' 3 1 (.slice (some ⟨g, 0, none⟩) items.length cv) items.length (intCells items)) (hit : ∀ x ∈ items, x ≤ 1000000) (hlen : cs.length + items.length ≤ 900000) :
    Calls Tryz.prog 107 #[.pointer (some ⟨b, 0, none⟩), .slice (some ⟨g, 0, none⟩) items.length cv] w fun e w' => ∃ (L : Nat) (cs' : List Cl), e = .returned (.int .i64 (L : Int)) ∧ ListAt cs' L items ∧ Ext cs cs' ∧ cs'.length ≤ cs.length + items.length ∧
      StoreAt w' base b ns cs' ∧ Fr base w w' := by
  have hln : (items.length : Int) ≤ 900000 := by omega
  have HIT := Lib.hid hit
  clear hit
  go_enter Tryz.func107, Tryz.ntmps107
  go_wp2
  go_loopw [5, 6] (fun lv iv wr => PutRel w base b base' ns cs items (.slice (some ⟨g, 0, none⟩) items.length cv) lv iv wr) (fun _ iv _ => (intOf iv + 1).toNat)
  case atStart => exact ⟨items.length, 0, cs, Nat.le_refl _, rfl, rfl, by rw [List.drop_length]; rfl, Ext.refl _, by omega, hS, Fr.refl _ _, hv⟩
  case round =>
    obtain ⟨k, L, cs', hk, rfl, rfl, hL, hE, hc, hSr, hF, hvr⟩ := hrel
    have hLc := hL.le
    cases k with
    | zero =>
      rw [List.drop_zero] at hL
      have h1 : decide ((0 : Int) ≤ ((0 : Nat) : Int) - 1) = false := by decide
      go_wp2
      go_ret
      exact ⟨L, cs', rfl, hL, hE, by omega, hSr, hF⟩
    | succ j =>
      have e1 : (((j + 1 : Nat) : Int) - 1) = (j : Int) := by omega
      rw [e1]
      clear e1
      have hj : j < items.length := by omega
      have hx : wr.cell? ⟨g, j, none⟩ = some (.int .i64 (items[j] : Int)) := by
        rw [hvr.cellAt j (by omega)]
        simp [intCells, hj]
      have hxl := HIT.out items[j] (List.getElem_mem hj)
      have hB1 : base ≤ wr.heap.size := Nat.le_trans hB hF.below.size
      have hdrop : items.drop j = items[j] :: items.drop (j + 1) := List.drop_eq_getElem_cons hj
      have HD := Lib.hid hdrop
      clear hdrop
      generalize items[j] = x at *
      go_wp2_with fail
      refine (putCell_any ⟨x, L⟩ ⟨hxl, by show L ≤ 1000000; omega⟩ wr hSr hB1 (by omega)).mono ?_
      rintro e w2 ⟨i, cs2, rfl, hi2, hor, hS2, hF2⟩
      have hx2 := ext_of_put hor
      have R : PutRel w base b base' ns cs items (.slice (some ⟨g, 0, none⟩) items.length cv) (.int .i64 ((i + 1 : Nat) : Int)) (.int .i64 ((j : Int) - 1)) w2 :=
        ⟨j, i + 1, cs2, by omega, rfl, rfl, by rw [HD.out]; exact ⟨i, L, rfl, hi2, hL.mono hx2.1.get⟩, hE.trans hx2.1, by omega, hS2, hF.trans hF2, hF2.ints (by decide) (by decide) (by decide) hvr⟩
      clear hor hx2 hS2 hF2 hi2 hx hSr hF hvr hL hE
      go_wp2
      go_roundw
      case rel => exact R
      case measure => simp [intOf]

theorem putList_any {base b base' : Nat} {ns : List Nd} {cs : List Cl} (items : List Nat) (v : Value) (w : World) (hS : StoreAt w base b ns cs) (hB : base ≤ w.heap.size)
    (hv : w.ownsRow base' 3 1 v items.length (intCells items)) (hit : ∀ x ∈ items, x ≤ 1000000) (hlen : cs.length + items.length ≤ 900000) :
    Calls Tryz.prog 107 #[.pointer (some ⟨b, 0, none⟩), v] w fun e w' => ∃ (L : Nat) (cs' : List Cl), e = .returned (.int .i64 (L : Int)) ∧ ListAt cs' L items ∧ Ext cs cs' ∧ cs'.length ≤ cs.length + items.length ∧
      StoreAt w' base b ns cs' ∧ Fr base w w' := by
  cases items with
  | nil =>
    obtain ⟨av, cv, rfl⟩ := owns_shape hv
    exact (putList_none av cv w hS).mono fun e w' ⟨he, hw⟩ => ⟨0, cs, he, rfl, Ext.refl _, by omega, hw ▸ hS, hw ▸ Fr.refl _ _⟩
  | cons x xs =>
    obtain ⟨g, cap, rfl, _⟩ := hv.form (by simp)
    exact putList_some (x :: xs) g cap w hS hB hv hit hlen

theorem listCells_at {cs : List Cl} {i : Nat} {c : Cl} (h : cs[i]? = some c) : (listCells cs)[(i + 1) * 2]? = some (.int .i64 (c.head : Int)) ∧ (listCells cs)[(i + 1) * 2 + 1]? = some (.int .i64 (c.tail : Int)) := by
  have key : ∀ (cs : List Cl) (i : Nat) (c : Cl), cs[i]? = some c → (cs.flatMap Cl.cells)[i * 2]? = some (.int .i64 (c.head : Int)) ∧ (cs.flatMap Cl.cells)[i * 2 + 1]? = some (.int .i64 (c.tail : Int)) := by
    intro cs
    induction cs with
    | nil => intro i c h; simp at h
    | cons x xs ih =>
      intro i c h
      cases i with
      | zero =>
        obtain rfl : x = c := by simpa using h
        exact ⟨rfl, rfl⟩
      | succ i =>
        have := ih i c (by simpa using h)
        rw [List.flatMap_cons]
        have e : x.cells.length = 2 := rfl
        rw [List.getElem?_append_right (by omega), List.getElem?_append_right (by omega), e, show (i + 1) * 2 - 2 = i * 2 from by omega, show (i + 1) * 2 + 1 - 2 = i * 2 + 1 from by omega]
        exact this
  have := key cs i c h
  unfold listCells
  rw [show (i + 1) * 2 = i * 2 + 1 + 1 from by omega, show i * 2 + 1 + 1 + 1 = (i * 2 + 1) + 1 + 1 from by omega]
  simpa using this

theorem info3 : (Tryz.prog.info? 3).map (fun i => (i.zero, i.size, i.bytes)) = some (some (.int .i64 0), 1, 8) := by kernel_rfl

/-- What listItems holds: those gone by, in a row of its own, and the place of the rest. -/
def ItemsRel (w : World) (cs : List Cl) (items : List Nat) (k : Nat) (lv v : Value) (wr : World) : Prop :=
  ∃ (l : Nat) (gone todo : List Nat), items = gone ++ todo ∧ k = todo.length ∧ lv = .int .i64 (l : Int) ∧ ListAt cs l todo ∧ wr.ownsRow w.heap.size 3 1 v gone.length (intCells gone) ∧ Below w.heap.size w wr

end Go.Proofs.YtcohjmbbanjjeaaGreatDoor
