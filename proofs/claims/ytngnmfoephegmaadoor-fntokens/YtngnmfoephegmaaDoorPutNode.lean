/-
  THE WALK over (*termStore).putNode.
-/
import Derived.Test.YtngnmfoephegmaaDoorStore
import Derived.Deep.QuietTactic
import Derived.BigQuiet
import Derived.StillTailTactics
import Derived.Deep.RegionLaw
import Derived.BigRegion
namespace Go.Proofs.YtngnmfoephegmaaDoor
open Go Go.RowKit Go.Maps Go.WideMaps

theorem infoN : (Tryd.prog.info? 59).map (fun i => (i.zero, i.size, i.bytes)) = some (some (.agg #[.int .i64 0, .string ⟨#[]⟩, .int .i64 0, .int .i64 0]), 4, 40) := by kernel_rfl
theorem zeroInt (w : World) : (zeroValue 3).run Tryd.prog w = .ok (.int .i64 0) w := by kernel_rfl

theorem below_box (w : World) (o : Obj) (k : Nat) : Below w.heap.size w ((w.alloc o).drewN k) := ((Below.refl _ _).alloc (Nat.le_refl _) o).trans ⟨rfl, rfl, rfl, Nat.le_refl _, fun _ _ => rfl⟩
/-- A block of another kind is not the row that grows. -/
theorem other_block {w w1 : World} {base : Nat} {e : TypeId} {size : Nat} {v : Value} {n : Nat} {xs : List Value} (ho : w.ownsRow base e size v n xs) (hg : w.grownBy w1 v.ownBlock) {k : Nat} {o : Obj} (hk : w.heap[k]? = some o) (ht : ∀ cur, o ≠ .cells cur e (0, 0)) :
    w1.heap[k]? = some o := by
  rw [hg.block k (lt_of_block hk) ?_]
  · exact hk
  · intro he
    rcases ho.2 with ⟨rfl, _⟩ | ⟨g, cap, cur, rfl, _, hh, _⟩
    · simp [Value.ownBlock] at he
    · simp [Value.ownBlock] at he
      subst he
      rw [hh] at hk
      exact ht cur (Option.some.inj hk).symm
theorem own_lt {w : World} {base : Nat} {e : TypeId} {size : Nat} {v : Value} {n : Nat} {xs : List Value} (ho : w.ownsRow base e size v n xs) : v.ownBlock ≠ some w.heap.size := by
  intro he
  rcases ho.2 with ⟨rfl, _⟩ | ⟨g, cap, cur, rfl, _, hh, _⟩
  · simp [Value.ownBlock] at he
  · simp [Value.ownBlock] at he
    have := lt_of_block hh
    omega
/-- A row of one kind lies in no block of another. -/
theorem own_apart {w : World} {base : Nat} {e : TypeId} {size : Nat} {v : Value} {n : Nat} {xs : List Value} (ho : w.ownsRow base e size v n xs) {k : Nat} {o : Obj} (hk : w.heap[k]? = some o) (ht : ∀ cur, o ≠ .cells cur e (0, 0)) : v.ownBlock ≠ some k := by
  intro he
  rcases ho.2 with ⟨rfl, _⟩ | ⟨g, cap, cur, rfl, _, hh, _⟩
  · simp [Value.ownBlock] at he
  · simp [Value.ownBlock] at he
    subst he
    rw [hh] at hk
    exact ht cur (Option.some.inj hk).symm
theorem own_other {w : World} {base base' : Nat} {e e' : TypeId} {size size' : Nat} {v v' : Value} {n n' : Nat} {xs xs' : List Value} (ho : w.ownsRow base e size v n xs) (ho' : w.ownsRow base' e' size' v' n' xs') (hne : e ≠ e') : v'.ownBlock = none ∨ v'.ownBlock ≠ v.ownBlock := by
  rcases ho'.2 with ⟨rfl, _⟩ | ⟨g, cap, cur, rfl, _, hh, _⟩
  · exact .inl rfl
  · right
    intro he
    exact own_apart ho hh (fun cur h => hne (by simp at h; exact h.2.symm)) he.symm
theorem own_ge {w : World} {base : Nat} {e : TypeId} {size : Nat} {v : Value} {n : Nat} {xs : List Value} (ho : w.ownsRow base e size v n xs) : ∀ k, v.ownBlock = some k → base ≤ k := by
  intro k he
  rcases ho.2 with ⟨rfl, _⟩ | ⟨g, cap, cur, rfl, hg, _⟩
  · simp [Value.ownBlock] at he
  · simp [Value.ownBlock] at he; omega
theorem map_block {w : World} {kt e : TypeId} {m n : Nat} {D : DataW Unit} (h : w.ownsMap Tryd.prog kt (plainElem Tryd.prog e) m n D) : ∃ es c, w.heap[m]? = some (.map es c) := by
  obtain ⟨es, c, hb, _⟩ := h
  exact ⟨es, c, hb⟩

/-- The row of the kind e grows, and its new value is stored in the field j of the store. -/
theorem after_append {base b : Nat} {W w1 : World} {O : Obj} {C : Array Value} {e : TypeId} {size : Nat} {vo : Value} {no : Nat} {xo : List Value} {g N cap : Nat} {xs : List Value} {j : Nat}
    (hb : base ≤ b) (hBW : base ≤ W.heap.size) (he : e ≠ 65) (hin : e = 59 ∨ e = 85)
    (d5 : W.heap[b]? = some (.cells C 65 (0, 0))) (d6 : W.ownsRow base e size vo no xo)
    (hown : w1.ownsRow base e size (.slice (some ⟨g, 0, none⟩) N cap) N xs) (hgrow : ((W.alloc O).drew).grownBy w1 vo.ownBlock) (f5 : w1.heap[b]? = some (.cells C 65 (0, 0))) :
    (w1.setCell ⟨b, j, none⟩ (.slice (some ⟨g, 0, none⟩) N cap)).ownsRow base e size (.slice (some ⟨g, 0, none⟩) N cap) N xs ∧
    (∀ {e' : TypeId} {size' : Nat} {v' : Value} {n' : Nat} {xs' : List Value}, e' ≠ e → e' ≠ 65 → W.ownsRow base e' size' v' n' xs' → (w1.setCell ⟨b, j, none⟩ (.slice (some ⟨g, 0, none⟩) N cap)).ownsRow base e' size' v' n' xs') ∧
    (∀ {kt et : TypeId} {m n : Nat} {D : DataW Unit}, W.ownsMap Tryd.prog kt (plainElem Tryd.prog et) m n D → (w1.setCell ⟨b, j, none⟩ (.slice (some ⟨g, 0, none⟩) N cap)).ownsMap Tryd.prog kt (plainElem Tryd.prog et) m n D) ∧
    Fr base W (w1.setCell ⟨b, j, none⟩ (.slice (some ⟨g, 0, none⟩) N cap)) := by
  have d6' := (d6.alloc O).drew
  refine ⟨ownsRow_setCell_other hown (own_apart hown f5 (fun cur h => by simp at h; exact he h.2.symm)) _, ?_, ?_, ?_, ?_⟩
  · intro e' size' v' n' xs' hne hns h
    have h1 := ((h.alloc O).drew).kept hgrow (own_other d6' ((h.alloc O).drew) (Ne.symm hne))
    exact ownsRow_setCell_other h1 (own_apart h1 f5 (fun cur h => by simp at h; exact hns h.2.symm)) _
  · intro kt et m n D h
    obtain ⟨es, c, hm⟩ := map_block ((h.alloc O).drew)
    have h1 := ((h.alloc O).drew).kept hgrow (Ne.symm (own_apart d6' hm (fun cur h => by simp at h)))
    exact h1.setCell (by
      intro hmb
      obtain ⟨es', c', hm'⟩ := map_block h1
      have hmb' : m = b := hmb
      rw [hmb', f5] at hm'
      simp at hm') _
  · have hal : Below base W (W.alloc O).drew := ((Below.refl _ _).alloc hBW O).trans ⟨rfl, rfl, rfl, Nat.le_refl _, fun _ _ => rfl⟩
    exact (hal.grown hgrow (by show base ≤ (W.heap.push O).size; simp; omega) (own_ge d6)).trans ⟨rfl, rfl, rfl, by simp, fun k hk => heap_setCell_other w1 _ _ _ (by show k ≠ b; omega)⟩
  · intro k cs t hk h1 h2 h3
    rw [heap_setCell_other w1 _ _ _ (by
      intro hkb
      have hkb' : k = b := hkb
      rw [hkb', d5] at hk
      simp at hk
      exact h3 hk.2.symm)]
    have hk' : ((W.alloc O).drew).heap[k]? = some (.cells cs t (0, 0)) := (heap_alloc_old W O (lt_of_block hk)).trans hk
    exact other_block d6' hgrow hk' (fun cur h => by
      simp at h
      rcases hin with rfl | rfl
      · exact h1 h.2
      · exact h2 h.2)

theorem owns_shape {w : World} {base : Nat} {e : TypeId} {size : Nat} {v : Value} {n : Nat} {xs : List Value} (h : w.ownsRow base e size v n xs) : ∃ ao c, v = .slice ao n c := by
  rcases h.2 with ⟨rfl, rfl⟩ | ⟨g, cap, cur, rfl, _⟩
  · exact ⟨_, _, rfl⟩
  · exact ⟨_, _, rfl⟩

set_option maxRecDepth 100000 in
set_option maxHeartbeats 1000000 in
theorem putNode_old {base b : Nat} {ns : List Nd} {cs : List Cl} (n : Nd) (_hn : n.Ok) (i : Nat) (hi : ns[i]? = some n) (w : World) (hS : StoreAt w base b ns cs) (_hB : base ≤ w.heap.size) :
    Calls Tryd.prog 59 #[.pointer (some ⟨b, 0, none⟩), n.val] w fun e w' => e = .returned (.int .i64 i) ∧ Below w.heap.size w w' := by
  obtain ⟨vn, vc, mn, mc, Dn, Dc, a1, a2, a3, a4, a5, a6, a7, a8, a9, a10, a11⟩ := hS.lies
  obtain ⟨l, hk, hhas, hat⟩ := a9.hit i n.val (by simp [hi])
  have c2 : w.cell? ⟨b, 2, none⟩ = some (.map (some mn)) := by rw [cell_of_row w b 2 _ _ _ a5]; rfl
  have lb := lt_of_block a5
  have hlook : ∀ o k, (Instr.lookup 62 (.map (some mn)) n.val true).run Tryd.prog ((w.alloc o).drewN k) = .ok (.tuple #[.int .i64 i, .bool true]) ((w.alloc o).drewN k) := fun o k => by
    have a8' : ((w.alloc o).drewN k).ownsMap Tryd.prog 59 (plainElem Tryd.prog 3) mn ns.length Dn := a8.alloc o
    obtain ⟨v, ps, hr, hv⟩ := a8'.look_ok lawN Tryd.underlying62 (zeroInt _) (plainElem_int Tryd.underlying3 (by rfl)) hk
    rw [hat] at hv
    obtain ⟨a, rfl, e⟩ := plainElem_int_inv Tryd.underlying3 hv
    simp only [Prod.mk.injEq, DataW.lit.injEq, Lit.int.injEq, true_and, Nat.add_zero] at e
    rw [hr, hhas, ← e.1.1]
  clear a6 a7 a8 a9 a10 a11 hk hhas hat hi hS a5
  simp only [Nd.val] at hlook ⊢
  go_enter Tryd.func59, Tryd.ntmps59
  go_wp2
  go_quiet (fail)
  go_wp2
  go_ret
  exact ⟨rfl, below_box w _ nq⟩

theorem Nd.val_inj {a b : Nd} (h : a.val = b.val) : a = b := by
  obtain ⟨a1, a2, a3, a4⟩ := a
  obtain ⟨b1, b2, b3, b4⟩ := b
  simp only [Nd.val, Value.agg.injEq, Array.mk.injEq, List.cons.injEq, Value.int.injEq, Value.string.injEq, true_and, and_true] at h
  obtain ⟨rfl, rfl, rfl, h4⟩ := h
  have : a4 = b4 := by omega
  rw [this]
theorem no_val {ns : List Nd} {n : Nd} (h : ∀ i : Nat, ns[i]? ≠ some n) : ∀ i : Nat, (ns.map Nd.val)[i]? ≠ some n.val := by
  intro i hi
  rw [List.getElem?_map, Option.map_eq_some_iff] at hi
  obtain ⟨m, hm, he⟩ := hi
  exact h i (by rw [hm, Nd.val_inj he])

theorem below_base {base : Nat} {w w' : World} {m : Nat} (hg : w.grownBy w' (some m)) (hm : base ≤ m) (hB : base ≤ w.heap.size) : Below base w w' :=
  (Below.refl _ _).grown hg hB (fun k hk => by cases hk; exact hm)

/-- The map is told the new node: the store with it. -/
theorem after_store {base b : Nat} {W W2 w3 : World} {ns : List Nd} {cs : List Cl} {n : Nd} {g cap : Nat} {vc : Value} {mn mc : Nat} {Dn Dc : DataW Unit} {l : Lit}
    (a1 : base ≤ b) (a2 : base ≤ mn) (a3 : base ≤ mc) (a4 : mn ≠ mc) (hBW : base ≤ W.heap.size)
    (k5 : W2.heap[b]? = some (.cells (#[.slice (some ⟨g, 0, none⟩) (ns.length + 1) cap, vc, .map (some mn), .map (some mc)]) 65 (0, 0)))
    (k6 : W2.ownsRow base 59 4 (.slice (some ⟨g, 0, none⟩) (ns.length + 1) cap) (ns.length + 1) (nodeCells ns ++ n.cells)) (k7 : W2.ownsRow base 85 2 vc (cs.length + 1) (listCells cs))
    (k10 : W2.ownsMap Tryd.prog 85 (plainElem Tryd.prog 3) mc cs.length Dc) (kF : Fr base W W2) (k8 : W2.ownsMap Tryd.prog 59 (plainElem Tryd.prog 3) mn ns.length Dn)
    (a9 : MapIs 59 0 Dn (ns.map Nd.val)) (a11 : MapIs 85 1 Dc (cs.map Cl.val)) (hk : keyOf Tryd.prog 59 n.val = some l) (hno : ∀ i : Nat, (ns.map Nd.val)[i]? ≠ some n.val)
    (ho3 : w3.ownsMap Tryd.prog 59 (plainElem Tryd.prog 3) mn (ns.length + 1) (Dn.put l (.lit (.int .i64 ns.length)))) (hg3 : W2.drew.grownBy w3 (some mn)) (hD : IsMap Dn) :
    StoreAt w3 base b (ns ++ [n]) cs ∧ Fr base W w3 := by
  have hB2 : base ≤ W2.heap.size := Nat.le_trans hBW kF.below.size
  obtain ⟨es, c, hm⟩ := map_block k8
  have far : ∀ (k : Nat) (C : Array Value) (t : TypeId) (fr : Nat × Nat), W2.heap[k]? = some (.cells C t fr) → w3.heap[k]? = some (.cells C t fr) := fun k C t fr hk => by
    rw [hg3.block k (lt_of_block hk) ?_]
    · exact hk
    · intro h
      obtain rfl := Option.some.inj h
      rw [hm] at hk
      cases hk
  have row : ∀ {e : TypeId} {size : Nat} {v : Value} {n : Nat} {xs : List Value}, W2.ownsRow base e size v n xs → w3.ownsRow base e size v n xs := fun h =>
    h.drew.kept hg3 (.inr (own_apart h hm (fun cur h => by cases h)))
  refine ⟨⟨_, vc, mn, mc, Dn.put l (.lit (.int .i64 ns.length)), Dc, a1, a2, a3, a4, far _ _ _ _ k5, ?_, row k7, ?_, ?_, k10.drew.kept hg3 (fun h => a4 (Option.some.inj h).symm), a11⟩, kF.trans ⟨?_, ?_⟩⟩
  · have := row k6
    rw [← nodeCells_snoc] at this
    rw [List.length_append]
    exact this
  · rw [List.length_append]
    exact ho3
  · rw [List.map_append]
    have := a9.put lawN hD hk hno
    rw [List.length_map, Nat.add_zero] at this
    exact this
  · exact (⟨rfl, rfl, rfl, Nat.le_refl _, fun _ _ => rfl⟩ : Below base W2 W2.drew).trans (below_base hg3 a2 hB2)
  · exact fun k C t hk _ _ _ => far k C t _ hk

set_option maxRecDepth 100000 in
set_option maxHeartbeats 1000000 in
theorem putNode_new {base b : Nat} {ns : List Nd} {cs : List Cl} (n : Nd) (hn : n.Ok) (hno : ∀ i : Nat, ns[i]? ≠ some n) (w : World) (hS : StoreAt w base b ns cs) (hB : base ≤ w.heap.size) (hlen : ns.length ≤ 1000000) :
    Calls Tryd.prog 59 #[.pointer (some ⟨b, 0, none⟩), n.val] w fun e w' => e = .returned (.int .i64 ns.length) ∧ StoreAt w' base b (ns ++ [n]) cs ∧ Fr base w w' := by
  obtain ⟨vn, vc, mn, mc, Dn, Dc, a1, a2, a3, a4, a5, a6, a7, a8, a9, a10, a11⟩ := hS.lies
  obtain ⟨l, hk⟩ := keyOf_node n hn
  have hno' : ∀ i : Nat, (ns.map Nd.val)[i]? ≠ some n.val := no_val hno
  have hhas := a9.miss n.val l hk hno'
  have c2 : w.cell? ⟨b, 2, none⟩ = some (.map (some mn)) := by rw [cell_of_row w b 2 _ _ _ a5]; rfl
  have c0 : w.cell? ⟨b, 0, none⟩ = some vn := by rw [cell_of_row w b 0 _ _ _ a5]; rfl
  have lb := lt_of_block a5
  have hlook : ∀ o k, (Instr.lookup 62 (.map (some mn)) n.val true).run Tryd.prog ((w.alloc o).drewN k) = .ok (.tuple #[.int .i64 0, .bool false]) ((w.alloc o).drewN k) := fun o k => by
    have a8' : ((w.alloc o).drewN k).ownsMap Tryd.prog 59 (plainElem Tryd.prog 3) mn ns.length Dn := a8.alloc o
    obtain ⟨v, ps, hr, hv⟩ := a8'.look_ok lawN Tryd.underlying62 (zeroInt _) (plainElem_int Tryd.underlying3 (by rfl)) hk
    rw [atKey_of_not_has hhas] at hv
    obtain ⟨a, rfl, e⟩ := plainElem_int_inv Tryd.underlying3 hv
    simp only [Prod.mk.injEq, DataW.lit.injEq, Lit.int.injEq, true_and] at e
    rw [hr, hhas, ← e.1.1]
  obtain ⟨an, cn, rfl⟩ := owns_shape a6
  have hbel := fun k => below_box w (.cells #[.int .i64 n.kind, .string n.name, .int .i64 n.num, .int .i64 n.args] 59) k
  have hsz : ∀ k, ((w.alloc (.cells #[.int .i64 n.kind, .string n.name, .int .i64 n.num, .int .i64 n.args] 59)).drewN k).heap.size = w.heap.size + 1 := fun k => by
    show (w.heap.push _).size = _; simp
  have hbox : ∀ k, ((w.alloc (.cells #[.int .i64 n.kind, .string n.name, .int .i64 n.num, .int .i64 n.args] 59)).drewN k).heap[w.heap.size]? = some (.cells #[.int .i64 n.kind, .string n.name, .int .i64 n.num, .int .i64 n.args] 59 (0, 0)) := fun k => heap_alloc_new w _
  have HBEL := Lib.hid hbel
  have HSZ := Lib.hid hsz
  have HBOX := Lib.hid hbox
  have A5 := Lib.hid a5
  have HK := Lib.hid hk
  have HNO := Lib.hid hno'
  have HS := Lib.hid hS
  clear hS a5 hk hno' hhas hno hbel hsz hbox
  simp only [Nd.val] at hlook ⊢
  go_enter Tryd.func59, Tryd.ntmps59
  go_wp2
  go_quiet (fail)
  clear hlook
  have b1 := HBEL.out nq
  have b2 := HSZ.out nq
  have b3 := HBOX.out nq
  clear HBEL HSZ HBOX
  generalize (w.alloc (.cells #[.int .i64 n.kind, .string n.name, .int .i64 n.num, .int .i64 n.args] 59)).drewN nq = W at *
  have d5 : W.heap[b]? = some (.cells #[.slice an ns.length cn, vc, .map (some mn), .map (some mc)] 65 (0, 0)) := by rw [b1.block b lb]; exact A5.out
  have hgW : w.grownBy W none := ⟨b1.os, b1.tape, b1.output, b1.size, fun k hk _ => b1.block k hk⟩
  have hvb := own_lt a6
  have d6 := a6.kept hgW (by cases (Value.slice an ns.length cn).ownBlock <;> simp)
  have d7 := a7.kept hgW (by cases vc.ownBlock <;> simp)
  have d8 := a8.kept hgW (by simp)
  have d10 := a10.kept hgW (by simp)
  have e0 : W.cell? ⟨b, 0, none⟩ = some (.slice an ns.length cn) := by rw [cell_of_row W b 0 _ _ _ d5]; rfl
  have e2 : W.cell? ⟨b, 2, none⟩ = some (.map (some mn)) := by rw [cell_of_row W b 2 _ _ _ d5]; rfl
  have x0 : W.cell? ⟨w.heap.size, 0, none⟩ = some (.int .i64 n.kind) := by rw [cell_of_row W _ 0 _ _ _ b3]; rfl
  have x1 : W.cell? ⟨w.heap.size, 1, none⟩ = some (.string n.name) := by rw [cell_of_row W _ 1 _ _ _ b3]; rfl
  have x2 : W.cell? ⟨w.heap.size, 2, none⟩ = some (.int .i64 n.num) := by rw [cell_of_row W _ 2 _ _ _ b3]; rfl
  have x3 : W.cell? ⟨w.heap.size, 3, none⟩ = some (.int .i64 n.args) := by rw [cell_of_row W _ 3 _ _ _ b3]; rfl
  have lbW := lt_of_block d5
  have hBW : base ≤ W.heap.size := by omega
  have B1 := Lib.hid b1
  have B2 := Lib.hid b2
  have B3 := Lib.hid b3
  have D5 := Lib.hid d5
  have lw : w.heap.size < W.heap.size := by omega
  obtain ⟨i0, hi, hz0, hz1, hz2⟩ := info_parts infoN
  clear b1 b2 b3 d5 hgW a6 a7 a8 a10 c0 c2
  go_wp2
  go_region_law (refine step_append_lies _ (by rfl) (.tmp 27) (.tmp 29) 60 (by rfl) base 59 i0 _ 4 40 Tryd.underlying60 hi hz0 hz1 hz2 rfl (by omega) (.slice an ns.length cn) ns.length (nodeCells ns) (by rfl) ((d6.alloc _).drew) ⟨W.heap.size, 0, none⟩ 1 1 n.cells (by rfl) (by rfl) (World.news_of_block (cs := n.cells.toArray) (t := 59) (fr := (0, 0)) (heap_alloc_new W _)) (by simp [Nd.cells, Value.oneCell']) (by omega) (by unfold maxLen; omega) (by omega) (by simp; omega) (W.heap.size + 1) (by simp) ?_; intro g cap w1 hown1 hgrow hat hlt; have f5 := other_block ((d6.alloc _).drew) hgrow (k := b) ((heap_alloc_old W _ lbW).trans D5.out) (by intro cur h; simp at h); have g0 := cell_of_row w1 b 0 _ _ _ f5; simp at g0; have g1 : w1.frozen? ⟨b, 0, none⟩ = false := by simp [World.frozen?, f5])
  all_goals
    have k5 := heap_setCell_same w1 b 0 _ _ (.slice (some ⟨g, 0, none⟩) (ns.length + 1) cap) f5
    have k3 : (w1.setCell ⟨b, 0, none⟩ (.slice (some ⟨g, 0, none⟩) (ns.length + 1) cap)).heap[w.heap.size]? = some (.cells #[.int .i64 n.kind, .string n.name, .int .i64 n.num, .int .i64 n.args] 59 (0, 0)) := by
      rw [heap_setCell_other w1 _ _ _ (by show w.heap.size ≠ b; omega), hgrow.block _ (by show w.heap.size < (W.heap.push _).size; simp; omega) (Ne.symm hvb)]
      exact (heap_alloc_old W _ lw).trans B3.out
    obtain ⟨k6, k7, k8, kF⟩ := after_append (j := 0) a1 hBW (by decide) (.inl rfl) D5.out d6 hown1 hgrow f5
    have k10 := k8 d10
    have k8 := k8 d8
    have k7 := k7 (by decide) (by decide) d7
    generalize (w1.setCell ⟨b, 0, none⟩ (.slice (some ⟨g, 0, none⟩) (ns.length + 1) cap)) = W2 at *
    have y2 : W2.cell? ⟨b, 2, none⟩ = some (.map (some mn)) := by rw [cell_of_row W2 b 2 _ _ _ k5]; rfl
    have x0 : W2.cell? ⟨w.heap.size, 0, none⟩ = some (.int .i64 n.kind) := by rw [cell_of_row W2 _ 0 _ _ _ k3]; rfl
    have x1 : W2.cell? ⟨w.heap.size, 1, none⟩ = some (.string n.name) := by rw [cell_of_row W2 _ 1 _ _ _ k3]; rfl
    have x2 : W2.cell? ⟨w.heap.size, 2, none⟩ = some (.int .i64 n.num) := by rw [cell_of_row W2 _ 2 _ _ _ k3]; rfl
    have x3 : W2.cell? ⟨w.heap.size, 3, none⟩ = some (.int .i64 n.args) := by rw [cell_of_row W2 _ 3 _ _ _ k3]; rfl
    have K5 := Lib.hid k5
    clear k5 k3 hown1 hgrow hat hlt f5 g0 g1 d6 d7 d8 d10 e0 e2
    go_wp2
    go_still_tail 6, (by kernel_rfl)
    change wpList _ _ _ _ _ W2.drew
    refine wpList_mapUpdate_own _ rfl (.tmp 36) (.tmp 37) (.tmp 38) 62 rfl 59 3 lawN Tryd.underlying62 _ mn ns.length Dn rfl k8.drew (by unfold maxLen; omega) n.val (.int .i64 ns.length) l rfl rfl HK.out _ [] (plainElem_int Tryd.underlying3 (wf64 (by omega) (by omega))) ?_
    intro w3 ho3 hg3
    have fin : StoreAt w3 base b (ns ++ [n]) cs ∧ Fr base W w3 := after_store a1 a2 a3 a4 hBW K5.out k6 k7 k10 kF k8 a9 a11 HK.out HNO.out ho3 hg3 k8.isMap
    have fin2 : Fr base w W := Fr.of_below B1.out hB
    have fin3 := fin2.trans fin.2
    have fin1 := fin.1
    clear fin ho3 hg3 k6 k7 k10 kF k8
    go_wp2
    go_ret
    exact ⟨rfl, fin1, fin3⟩

/-- (*termStore).putNode: the place of the node, which is there then. -/
theorem putNode_any {base b : Nat} {ns : List Nd} {cs : List Cl} (n : Nd) (hn : n.Ok) (w : World) (hS : StoreAt w base b ns cs) (hB : base ≤ w.heap.size) (hlen : ns.length ≤ 1000000) :
    Calls Tryd.prog 59 #[.pointer (some ⟨b, 0, none⟩), n.val] w fun e w' => ∃ (i : Nat) (ns' : List Nd), e = .returned (.int .i64 i) ∧ ns'[i]? = some n ∧ (ns' = ns ∨ ns' = ns ++ [n]) ∧ StoreAt w' base b ns' cs ∧ Fr base w w' := by
  by_cases h : ∃ i : Nat, ns[i]? = some n
  · obtain ⟨i, hi⟩ := h
    exact (putNode_old n hn i hi w hS hB).mono fun e w' ⟨he, hb⟩ => ⟨i, ns, he, hi, .inl rfl, hS.kept hb, Fr.of_below hb hB⟩
  · exact (putNode_new n hn (fun i hi => h ⟨i, hi⟩) w hS hB hlen).mono fun e w' ⟨he, hs, hf⟩ => ⟨ns.length, ns ++ [n], he, by simp, .inr rfl, hs, hf⟩

end Go.Proofs.YtngnmfoephegmaaDoor
