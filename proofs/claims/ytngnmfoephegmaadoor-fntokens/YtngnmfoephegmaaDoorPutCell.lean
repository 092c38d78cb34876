/-
  THE WALK over (*termStore).putCell.
-/
import Derived.Test.YtngnmfoephegmaaDoorPutNode
namespace Go.Proofs.YtngnmfoephegmaaDoor
open Go Go.RowKit Go.Maps Go.WideMaps

theorem infoC : (Tryd.prog.info? 85).map (fun i => (i.zero, i.size, i.bytes)) = some (some (.agg #[.int .i64 0, .int .i64 0]), 2, 16) := by kernel_rfl
theorem Cl.val_inj {a b : Cl} (h : a.val = b.val) : a = b := by
  obtain ⟨a1, a2⟩ := a
  obtain ⟨b1, b2⟩ := b
  simp only [Cl.val, Value.agg.injEq, Array.mk.injEq, List.cons.injEq, Value.int.injEq, true_and, and_true] at h
  obtain ⟨h1, h2⟩ := h
  have e1 : a1 = b1 := by omega
  have e2 : a2 = b2 := by omega
  rw [e1, e2]
theorem no_valC {cs : List Cl} {c : Cl} (h : ∀ i : Nat, cs[i]? ≠ some c) : ∀ i : Nat, (cs.map Cl.val)[i]? ≠ some c.val := by
  intro i hi
  rw [List.getElem?_map, Option.map_eq_some_iff] at hi
  obtain ⟨m, hm, he⟩ := hi
  exact h i (by rw [hm, Cl.val_inj he])

set_option maxRecDepth 100000 in
set_option maxHeartbeats 1000000 in
theorem putCell_old {base b : Nat} {ns : List Nd} {cs : List Cl} (c : Cl) (_hn : c.Ok) (i : Nat) (hi : cs[i]? = some c) (w : World) (hS : StoreAt w base b ns cs) (_hB : base ≤ w.heap.size) :
    Calls Tryd.prog 66 #[.pointer (some ⟨b, 0, none⟩), c.val] w fun e w' => e = .returned (.int .i64 ((i + 1 : Nat) : Int)) ∧ Below w.heap.size w w' := by
  obtain ⟨vn, vc, mn, mc, Dn, Dc, a1, a2, a3, a4, a5, a6, a7, a8, a9, a10, a11⟩ := hS.lies
  obtain ⟨l, hk, hhas, hat⟩ := a11.hit i c.val (by simp [hi])
  have c2 : w.cell? ⟨b, 3, none⟩ = some (.map (some mc)) := by rw [cell_of_row w b 3 _ _ _ a5]; rfl
  have lb := lt_of_block a5
  have hlook : ∀ o k, (Instr.lookup 63 (.map (some mc)) c.val true).run Tryd.prog ((w.alloc o).drewN k) = .ok (.tuple #[.int .i64 ((i + 1 : Nat) : Int), .bool true]) ((w.alloc o).drewN k) := fun o k => by
    have a10' : ((w.alloc o).drewN k).ownsMap Tryd.prog 85 (plainElem Tryd.prog 3) mc cs.length Dc := a10.alloc o
    obtain ⟨v, ps, hr, hv⟩ := a10'.look_ok lawC Tryd.underlying63 (zeroInt _) (plainElem_int Tryd.underlying3 (by rfl)) hk
    rw [hat] at hv
    obtain ⟨a, rfl, e⟩ := plainElem_int_inv Tryd.underlying3 hv
    simp only [Prod.mk.injEq, DataW.lit.injEq, Lit.int.injEq, true_and] at e
    rw [hr, hhas, ← e.1.1]
  clear a6 a7 a8 a9 a10 a11 hk hhas hat hi hS a5
  simp only [Cl.val] at hlook ⊢
  go_enter Tryd.func66, Tryd.ntmps66
  go_wp2
  go_quiet (fail)
  go_wp2
  go_ret
  exact ⟨rfl, below_box w _ nq⟩

/-- The map is told the new cell: the store with it. -/
theorem after_storeC {base b : Nat} {W W2 w3 : World} {ns : List Nd} {cs : List Cl} {c : Cl} {g cap : Nat} {vn : Value} {mn mc : Nat} {Dn Dc : DataW Unit} {l : Lit}
    (a1 : base ≤ b) (a2 : base ≤ mn) (a3 : base ≤ mc) (a4 : mn ≠ mc) (hBW : base ≤ W.heap.size)
    (k5 : W2.heap[b]? = some (.cells (#[vn, .slice (some ⟨g, 0, none⟩) (cs.length + 1 + 1) cap, .map (some mn), .map (some mc)]) 65 (0, 0)))
    (k6 : W2.ownsRow base 85 2 (.slice (some ⟨g, 0, none⟩) (cs.length + 1 + 1) cap) (cs.length + 1 + 1) (listCells cs ++ c.cells)) (k7 : W2.ownsRow base 59 4 vn ns.length (nodeCells ns))
    (k10 : W2.ownsMap Tryd.prog 59 (plainElem Tryd.prog 3) mn ns.length Dn) (kF : Fr base W W2) (k8 : W2.ownsMap Tryd.prog 85 (plainElem Tryd.prog 3) mc cs.length Dc)
    (a9 : MapIs 59 0 Dn (ns.map Nd.val)) (a11 : MapIs 85 1 Dc (cs.map Cl.val)) (hk : keyOf Tryd.prog 85 c.val = some l) (hno : ∀ i : Nat, (cs.map Cl.val)[i]? ≠ some c.val)
    (ho3 : w3.ownsMap Tryd.prog 85 (plainElem Tryd.prog 3) mc (cs.length + 1) (Dc.put l (.lit (.int .i64 ((cs.length + 1 : Nat) : Int))))) (hg3 : W2.drew.grownBy w3 (some mc)) (hD : IsMap Dc) :
    StoreAt w3 base b ns (cs ++ [c]) ∧ Fr base W w3 := by
  have hB2 : base ≤ W2.heap.size := Nat.le_trans hBW kF.below.size
  obtain ⟨es, cc, hm⟩ := map_block k8
  have far : ∀ (k : Nat) (C : Array Value) (t : TypeId) (fr : Nat × Nat), W2.heap[k]? = some (.cells C t fr) → w3.heap[k]? = some (.cells C t fr) := fun k C t fr hk => by
    rw [hg3.block k (lt_of_block hk) ?_]
    · exact hk
    · intro h
      obtain rfl := Option.some.inj h
      rw [hm] at hk
      cases hk
  have row : ∀ {e : TypeId} {size : Nat} {v : Value} {n : Nat} {xs : List Value}, W2.ownsRow base e size v n xs → w3.ownsRow base e size v n xs := fun h =>
    h.drew.kept hg3 (.inr (own_apart h hm (fun cur h => by cases h)))
  refine ⟨⟨vn, _, mn, mc, Dn, Dc.put l (.lit (.int .i64 ((cs.length + 1 : Nat) : Int))), a1, a2, a3, a4, far _ _ _ _ k5, row k7, ?_, k10.drew.kept hg3 (fun h => a4 (Option.some.inj h)), a9, ?_, ?_⟩, kF.trans ⟨?_, ?_⟩⟩
  · have := row k6
    rw [← listCells_snoc] at this
    rw [List.length_append]
    exact this
  · rw [List.length_append]
    exact ho3
  · rw [List.map_append]
    have := a11.put lawC hD hk hno
    rw [List.length_map] at this
    exact this
  · exact (⟨rfl, rfl, rfl, Nat.le_refl _, fun _ _ => rfl⟩ : Below base W2 W2.drew).trans (below_base hg3 a3 hB2)
  · exact fun k C t hk _ _ _ => far k C t _ hk

set_option maxRecDepth 100000 in
set_option maxHeartbeats 1000000 in
theorem putCell_new {base b : Nat} {ns : List Nd} {cs : List Cl} (c : Cl) (hn : c.Ok) (hno : ∀ i : Nat, cs[i]? ≠ some c) (w : World) (hS : StoreAt w base b ns cs) (hB : base ≤ w.heap.size) (hlen : cs.length ≤ 900000) :
    Calls Tryd.prog 66 #[.pointer (some ⟨b, 0, none⟩), c.val] w fun e w' => e = .returned (.int .i64 ((cs.length + 1 : Nat) : Int)) ∧ StoreAt w' base b ns (cs ++ [c]) ∧ Fr base w w' := by
  obtain ⟨vn, vc, mn, mc, Dn, Dc, a1, a2, a3, a4, a5, a6, a7, a8, a9, a10, a11⟩ := hS.lies
  obtain ⟨l, hk⟩ := keyOf_cell c hn
  have hno' : ∀ i : Nat, (cs.map Cl.val)[i]? ≠ some c.val := no_valC hno
  have hhas := a11.miss c.val l hk hno'
  have c2 : w.cell? ⟨b, 3, none⟩ = some (.map (some mc)) := by rw [cell_of_row w b 3 _ _ _ a5]; rfl
  have c0 : w.cell? ⟨b, 1, none⟩ = some vc := by rw [cell_of_row w b 1 _ _ _ a5]; rfl
  have lb := lt_of_block a5
  have hlook : ∀ o k, (Instr.lookup 63 (.map (some mc)) c.val true).run Tryd.prog ((w.alloc o).drewN k) = .ok (.tuple #[.int .i64 0, .bool false]) ((w.alloc o).drewN k) := fun o k => by
    have a8' : ((w.alloc o).drewN k).ownsMap Tryd.prog 85 (plainElem Tryd.prog 3) mc cs.length Dc := a10.alloc o
    obtain ⟨v, ps, hr, hv⟩ := a8'.look_ok lawC Tryd.underlying63 (zeroInt _) (plainElem_int Tryd.underlying3 (by rfl)) hk
    rw [atKey_of_not_has hhas] at hv
    obtain ⟨a, rfl, e⟩ := plainElem_int_inv Tryd.underlying3 hv
    simp only [Prod.mk.injEq, DataW.lit.injEq, Lit.int.injEq, true_and] at e
    rw [hr, hhas, ← e.1.1]
  obtain ⟨an, cn, rfl⟩ := owns_shape a7
  have hbel := fun k => below_box w (.cells #[.int .i64 c.head, .int .i64 c.tail] 85) k
  have hsz : ∀ k, ((w.alloc (.cells #[.int .i64 c.head, .int .i64 c.tail] 85)).drewN k).heap.size = w.heap.size + 1 := fun k => by
    show (w.heap.push _).size = _; simp
  have hbox : ∀ k, ((w.alloc (.cells #[.int .i64 c.head, .int .i64 c.tail] 85)).drewN k).heap[w.heap.size]? = some (.cells #[.int .i64 c.head, .int .i64 c.tail] 85 (0, 0)) := fun k => heap_alloc_new w _
  have HBEL := Lib.hid hbel
  have HSZ := Lib.hid hsz
  have HBOX := Lib.hid hbox
  have A5 := Lib.hid a5
  have HK := Lib.hid hk
  have HNO := Lib.hid hno'
  have HS := Lib.hid hS
  clear hS a5 hk hno' hhas hno hbel hsz hbox
  simp only [Cl.val] at hlook ⊢
  go_enter Tryd.func66, Tryd.ntmps66
  go_wp2
  go_quiet (fail)
  clear hlook
  have b1 := HBEL.out nq
  have b2 := HSZ.out nq
  have b3 := HBOX.out nq
  clear HBEL HSZ HBOX
  generalize (w.alloc (.cells #[.int .i64 c.head, .int .i64 c.tail] 85)).drewN nq = W at *
  have d5 : W.heap[b]? = some (.cells #[vn, .slice an (cs.length + 1) cn, .map (some mn), .map (some mc)] 65 (0, 0)) := by rw [b1.block b lb]; exact A5.out
  have hgW : w.grownBy W none := ⟨b1.os, b1.tape, b1.output, b1.size, fun k hk _ => b1.block k hk⟩
  have hvb := own_lt a7
  have d6 := a6.kept hgW (by cases vn.ownBlock <;> simp)
  have d7 := a7.kept hgW (by cases (Value.slice an (cs.length + 1) cn).ownBlock <;> simp)
  have d8 := a8.kept hgW (by simp)
  have d10 := a10.kept hgW (by simp)
  have e0 : W.cell? ⟨b, 1, none⟩ = some (.slice an (cs.length + 1) cn) := by rw [cell_of_row W b 1 _ _ _ d5]; rfl
  have e2 : W.cell? ⟨b, 3, none⟩ = some (.map (some mc)) := by rw [cell_of_row W b 3 _ _ _ d5]; rfl
  have x0 : W.cell? ⟨w.heap.size, 0, none⟩ = some (.int .i64 c.head) := by rw [cell_of_row W _ 0 _ _ _ b3]; rfl
  have x1 : W.cell? ⟨w.heap.size, 1, none⟩ = some (.int .i64 c.tail) := by rw [cell_of_row W _ 1 _ _ _ b3]; rfl
  have lbW := lt_of_block d5
  have hBW : base ≤ W.heap.size := by omega
  have B1 := Lib.hid b1
  have B2 := Lib.hid b2
  have B3 := Lib.hid b3
  have D5 := Lib.hid d5
  have lw : w.heap.size < W.heap.size := by omega
  obtain ⟨i0, hi, hz0, hz1, hz2⟩ := info_parts infoC
  clear b1 b2 b3 d5 hgW a6 a7 a8 a10 c0 c2
  go_wp2
  go_region_law (refine step_append_lies _ (by rfl) (.tmp 27) (.tmp 29) 61 (by rfl) base 85 i0 _ 2 16 Tryd.underlying61 hi hz0 hz1 hz2 rfl (by omega) (.slice an (cs.length + 1) cn) (cs.length + 1) (listCells cs) (by rfl) ((d7.alloc _).drew) ⟨W.heap.size, 0, none⟩ 1 1 c.cells (by rfl) (by rfl) (World.news_of_block (cs := c.cells.toArray) (t := 85) (fr := (0, 0)) (heap_alloc_new W _)) (by simp [Cl.cells, Value.oneCell']) (by omega) (by unfold maxLen; omega) (by omega) (by simp; omega) (W.heap.size + 1) (by simp) ?_; intro g cap w1 hown1 hgrow hat hlt; have f5 := other_block ((d7.alloc _).drew) hgrow (k := b) ((heap_alloc_old W _ lbW).trans D5.out) (by intro cur h; simp at h); have g0 := cell_of_row w1 b 1 _ _ _ f5; simp at g0; have g1 : w1.frozen? ⟨b, 1, none⟩ = false := by simp [World.frozen?, f5])
  all_goals
    have k5 := heap_setCell_same w1 b 1 _ _ (.slice (some ⟨g, 0, none⟩) (cs.length + 1 + 1) cap) f5
    have k3 : (w1.setCell ⟨b, 1, none⟩ (.slice (some ⟨g, 0, none⟩) (cs.length + 1 + 1) cap)).heap[w.heap.size]? = some (.cells #[.int .i64 c.head, .int .i64 c.tail] 85 (0, 0)) := by
      rw [heap_setCell_other w1 _ _ _ (by show w.heap.size ≠ b; omega), hgrow.block _ (by show w.heap.size < (W.heap.push _).size; simp; omega) (Ne.symm hvb)]
      exact (heap_alloc_old W _ lw).trans B3.out
    obtain ⟨k6, k7, k8, kF⟩ := after_append (j := 1) a1 hBW (by decide) (.inr rfl) D5.out d7 hown1 hgrow f5
    have k10 := k8 d8
    have k8 := k8 d10
    have k7 := k7 (by decide) (by decide) d6
    generalize (w1.setCell ⟨b, 1, none⟩ (.slice (some ⟨g, 0, none⟩) (cs.length + 1 + 1) cap)) = W2 at *
    have y2 : W2.cell? ⟨b, 3, none⟩ = some (.map (some mc)) := by rw [cell_of_row W2 b 3 _ _ _ k5]; rfl
    have x0 : W2.cell? ⟨w.heap.size, 0, none⟩ = some (.int .i64 c.head) := by rw [cell_of_row W2 _ 0 _ _ _ k3]; rfl
    have x1 : W2.cell? ⟨w.heap.size, 1, none⟩ = some (.int .i64 c.tail) := by rw [cell_of_row W2 _ 1 _ _ _ k3]; rfl
    have K5 := Lib.hid k5
    clear k5 k3 hown1 hgrow hat hlt f5 g0 g1 d6 d7 d8 d10 e0 e2
    go_wp2
    go_still_tail 6, (by kernel_rfl)
    change wpList _ _ _ _ _ W2.drew
    refine wpList_mapUpdate_own _ rfl (.tmp 36) (.tmp 37) (.tmp 38) 63 rfl 85 3 lawC Tryd.underlying63 _ mc cs.length Dc rfl k8.drew (by unfold maxLen; omega) c.val (.int .i64 ((cs.length + 1 : Nat) : Int)) l rfl rfl HK.out _ [] (plainElem_int Tryd.underlying3 (wf64 (by omega) (by omega))) ?_
    intro w3 ho3 hg3
    have fin : StoreAt w3 base b ns (cs ++ [c]) ∧ Fr base W w3 := after_storeC a1 a2 a3 a4 hBW K5.out k6 k7 k10 kF k8 a9 a11 HK.out HNO.out ho3 hg3 k8.isMap
    have fin2 : Fr base w W := Fr.of_below B1.out hB
    have fin3 := fin2.trans fin.2
    have fin1 := fin.1
    clear fin ho3 hg3 k6 k7 k10 kF k8
    go_wp2
    go_ret
    exact ⟨rfl, fin1, fin3⟩

/-- (*termStore).putCell: the place of the cell, which is there then. -/
theorem putCell_any {base b : Nat} {ns : List Nd} {cs : List Cl} (c : Cl) (hn : c.Ok) (w : World) (hS : StoreAt w base b ns cs) (hB : base ≤ w.heap.size) (hlen : cs.length ≤ 900000) :
    Calls Tryd.prog 66 #[.pointer (some ⟨b, 0, none⟩), c.val] w fun e w' => ∃ (i : Nat) (cs' : List Cl), e = .returned (.int .i64 ((i + 1 : Nat) : Int)) ∧ cs'[i]? = some c ∧ (cs' = cs ∨ cs' = cs ++ [c]) ∧ StoreAt w' base b ns cs' ∧ Fr base w w' := by
  by_cases h : ∃ i : Nat, cs[i]? = some c
  · obtain ⟨i, hi⟩ := h
    exact (putCell_old c hn i hi w hS hB).mono fun e w' ⟨he, hb⟩ => ⟨i, cs, he, hi, .inl rfl, hS.kept hb, Fr.of_below hb hB⟩
  · exact (putCell_new c hn (fun i hi => h ⟨i, hi⟩) w hS hB hlen).mono fun e w' ⟨he, hs, hf⟩ => ⟨cs.length, cs ++ [c], he, by simp, .inr rfl, hs, hf⟩

end Go.Proofs.YtngnmfoephegmaaDoor
