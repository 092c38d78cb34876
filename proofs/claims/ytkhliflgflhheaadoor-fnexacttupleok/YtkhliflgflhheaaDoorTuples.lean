/-
  THE WALKS over tuples: readRow, impl.TupleOk, spec.TupleOk; the laws' own helpers szTuple, toTuple, eqTuple; laws.FnExactTupleOk answers true.
-/
import Derived.Test.YtkhliflgflhheaaDoorStrs
namespace Go.Proofs.YtkhliflgflhheaaDoor
open Go Go.RowKit Go.Maps Go.WideMaps

/-- TupleOk. -/
def TupOk (xs : List ByteArray) : Prop := xs.length ≤ 6 ∧ ∀ x ∈ xs, rdAll (lst x) ≠ none
/-- The terms of a tuple. -/
def Terms (xs : List ByteArray) (ts : List Tm) : Prop := xs.map (fun x => rdAll (lst x)) = ts.map some

theorem Terms.length {xs : List ByteArray} {ts : List Tm} (h : Terms xs ts) : xs.length = ts.length := by
  have := congrArg List.length h
  simpa using this
theorem Terms.nil : Terms [] [] := rfl
theorem Terms.snoc {xs : List ByteArray} {ts : List Tm} {x : ByteArray} {t : Tm} (h : Terms xs ts) (hx : rdAll (lst x) = some t) : Terms (xs ++ [x]) (ts ++ [t]) := by
  unfold Terms at *
  rw [List.map_append, List.map_append, h]
  simp [hx]
theorem Terms.ok {xs : List ByteArray} {ts : List Tm} (h : Terms xs ts) : ∀ x ∈ xs, rdAll (lst x) ≠ none := by
  intro x hx e
  have h1 : rdAll (lst x) ∈ xs.map (fun x => rdAll (lst x)) := List.mem_map.2 ⟨x, hx, rfl⟩
  rw [h] at h1
  obtain ⟨t, _, ht⟩ := List.mem_map.1 h1
  rw [e] at ht
  cases ht
theorem kind_zero {l : List UInt8} : iKind l = 0 ↔ rdAll l = none := by
  unfold iKind
  cases rdAll l with
  | none => simp
  | some t => simp [kind_pos t]

/-- What readRow answers. -/
def RowPost (base b : Nat) (ns : List Nd) (cs : List Cl) (v : Value) (xs : List ByteArray) (C : Nat) (w : World) (e : Ending) (w' : World) : Prop :=
  ∃ (ns' : List Nd) (cs' : List Cl), Ext ns ns' ∧ Ext cs cs' ∧ ns'.length ≤ C + 1200 ∧ cs'.length ≤ C + 1200 ∧ StoreAt w' base b ns' cs' ∧ Fr base w w' ∧
    ((¬ TupOk xs ∧ e = .returned (.tuple #[.agg #[.slice none 0 0, .slice none 0 0], .bool false])) ∨
     (∃ (ts : List Tm) (is : List Nat) (pv : Value), TupOk xs ∧ Terms xs ts ∧ Ats ns' cs' is ts ∧ w'.ownsRow w.heap.size 3 1 pv is.length (intCells is) ∧ e = .returned (.tuple #[.agg #[v, pv], .bool true])))

theorem own_ne {w : World} {base : Nat} {e : TypeId} {size : Nat} {v : Value} {n : Nat} {xs : List Value} (ho : w.ownsRow base e size v n xs) {g : Nat} {cur : Array Value} {t : TypeId} {fr : Nat × Nat} (hg : w.heap[g]? = some (.cells cur t fr)) (hne : t ≠ e) : v.ownBlock = none ∨ v.ownBlock ≠ some g := by
  rcases ho.2 with ⟨rfl, _⟩ | ⟨k, cap, cur', rfl, _, hh, _⟩
  · exact .inl rfl
  · right
    intro he
    simp [Value.ownBlock] at he
    subst he
    rw [hh] at hg
    have := Option.some.inj hg
    simp only [Obj.cells.injEq] at this
    exact hne this.2.1.symm
theorem grown_set (w : World) (g o : Nat) (u : Value) : w.grownBy (w.setCell ⟨g, o, none⟩ u) (some g) :=
  ⟨rfl, rfl, rfl, ((Below.refl 0 w).setCell (p := ⟨g, o, none⟩) (Nat.zero_le _) u).size, fun k _ hk => heap_setCell_other w ⟨g, o, none⟩ _ _ (fun e => hk (by rw [e]))⟩
/-- A store outlives a store into a block of another kind. -/
theorem StoreAt.set {w : World} {base b : Nat} {ns : List Nd} {cs : List Cl} (h : StoreAt w base b ns cs) {g : Nat} {cur : Array Value} {t : TypeId} {fr : Nat × Nat} (hg : w.heap[g]? = some (.cells cur t fr)) (h1 : t ≠ 63) (h2 : t ≠ 129) (h3 : t ≠ 69) (o : Nat) (u : Value) :
    StoreAt (w.setCell ⟨g, o, none⟩ u) base b ns cs := by
  obtain ⟨vn, vc, mn, mc, Dn, Dc, a1, a2, a3, a4, a5, a6, a7, a8, a9, a10, a11⟩ := h.lies
  have hgr := grown_set w g o u
  obtain ⟨es, c, hm⟩ := map_block a8
  obtain ⟨es2, c2, hm2⟩ := map_block a10
  have hbg : b ≠ g := fun e => by
    subst e
    rw [a5] at hg
    have := Option.some.inj hg
    simp only [Obj.cells.injEq] at this
    exact h3 this.2.1.symm
  have hmg : some mn ≠ some g := fun e => by
    simp only [Option.some.injEq] at e
    subst e
    rw [hm] at hg
    cases hg
  have hmg2 : some mc ≠ some g := fun e => by
    simp only [Option.some.injEq] at e
    subst e
    rw [hm2] at hg
    cases hg
  exact ⟨vn, vc, mn, mc, Dn, Dc, a1, a2, a3, a4, (heap_setCell_other w ⟨g, o, none⟩ _ _ hbg).trans a5, a6.kept hgr (own_ne a6 hg h1), a7.kept hgr (own_ne a7 hg h2), a8.kept hgr hmg, a9, a10.kept hgr hmg2, a11⟩
theorem Fr.set {w wr : World} {base : Nat} (h : Fr base w wr) {g : Nat} (hg : w.heap.size ≤ g) (hB : base ≤ w.heap.size) (o : Nat) (u : Value) : Fr base w (wr.setCell ⟨g, o, none⟩ u) :=
  ⟨h.below.setCell (p := ⟨g, o, none⟩) (Nat.le_trans hB hg) _, fun k cs t hk h1 h2 h3 => by
    have := lt_of_block hk
    rw [heap_setCell_other wr ⟨g, o, none⟩ _ _ (show k ≠ g by omega)]
    exact h.rows k cs t hk h1 h2 h3⟩
/-- A result that lives in a variable, and one in a slot. -/
theorem results_row_tmp {P : Program} {fn : Func} {p u : Tmp} {ty : TypeId} (h : fn.results = #[.cell p ty, .tmp u]) (tmps : Array Value) (w : World) (g : Nat) (t : TypeId) (cs : Array Value) (fr : Nat × Nat) (d : TypeDesc)
    (hp : tmps.getD p undef = .pointer (some ⟨g, 0, none⟩)) (hg : w.heap[g]? = some (.cells cs t fr))
    (hu : P.underlying ty = some d) (hd : (match d with | .struct _ | .array _ _ => true | _ => false) = true) (hi : (P.info? ty).map (·.size) = some cs.size) :
    (results fn tmps).run P w = .ok (.tuple #[.agg cs, tmps.getD u undef]) w := by
  rw [results_cell_tmp h, hp]
  simp [asAddr, Result.andThen, run_loadVar_row w g t ty cs fr d hg hu hd hi]

theorem infoR : (Tryd.prog.info? 83).map (·.size) = some 2 := by kernel_rfl
theorem infoT : (Tryd.prog.info? 36).map (·.size) = some 1 := by kernel_rfl
theorem below_step {w W w1 : World} (h : Below w.heap.size w W) (h1 : Below W.heap.size W w1) : Below w.heap.size w w1 := h.trans (h1.mono h.size)
theorem below_alloc {w W : World} (h : Below w.heap.size w W) (o : Obj) : Below w.heap.size w (W.alloc o) := h.alloc h.size o
theorem below_set {w W : World} (h : Below w.heap.size w W) {g : Nat} (o : Nat) (u : Value) (hg : w.heap.size ≤ g) : Below w.heap.size w (W.setCell ⟨g, o, none⟩ u) := h.setCell (p := ⟨g, o, none⟩) hg u
theorem cell_keep_alloc {w : World} {b i : Nat} {v : Value} (h : w.cell? ⟨b, i, none⟩ = some v) (o : Obj) : (w.alloc o).cell? ⟨b, i, none⟩ = some v := by
  rw [← h]
  unfold World.cell?
  rw [heap_alloc_old w o (cell_lt h)]
theorem cell_keep_set {w : World} {b i g : Nat} {v : Value} (h : w.cell? ⟨b, i, none⟩ = some v) (hne : b ≠ g) (o : Nat) (u : Value) : (w.setCell ⟨g, o, none⟩ u).cell? ⟨b, i, none⟩ = some v := by
  rw [← h]
  unfold World.cell?
  rw [heap_setCell_other w ⟨g, o, none⟩ _ _ hne]
theorem set_two {w : World} {g : Nat} {r0 r1 : Value} {T : TypeId} (h : w.heap[g]? = some (.cells #[r0, r1] T (0, 0))) (u0 u1 : Value) : ((w.setCell ⟨g, 0, none⟩ u0).setCell ⟨g, 1, none⟩ u1).heap[g]? = some (.cells #[u0, u1] T (0, 0)) := by
  have h1 := heap_setCell_same w g 0 _ _ u0 h
  have h2 := heap_setCell_same (w.setCell ⟨g, 0, none⟩ u0) g 1 _ _ u1 h1
  rw [h2]
  rfl
theorem set_one {w : World} {g : Nat} {r0 r1 : Value} {T : TypeId} (h : w.heap[g]? = some (.cells #[r0, r1] T (0, 0))) (u1 : Value) : (w.setCell ⟨g, 1, none⟩ u1).heap[g]? = some (.cells #[r0, u1] T (0, 0)) := by
  rw [heap_setCell_same w g 1 _ _ u1 h]
  rfl
theorem set_zero {w : World} {g : Nat} {r0 r1 : Value} {T : TypeId} (h : w.heap[g]? = some (.cells #[r0, r1] T (0, 0))) (u0 : Value) : (w.setCell ⟨g, 0, none⟩ u0).heap[g]? = some (.cells #[u0, r1] T (0, 0)) := by
  rw [heap_setCell_same w g 0 _ _ u0 h]
  rfl

/-- What the loop of readRow holds. -/
def RowRel (base b : Nat) (ns : List Nd) (cs : List Cl) (v : Value) (xs : List ByteArray) (C : Nat) (w : World) (vk : Value) (wr : World) : Prop :=
  ∃ (k : Nat) (is : List Nat) (ts : List Tm) (pv : Value) (ns' : List Nd) (cs' : List Cl), vk = .int .i64 (k : Int) ∧ k ≤ xs.length ∧ wr.heap[w.heap.size + 2]? = some (.cells #[v, pv] 83 (0, 0)) ∧ (∃ r0 r1, wr.heap[w.heap.size + 1]? = some (.cells #[r0, r1] 83 (0, 0))) ∧
    Terms (xs.take k) ts ∧ Ats ns' cs' is ts ∧ wr.ownsRow w.heap.size 3 1 pv is.length (intCells is) ∧
    Ext ns ns' ∧ Ext cs cs' ∧ ns'.length ≤ C + 200 * k ∧ cs'.length ≤ C + 200 * k ∧ StoreAt wr base b ns' cs' ∧ Fr base w wr

set_option maxRecDepth 100000 in
set_option maxHeartbeats 2000000 in
theorem readRow_any (base b : Nat) (ns : List Nd) (cs : List Cl) (B : Nat) (v : Value) (xs : List ByteArray) (C : Nat) (w : World) (hS : StoreAt w base b ns cs) (hE : Env base w) (hn : ns.length ≤ C) (hc : cs.length ≤ C) (hC : 200 ≤ C) (hC2 : C ≤ 700000)
    (hown : w.ownsRow B 9 1 v xs.length (strCells xs)) (hx : xs.length ≤ 1048576) (hxs : ∀ x ∈ xs, x.size ≤ 1048576) :
    Calls Tryd.prog 45 #[.pointer (some ⟨b, 0, none⟩), .agg #[v]] w (RowPost base b ns cs v xs C w) := by
  obtain ⟨av, cv, rfl⟩ := owns_shape hown
  obtain ⟨i0, hi, hz0, hz1, hz2⟩ := info_parts info3
  by_cases h6 : xs.length ≤ 6
  · have hgt : decide ((6 : Int) < (xs.length : Int)) = false := decide_eq_false (by omega)
    have hgt' : decide (6 < xs.length) = false := decide_eq_false (by omega)
    have HXS := Lib.hid hxs
    have HE := Lib.hid hE
    have HO := Lib.hid hown
    have hb3 := (((Below.refl w.heap.size w).alloc (Nat.le_refl _) (Obj.cells #[Value.slice av xs.length cv] 36)).alloc (by simp) (Obj.cells #[Value.slice none 0 0, Value.slice none 0 0] 83)).alloc (by simp; omega) (Obj.cells #[Value.slice av xs.length cv, Value.slice none 0 0] 83)
    have hr2 : (((w.alloc (Obj.cells #[Value.slice av xs.length cv] 36)).alloc (Obj.cells #[Value.slice none 0 0, Value.slice none 0 0] 83)).alloc (Obj.cells #[Value.slice av xs.length cv, Value.slice none 0 0] 83)).heap[w.heap.size + 2]? = some (.cells #[Value.slice av xs.length cv, Value.slice none 0 0] 83 (0, 0)) := by
      have := heap_alloc_new ((w.alloc (Obj.cells #[Value.slice av xs.length cv] 36)).alloc (Obj.cells #[Value.slice none 0 0, Value.slice none 0 0] 83)) (Obj.cells #[Value.slice av xs.length cv, Value.slice none 0 0] 83)
      simpa using this
    have hr1 : (((w.alloc (Obj.cells #[Value.slice av xs.length cv] 36)).alloc (Obj.cells #[Value.slice none 0 0, Value.slice none 0 0] 83)).alloc (Obj.cells #[Value.slice av xs.length cv, Value.slice none 0 0] 83)).heap[w.heap.size + 1]? = some (.cells #[Value.slice none 0 0, Value.slice none 0 0] 83 (0, 0)) := by
      rw [heap_alloc_old _ _ (by simp)]
      exact heap_alloc2_new w _ _
    have hstart : RowRel base b ns cs (.slice av xs.length cv) xs C w (.int .i64 0) (((w.alloc (Obj.cells #[Value.slice av xs.length cv] 36)).alloc (Obj.cells #[Value.slice none 0 0, Value.slice none 0 0] 83)).alloc (Obj.cells #[Value.slice av xs.length cv, Value.slice none 0 0] 83)) :=
      ⟨0, [], [], .slice none 0 0, ns, cs, rfl, Nat.zero_le _, hr2, ⟨_, _, hr1⟩, Terms.nil, Ats.nil, World.ownsRow_nil _ _ _ _, Ext.refl _, Ext.refl _, by omega, by omega, hS.kept hb3, Fr.of_below hb3 hE.size⟩
    have HST := Lib.hid hstart
    have hBase := hE.size
    clear hxs hown hstart hr1 hr2 hb3 hS hE
    go_enter Tryd.func45, Tryd.ntmps45
    go_wp2
    go_loopw [22] (fun v wr => RowRel base b ns cs (.slice av xs.length cv) xs C w v wr) (fun v _ => (xs.length - (intOf v).toNat))
    case atStart => exact HST.out
    case round =>
      obtain ⟨k, is, ts, pv, ns1, cs1, rfl, hk, hrow, ⟨r0, r1, hres⟩, hts, hats, hownp, e1, e2, g1, g2, hS1, hF1⟩ := hrel
      by_cases hlt : k < xs.length
      · have hownv := hF1.ints (by decide) (by decide) (by decide) HO.out
        obtain ⟨g, cap, hgv, _, _⟩ := hownv.form (by omega)
        simp only [Value.slice.injEq, true_and] at hgv
        obtain ⟨rfl, rfl⟩ := hgv
        have hx0 : wr.cell? ⟨g, k, none⟩ = some (.string xs[k]) := by
          rw [hownv.cellAt k (by omega)]
          simp [strCells, hlt]
        have hxsz := HXS.out xs[k] (List.getElem_mem hlt)
        have hE1 := HE.out.stays hF1.below
        have hRd := read_any base b ns1 cs1 xs[k] (by omega) (C + 200 * k) wr hS1 hE1 (by omega) (by omega) (by omega) (by omega)
        have HRD := Lib.hid hRd
        have HTK : xs.take (k + 1) = xs.take k ++ [xs[k]] := List.take_succ_eq_append_getElem hlt
        have hmemx : xs[k] ∈ xs := List.getElem_mem hlt
        clear hRd hownv
        generalize xs[k] = x at *
        have HTKK := Lib.hid HTK
        have HMX := Lib.hid hmemx
        clear HTK hmemx
        go_wp2_with fail
        refine HRD.out.mono ?_
        rintro e w1 ⟨ns2, cs2, h1, h2, h3, h4, h5, h6', (⟨hr, rfl⟩ | ⟨t, i, hr, hat, rfl⟩)⟩
        · have hres1 := h6'.rows _ _ _ hres (by decide) (by decide) (by decide)
          have c0 : w1.cell? ⟨w.heap.size + 1, 0, none⟩ = some r0 := by rw [cell_of_row w1 _ 0 _ _ _ hres1]; rfl
          have c1 : w1.cell? ⟨w.heap.size + 1, 1, none⟩ = some r1 := by rw [cell_of_row w1 _ 1 _ _ _ hres1]; rfl
          have f0 : w1.frozen? ⟨w.heap.size + 1, 0, none⟩ = false := by simp [World.frozen?, hres1]
          have f1 : w1.frozen? ⟨w.heap.size + 1, 1, none⟩ = false := by simp [World.frozen?, hres1]
          have P : RowPost base b ns cs (.slice (some ⟨g, 0, none⟩) xs.length cv) xs C w (.returned (.tuple #[.agg #[.slice none 0 0, .slice none 0 0], .bool false])) ((w1.setCell ⟨w.heap.size + 1, 0, none⟩ (.slice none 0 0)).setCell ⟨w.heap.size + 1, 1, none⟩ (.slice none 0 0)) :=
            ⟨ns2, cs2, e1.trans h1, e2.trans h2, by omega, by omega, (h5.set hres1 (by decide) (by decide) (by decide) _ _).set (set_zero hres1 _) (by decide) (by decide) (by decide) _ _, ((hF1.trans h6').set (by omega) hBase _ _).set (by omega) hBase _ _, .inl ⟨fun hok => hok.2 x HMX.out hr, rfl⟩⟩
          have HP := Lib.hid P
          have HH := Lib.hid (set_two hres1 (.slice none 0 0) (.slice none 0 0))
          clear hrow hts hats hownp hS1 hF1 hr P hres hres1
          go_wp2
          refine bodyPost_ret (results_row_tmp rfl _ _ (w.heap.size + 1) 83 #[.slice none 0 0, .slice none 0 0] (0, 0) _ (by rfl) HH.out Tryd.underlying83 rfl infoR) rfl ?_
          exact HP.out
        · have hrow1 := h6'.rows _ _ _ hrow (by decide) (by decide) (by decide)
          have hownp1 := h6'.ints (by decide) (by decide) (by decide) hownp
          obtain ⟨pa, pc, rfl⟩ := owns_shape hownp
          have c1 : w1.cell? ⟨w.heap.size + 2, 1, none⟩ = some (.slice pa is.length pc) := by rw [cell_of_row w1 _ 1 _ _ _ hrow1]; rfl
          have hol := hownp1.alloc (.cells #[.int .i64 (i : Int)] 3)
          have hnb : ∀ j u, [Value.int .i64 (i : Int)][j]? = some u → (w1.alloc (.cells #[.int .i64 (i : Int)] 3)).cell? ((⟨w1.heap.size, 0, none⟩ : Addr).add j) = some u := World.news_of_block (cs := #[.int .i64 (i : Int)]) (t := 3) (fr := (0, 0)) (heap_alloc_new w1 _)
          have HOL := Lib.hid hol
          have HNB := Lib.hid hnb
          have hsz1 : w.heap.size ≤ w1.heap.size := (hF1.trans h6').below.size
          have hisl : is.length ≤ 6 := by
            have a1 := hats.1
            have a2 := hts.length
            rw [List.length_take] at a2
            omega
          clear hol hnb
          go_wp2_with (at_builtin; refine wpList_append_lies _ rfl (.tmp 36) (.tmp 38) 81 rfl w.heap.size 3 i0 (.int .i64 0) 1 8 Tryd.underlying81 hi hz0 hz1 hz2 rfl (by decide) (.slice pa is.length pc) is.length (intCells is) rfl HOL.out ⟨w1.heap.size, 0, none⟩ 1 1 [.int .i64 (i : Int)] rfl rfl HNB.out (by simp [Value.oneCell']) (by omega) (by unfold maxLen; omega) (by omega) (by simp; omega) _ rfl ?_)
          intro g2 cap2 w2 ho2 hg2 _ _
          have hres1 := h6'.rows _ _ _ hres (by decide) (by decide) (by decide)
          have hrow2 := other_block HOL.out hg2 ((heap_alloc_old w1 _ (lt_of_block hrow1)).trans hrow1) (by intro cur h; simp at h)
          have hres2 := other_block HOL.out hg2 ((heap_alloc_old w1 _ (lt_of_block hres1)).trans hres1) (by intro cur h; simp at h)
          have d1 : w2.cell? ⟨w.heap.size + 2, 1, none⟩ = some (.slice pa is.length pc) := by rw [cell_of_row w2 _ 1 _ _ _ hrow2]; rfl
          have q1 : w2.frozen? ⟨w.heap.size + 2, 1, none⟩ = false := by simp [World.frozen?, hrow2]
          have ho2' : w2.ownsRow w.heap.size 3 1 (.slice (some ⟨g2, 0, none⟩) (is.length + 1) cap2) (is ++ [i]).length (intCells (is ++ [i])) := by rw [List.length_append]; simp only [intCells, List.map_append]; exact ho2
          have R : RowRel base b ns cs (.slice (some ⟨g, 0, none⟩) xs.length cv) xs C w (.int .i64 ((k : Int) + 1)) (w2.setCell ⟨w.heap.size + 2, 1, none⟩ (.slice (some ⟨g2, 0, none⟩) (is.length + 1) cap2)) :=
            ⟨k + 1, is ++ [i], ts ++ [t], _, ns2, cs2, by go_num, by omega, set_one hrow2 _, ⟨_, _, (heap_setCell_other w2 ⟨w.heap.size + 2, 1, none⟩ _ _ (show w.heap.size + 1 ≠ w.heap.size + 2 by omega)).trans hres2⟩, by rw [HTKK.out]; exact hts.snoc hr, (hats.mono h1 h2).snoc hat,
              ho2'.kept (grown_set w2 _ _ _) (own_ne ho2' hrow2 (by decide)), e1.trans h1, e2.trans h2, by omega, by omega, (h5.grown hownp1 hg2).set hrow2 (by decide) (by decide) (by decide) _ _, ((hF1.trans h6').grown hg2 (own_ge hownp1) hBase).set (by omega) hBase _ _⟩
          have HR := Lib.hid R
          clear R ho2 ho2' hg2 hrow2 hres2 hres1 hres hrow hrow1 hownp hownp1 hts hats hS1 hF1 h6' h5 hat hr HOL HNB
          go_wp2
          go_roundw
          case rel => exact HR.out
          case measure => simp [intOf]; omega
      · obtain rfl : k = xs.length := by omega
        rw [List.take_length] at hts
        have c0 : wr.cell? ⟨w.heap.size + 2, 0, none⟩ = some (.slice av xs.length cv) := by rw [cell_of_row wr _ 0 _ _ _ hrow]; rfl
        have c1 : wr.cell? ⟨w.heap.size + 2, 1, none⟩ = some pv := by rw [cell_of_row wr _ 1 _ _ _ hrow]; rfl
        have c2 : wr.cell? ⟨w.heap.size + 1, 0, none⟩ = some r0 := by rw [cell_of_row wr _ 0 _ _ _ hres]; rfl
        have c3 : wr.cell? ⟨w.heap.size + 1, 1, none⟩ = some r1 := by rw [cell_of_row wr _ 1 _ _ _ hres]; rfl
        have f0 : wr.frozen? ⟨w.heap.size + 1, 0, none⟩ = false := by simp [World.frozen?, hres]
        have f1 : wr.frozen? ⟨w.heap.size + 1, 1, none⟩ = false := by simp [World.frozen?, hres]
        have hkept : ((wr.setCell ⟨w.heap.size + 1, 0, none⟩ (.slice av xs.length cv)).setCell ⟨w.heap.size + 1, 1, none⟩ pv).ownsRow w.heap.size 3 1 pv is.length (intCells is) := by
          have h1 := hownp.kept (grown_set wr (w.heap.size + 1) 0 (.slice av xs.length cv)) (own_ne hownp hres (by decide))
          exact h1.kept (grown_set _ (w.heap.size + 1) 1 pv) (own_ne h1 (set_zero hres _) (by decide))
        have P : RowPost base b ns cs (.slice av xs.length cv) xs C w (.returned (.tuple #[.agg #[.slice av xs.length cv, pv], .bool true])) ((wr.setCell ⟨w.heap.size + 1, 0, none⟩ (.slice av xs.length cv)).setCell ⟨w.heap.size + 1, 1, none⟩ pv) :=
          ⟨ns1, cs1, e1, e2, by omega, by omega, (hS1.set hres (by decide) (by decide) (by decide) _ _).set (set_zero hres _) (by decide) (by decide) (by decide) _ _, (hF1.set (by omega) hBase _ _).set (by omega) hBase _ _, .inr ⟨ts, is, pv, ⟨h6, hts.ok⟩, hts, hats, hkept, rfl⟩⟩
        have HP := Lib.hid P
        have HH := Lib.hid (set_two hres (.slice av xs.length cv) pv)
        obtain ⟨pa, pc, rfl⟩ := owns_shape hownp
        clear hrow hts hats hownp hS1 hF1 P hres hkept
        go_wp2
        refine bodyPost_ret (results_row_tmp rfl _ _ (w.heap.size + 1) 83 #[.slice av xs.length cv, .slice pa is.length pc] (0, 0) _ (by rfl) HH.out Tryd.underlying83 rfl infoR) rfl ?_
        exact HP.out
  · have hgt : decide ((6 : Int) < (xs.length : Int)) = true := decide_eq_true (by omega)
    have hgt' : decide (6 < xs.length) = true := decide_eq_true (by omega)
    have hb2 := ((Below.refl w.heap.size w).alloc (Nat.le_refl _) (Obj.cells #[Value.slice av xs.length cv] 36)).alloc (by simp) (Obj.cells #[Value.slice none 0 0, Value.slice none 0 0] 83)
    have P : RowPost base b ns cs (.slice av xs.length cv) xs C w (.returned (.tuple #[.agg #[.slice none 0 0, .slice none 0 0], .bool false])) ((w.alloc (Obj.cells #[Value.slice av xs.length cv] 36)).alloc (Obj.cells #[Value.slice none 0 0, Value.slice none 0 0] 83)) :=
      ⟨ns, cs, Ext.refl _, Ext.refl _, by omega, by omega, hS.kept hb2, Fr.of_below hb2 hE.size, .inl ⟨fun h => h6 h.1, rfl⟩⟩
    have HP := Lib.hid P
    have HH := Lib.hid (heap_alloc2_new w (Obj.cells #[Value.slice av xs.length cv] 36) (Obj.cells #[Value.slice none 0 0, Value.slice none 0 0] 83))
    clear P hb2 hS hE hown hxs
    go_enter Tryd.func45, Tryd.ntmps45
    go_wp2
    refine bodyPost_ret (results_row_tmp rfl _ _ (w.heap.size + 1) 83 #[.slice none 0 0, .slice none 0 0] (0, 0) _ (by rfl) HH.out Tryd.underlying83 rfl infoR) rfl ?_
    exact HP.out

set_option maxRecDepth 100000 in
set_option maxHeartbeats 2000000 in
theorem implTupleOk (B : Nat) (v : Value) (xs : List ByteArray) (w : World) (hE : Env w.heap.size w) (hown : w.ownsRow B 9 1 v xs.length (strCells xs)) (hx : xs.length ≤ 1048576) (hxs : ∀ x ∈ xs, x.size ≤ 1048576) :
    Calls Tryd.prog 19 #[.agg #[v]] w fun e w' => ∃ r : Bool, e = .returned (.bool r) ∧ (r = true ↔ TupOk xs) ∧ Below w.heap.size w w' := by
  obtain ⟨av, cv, rfl⟩ := owns_shape hown
  have HE := Lib.hid hE
  have HO := Lib.hid hown
  have HXS := Lib.hid hxs
  clear hE hown hxs
  have hb0 := (Below.refl w.heap.size w).alloc (Nat.le_refl _) (Obj.cells #[Value.slice av xs.length cv] 36)
  have hc0 : (w.alloc (Obj.cells #[Value.slice av xs.length cv] 36)).cell? ⟨w.heap.size, 0, none⟩ = some (.slice av xs.length cv) := by rw [cell_of_row _ _ _ _ _ _ (heap_alloc_new w _)]; rfl
  have HRD : ∀ (W w1 W2 : World) (b : Nat), Below w.heap.size w W → StoreAt w1 W.heap.size b [] [] → Below W.heap.size W w1 → Below w1.heap.size w1 W2 →
      Calls Tryd.prog 45 #[.pointer (some ⟨b, 0, none⟩), .agg #[.slice av xs.length cv]] W2 fun e w' => (∃ a0 l0 c0 a1 l1 c1 r, e = .returned (.tuple #[.agg #[.slice a0 l0 c0, .slice a1 l1 c1], .bool r]) ∧ (r = true ↔ TupOk xs)) ∧ Below w.heap.size w w' ∧
        ∀ (k : Nat) (cs : Array Value) (t : TypeId), W2.heap[k]? = some (.cells cs t (0, 0)) → t ≠ 63 → t ≠ 129 → t ≠ 69 → w'.heap[k]? = some (.cells cs t (0, 0)) := fun W w1 W2 b h1 h2 h3 h4 => by
    have hb2 := h1.trans (h3.mono h1.size)
    have hb3 := hb2.trans (h4.mono hb2.size)
    have hE2 : Env W.heap.size W2 := ((HE.out.stays h1).top.stays h3).stays (h4.mono h3.size)
    refine (readRow_any W.heap.size b [] [] B _ xs 200 W2 (h2.kept h4) hE2 (by simp) (by simp) (by omega) (by omega) (row_kept HO.out hb3) hx HXS.out).mono ?_
    rintro e w' ⟨ns', cs', _, _, _, _, _, hF, hcase⟩
    refine ⟨?_, hb3.trans (hF.below.mono h1.size), hF.rows⟩
    rcases hcase with ⟨h, rfl⟩ | ⟨ts, is, pv, h, _, _, hpv, rfl⟩
    · exact ⟨_, _, _, _, _, _, false, rfl, fun h' => (by cases h'), fun h' => absurd h' h⟩
    · obtain ⟨pa, pc, rfl⟩ := owns_shape hpv
      exact ⟨_, _, _, _, _, _, true, rfl, fun _ => h, fun _ => rfl⟩
  have HRDD := Lib.hid HRD
  clear HRD HO HXS
  go_enter Tryd.func19, Tryd.ntmps19
  go_wp2_with fail
  go_region_held3 (fun w' => w'.cell? ⟨w.heap.size, 0, none⟩ = some (.slice av xs.length cv) ∧ Below w.heap.size w w') (first
      | exact ⟨by assumption, by assumption⟩
      | (refine ⟨?_, ?_⟩; (first
           | assumption
           | (refine cell_keep_alloc ?_ _; assumption)
           | exact cell_keep_alloc hc0 _
           | (refine cell_keep_set (cell_keep_set (b := w.heap.size) ?_ ?_ _ _) ?_ _ _; (first | assumption | (refine cell_keep_alloc ?_ _; assumption)); omega; omega)
           | (refine cell_keep_set (cell_keep_set (b := w.heap.size) ?_ ?_ _ _) ?_ _ _; (first | assumption | (refine cell_keep_alloc ?_ _; assumption)); exact Nat.ne_of_lt (cell_lt hs4); exact Nat.ne_of_lt (cell_lt hs4))
           | (refine cell_keep_set (cell_keep_set (b := w.heap.size) ?_ ?_ _ _) ?_ _ _; (first | assumption | (refine cell_keep_alloc ?_ _; assumption)); exact Nat.ne_of_lt (cell_lt hs2); exact Nat.ne_of_lt (cell_lt hs2))); (first
           | assumption
           | (refine below_alloc ?_ _; assumption)
           | exact (below_alloc hb0 _).drew
           | (refine Below.drew ?_; assumption)
           | (refine below_alloc (Below.drew ?_) _; assumption)
           | (refine below_set (below_set ?_ _ _ ?_) _ _ ?_; (first | assumption | (refine below_alloc ?_ _; assumption)); omega; omega)
           | (refine below_set (below_set ?_ _ _ ?_) _ _ ?_; (first | assumption | (refine below_alloc ?_ _; assumption)); exact hs3.size; exact hs3.size)
           | (refine below_set (below_set ?_ _ _ ?_) _ _ ?_; (first | assumption | (refine below_alloc ?_ _; assumption)); exact hs1.size; exact hs1.size))))
    (first
      | (go_at_call 32
         refine (newTermStore_any _).mono ?_
         rintro e w1 ⟨b, rfl, hS1, hb1⟩
         have HR1 := Lib.hid (fun W2 h4 => HRDD.out _ w1 W2 b (by first | exact hb0.drew | exact (below_alloc hb0 _).drew | exact below_alloc hb0.drew _ | exact (below_alloc hb0.drew _).drew) hS1 hb1 h4)
         have hs1 : Below w.heap.size w w1 := below_step (by first | exact hb0.drew | exact (below_alloc hb0 _).drew | exact below_alloc hb0.drew _ | exact (below_alloc hb0.drew _).drew) hb1
         have ks : w1.heap[w.heap.size]? = some (.cells #[.slice av xs.length cv] 36 (0, 0)) := (hb1.block _ (by first | (simp; done) | (simp; omega))).trans (by first | exact heap_alloc_new w _ | (exact (heap_alloc_old (w.alloc _) _ (by simp)).trans (heap_alloc_new w _)))
         have hs2 : w1.cell? ⟨w.heap.size, 0, none⟩ = some (.slice av xs.length cv) := by rw [cell_of_row w1 _ 0 _ _ _ ks]; rfl
         first
           | (have kbox : w1.heap[w.heap.size + 1]? = some (.cells #[.slice none 0 0, .slice none 0 0] 83 (0, 0)) := (hb1.block _ (by simp)).trans (heap_alloc2_new w _ _))
           | skip
         clear hS1 hb1)
      | (go_at_call 45
         refine (HR1.out _ (by first | exact Below.refl _ _ | exact (Below.refl _ _).drew | exact (Below.refl _ _).alloc (Nat.le_refl _) _ | exact ((Below.refl _ _).alloc (Nat.le_refl _) _).drew)).mono ?_
         rintro e w3 ⟨⟨a0, l0, c0, a1, l1, c1, r, rfl, hr⟩, hs3, hrows⟩
         have ks3 : w3.heap[w.heap.size]? = some (.cells #[.slice av xs.length cv] 36 (0, 0)) := hrows _ _ _ (by first | exact ks | exact (heap_alloc_old w1 _ (lt_of_block ks)).trans ks) (by decide) (by decide) (by decide)
         have hs4 : w3.cell? ⟨w.heap.size, 0, none⟩ = some (.slice av xs.length cv) := by rw [cell_of_row w3 _ 0 _ _ _ ks3]; rfl
         first
           | (have kb3 := hrows _ _ _ kbox (by decide) (by decide) (by decide)
              have d0 : w3.cell? ⟨w.heap.size + 1, 0, none⟩ = some (.slice none 0 0) := by rw [cell_of_row w3 _ 0 _ _ _ kb3]; rfl
              have d1 : w3.cell? ⟨w.heap.size + 1, 1, none⟩ = some (.slice none 0 0) := by rw [cell_of_row w3 _ 1 _ _ _ kb3]; rfl
              have q0 : w3.frozen? ⟨w.heap.size + 1, 0, none⟩ = false := by simp [World.frozen?, kb3]
              have q1 : w3.frozen? ⟨w.heap.size + 1, 1, none⟩ = false := by simp [World.frozen?, kb3])
           | (have kb3 := hrows w1.heap.size #[.slice none 0 0, .slice none 0 0] 83 (heap_alloc_new w1 _) (by decide) (by decide) (by decide)
              have d0 : w3.cell? ⟨w1.heap.size, 0, none⟩ = some (.slice none 0 0) := by rw [cell_of_row w3 _ 0 _ _ _ kb3]; rfl
              have d1 : w3.cell? ⟨w1.heap.size, 1, none⟩ = some (.slice none 0 0) := by rw [cell_of_row w3 _ 1 _ _ _ kb3]; rfl
              have q0 : w3.frozen? ⟨w1.heap.size, 0, none⟩ = false := by simp [World.frozen?, kb3]
              have q1 : w3.frozen? ⟨w1.heap.size, 1, none⟩ = false := by simp [World.frozen?, kb3])
           | skip
         have HRR := Lib.hid hr
         clear hrows hr))
  all_goals go_wp2
  all_goals go_ret
  · exact ⟨r, rfl, HRR.out, below_alloc hs3 _⟩
  · exact ⟨r, rfl, HRR.out, below_set (below_set hs3 _ _ hs1.size) _ _ hs1.size⟩
  · exact ⟨r, rfl, HRR.out, below_set (below_set hs3 _ _ (by omega)) _ _ (by omega)⟩

/-- What the loop of spec.TupleOk holds. -/
def TupRel (w : World) (v : Value) (xs : List ByteArray) (vk : Value) (wr : World) : Prop :=
  ∃ k : Nat, vk = .int .i64 (k : Int) ∧ k ≤ xs.length ∧ (∀ j (h : j < xs.length), j < k → iKind (lst xs[j]) ≠ 0) ∧ wr.heap[w.heap.size]? = some (.cells #[v] 36 (0, 0)) ∧ Below w.heap.size w wr

set_option maxRecDepth 100000 in
set_option maxHeartbeats 2000000 in
theorem specTupleOk (B : Nat) (v : Value) (xs : List ByteArray) (w : World) (hown : w.ownsRow B 9 1 v xs.length (strCells xs)) (hx : xs.length ≤ 1048576) (hxs : ∀ x ∈ xs, x.size ≤ 1048576) :
    Calls Tryd.prog 17 #[.agg #[v]] w fun e w' => ∃ r : Bool, e = .returned (.bool r) ∧ (r = true ↔ TupOk xs) ∧ Below w.heap.size w w' := by
  obtain ⟨av, cv, rfl⟩ := owns_shape hown
  have HO := Lib.hid hown
  have HXS := Lib.hid hxs
  clear hown hxs
  by_cases h6 : xs.length ≤ 6
  · have hgt : decide ((6 : Int) < (xs.length : Int)) = false := decide_eq_false (by omega)
    have hgt' : decide (6 < xs.length) = false := decide_eq_false (by omega)
    have hb0 := (Below.refl w.heap.size w).alloc (Nat.le_refl _) (Obj.cells #[Value.slice av xs.length cv] 36)
    have hbox : (w.alloc (Obj.cells #[Value.slice av xs.length cv] 36)).heap[w.heap.size]? = some (.cells #[Value.slice av xs.length cv] 36 (0, 0)) := heap_alloc_new w _
    go_enter Tryd.func17, Tryd.ntmps17
    go_wp2
    go_loopw [3] (fun v wr => TupRel w (.slice av xs.length cv) xs v wr) (fun v _ => (xs.length - (intOf v).toNat))
    case atStart => exact ⟨0, rfl, Nat.zero_le _, fun j h a => by omega, hbox, hb0⟩
    case round =>
      obtain ⟨k, rfl, hk, hall, hbx, hb⟩ := hrel
      have HALL := Lib.hid hall
      have hbc : wr.cell? ⟨w.heap.size, 0, none⟩ = some (.slice av xs.length cv) := by rw [cell_of_row wr _ 0 _ _ _ hbx]; rfl
      clear hall hb0 hbox
      by_cases hlt : k < xs.length
      · have hown := row_kept HO.out hb
        obtain ⟨g, cap, hgv, hbg, hgl⟩ := hown.form (by omega)
        simp only [Value.slice.injEq, true_and] at hgv
        obtain ⟨rfl, rfl⟩ := hgv
        have hx0 : wr.cell? ⟨g, k, none⟩ = some (.string xs[k]) := by
          rw [hown.cellAt k (by omega)]
          simp [strCells, hlt]
        have hxsz := HXS.out xs[k] (List.getElem_mem hlt)
        have HMX := Lib.hid (List.getElem_mem hlt)
        have Z1 : ∀ w3 : World, iKind (lst xs[k]) ≠ 0 → Below wr.heap.size wr w3 → TupRel w (.slice (some ⟨g, 0, none⟩) xs.length cv) xs (.int .i64 ((k : Int) + 1)) w3 := fun w3 hz hb3 =>
          ⟨k + 1, by go_num, by omega, fun j h a => by
            by_cases hj : j < k
            · exact HALL.out j h hj
            · obtain rfl : j = k := by omega
              exact hz, (hb3.block _ (lt_of_block hbx)).trans hbx, hb.trans (hb3.mono hb.size)⟩
        have HZ1 := Lib.hid Z1
        clear Z1 hown hbx
        generalize xs[k] = x at *
        go_wp2_with fail
        refine (specTermKind x (by omega) _).mono ?_
        rintro e w3 ⟨rfl, hb3⟩
        by_cases hz : iKind (lst x) = 0
        · have hbb := hb.trans (hb3.mono hb.size)
          have HNO := Lib.hid (show ¬ TupOk xs from fun h => h.2 x HMX.out (kind_zero.1 hz))
          rw [hz]
          clear hz HZ1 hb3 hb
          go_wp2
          go_ret
          exact ⟨false, rfl, ⟨fun h => (by cases h), fun h => absurd h HNO.out⟩, hbb⟩
        · have HR := Lib.hid (HZ1.out w3 hz hb3)
          have hzb : (iKind (lst x) == 0) = false := beq_eq_false_iff_ne.2 hz
          clear hz HZ1 hb3 hb
          generalize iKind (lst x) = y at *
          go_wp2
          go_roundw
          case rel => exact HR.out
          case measure => simp [intOf]; omega
      · have hlt2 : decide ((k : Int) < (xs.length : Int)) = false := decide_eq_false (by omega)
        have HYES := Lib.hid (show TupOk xs from ⟨h6, fun x hx => by
          obtain ⟨j, hj, rfl⟩ := List.getElem_of_mem hx
          exact fun e => HALL.out j hj (by omega) (kind_zero.2 e)⟩)
        clear hbx
        go_wp2
        go_ret
        exact ⟨true, rfl, ⟨fun _ => HYES.out, fun _ => rfl⟩, hb⟩
  · have hgt : decide ((6 : Int) < (xs.length : Int)) = true := decide_eq_true (by omega)
    have hgt' : decide (6 < xs.length) = true := decide_eq_true (by omega)
    go_enter Tryd.func17, Tryd.ntmps17
    go_wp2
    go_ret
    exact ⟨false, rfl, ⟨fun h => (by cases h), fun h => absurd h.1 h6⟩, (Below.refl _ _).alloc (Nat.le_refl _) _⟩

set_option maxRecDepth 100000 in
set_option maxHeartbeats 2000000 in
theorem szTuple_any (a : Option Addr) (cap : Nat) (xs : List ByteArray) (w : World) (hrow : StrsAt w a xs) (hn : xs.length ≤ 9223372036854775807) (hs : ∀ x ∈ xs, x.size ≤ 9223372036854775807) :
    Calls Tryd.prog 16 #[.agg #[.slice a xs.length cap], .int .i64 1048576] w fun e w' => (∃ r : Int, e = .returned (.int .i64 r) ∧ (r < 0 ∨ (0 ≤ r ∧ tot xs + xs.length ≤ 1048576))) ∧ Below w.heap.size w w' := by
  have HZ := Lib.hid (fun (W : World) (hW : Below w.heap.size w W) => szStringS_any a cap xs W (hrow.kept hW) hn hs)
  clear hrow hs
  have hb0 := (Below.refl w.heap.size w).alloc (Nat.le_refl _) (Obj.cells #[Value.slice a xs.length cap] 33)
  go_enter Tryd.func16, Tryd.ntmps16
  go_wp2_with fail
  refine (HZ.out _ hb0).mono ?_
  rintro e w1 ⟨⟨r, rfl, hr⟩, hb1⟩
  have hb := hb0.trans (hb1.mono hb0.size)
  clear HZ hb0 hb1
  by_cases hneg : r < 0
  · have hd : decide (r < 0) = true := decide_eq_true hneg
    clear hr
    go_wp2
    go_ret
    exact ⟨⟨-1, rfl, .inl (by omega)⟩, hb⟩
  · have hd : decide (r < 0) = false := decide_eq_false hneg
    have HR := Lib.hid hr
    clear hr
    go_wp2
    go_ret
    exact ⟨⟨r, rfl, HR.out⟩, hb⟩

set_option maxRecDepth 100000 in
set_option maxHeartbeats 2000000 in
theorem toTuple_any (a : Option Addr) (cap : Nat) (xs : List ByteArray) (w : World) (hrow : StrsAt w a xs) (hn : xs.length ≤ 1048576) :
    Calls Tryd.prog 18 #[.agg #[.slice a xs.length cap]] w fun e w' => ∃ v : Value, e = .returned (.agg #[v]) ∧ w'.ownsRow w.heap.size 9 1 v xs.length (strCells xs) ∧ Below w.heap.size w w' := by
  have HZ := Lib.hid (fun (W : World) (hW : Below w.heap.size w W) => toStringS_any a cap xs W (hrow.kept hW) hn)
  clear hrow
  have hb0 := (((Below.refl w.heap.size w).alloc (Nat.le_refl _) (Obj.cells #[Value.slice a xs.length cap] 33)).alloc (by simp) (Obj.cells #[Value.slice none 0 0] 36)).alloc (by simp; omega) (Obj.cells #[Value.slice none 0 0] 36)
  have hs0 : (((w.alloc (Obj.cells #[Value.slice a xs.length cap] 33)).alloc (Obj.cells #[Value.slice none 0 0] 36)).alloc (Obj.cells #[Value.slice none 0 0] 36)).heap.size = w.heap.size + 3 := by simp
  have hr1 : (((w.alloc (Obj.cells #[Value.slice a xs.length cap] 33)).alloc (Obj.cells #[Value.slice none 0 0] 36)).alloc (Obj.cells #[Value.slice none 0 0] 36)).heap[w.heap.size + 1]? = some (.cells #[Value.slice none 0 0] 36 (0, 0)) := by
    rw [heap_alloc_old _ _ (by simp)]
    exact heap_alloc2_new w _ _
  have hr2 : (((w.alloc (Obj.cells #[Value.slice a xs.length cap] 33)).alloc (Obj.cells #[Value.slice none 0 0] 36)).alloc (Obj.cells #[Value.slice none 0 0] 36)).heap[w.heap.size + 2]? = some (.cells #[Value.slice none 0 0] 36 (0, 0)) := by
    have := heap_alloc_new ((w.alloc (Obj.cells #[Value.slice a xs.length cap] 33)).alloc (Obj.cells #[Value.slice none 0 0] 36)) (Obj.cells #[Value.slice none 0 0] 36)
    simpa using this
  have HT := Lib.hid (HZ.out _ hb0)
  go_enter Tryd.func18, Tryd.ntmps18
  go_wp2_with fail
  refine HT.out.mono ?_
  rintro e w1 ⟨v, rfl, hown, hb1⟩
  have k1 := (hb1.block _ (by omega)).trans hr1
  have k2 := (hb1.block _ (by omega)).trans hr2
  have hown' := owns_mono (base' := w.heap.size) (by omega) hown
  have hb := hb0.trans (hb1.mono hb0.size)
  clear HZ HT hb0 hb1 hr1 hr2 hown hs0
  have c1 : w1.cell? ⟨w.heap.size + 1, 0, none⟩ = some (.slice none 0 0) := by rw [cell_of_row w1 _ 0 _ _ _ k1]; rfl
  have c2 : w1.cell? ⟨w.heap.size + 2, 0, none⟩ = some (.slice none 0 0) := by rw [cell_of_row w1 _ 0 _ _ _ k2]; rfl
  have f1 : w1.frozen? ⟨w.heap.size + 1, 0, none⟩ = false := by simp [World.frozen?, k1]
  have f2 : w1.frozen? ⟨w.heap.size + 2, 0, none⟩ = false := by simp [World.frozen?, k2]
  have HK1 := Lib.hid k1
  have HK2 := Lib.hid k2
  have HO := Lib.hid hown'
  obtain ⟨va, vc, rfl⟩ := owns_shape hown'
  clear k1 k2 hown'
  have hfin : ((w1.setCell ⟨w.heap.size + 2, 0, none⟩ (.slice va xs.length vc)).setCell ⟨w.heap.size + 1, 0, none⟩ (.slice va xs.length vc)).heap[w.heap.size + 1]? = some (.cells #[.slice va xs.length vc] 36 (0, 0)) := by
    have h1 := (heap_setCell_other w1 ⟨w.heap.size + 2, 0, none⟩ _ (.slice va xs.length vc) (show w.heap.size + 1 ≠ w.heap.size + 2 by omega)).trans HK1.out
    rw [heap_setCell_same _ _ 0 _ _ (.slice va xs.length vc) h1]
    rfl
  have ho1 := HO.out.kept (grown_set w1 (w.heap.size + 2) 0 (.slice va xs.length vc)) (own_ne HO.out HK2.out (by decide))
  have ho2 := ho1.kept (grown_set _ (w.heap.size + 1) 0 (.slice va xs.length vc)) (own_ne ho1 ((heap_setCell_other w1 ⟨w.heap.size + 2, 0, none⟩ _ (.slice va xs.length vc) (show w.heap.size + 1 ≠ w.heap.size + 2 by omega)).trans HK1.out) (by decide))
  have hbf := (hb.setCell (p := ⟨w.heap.size + 2, 0, none⟩) (show w.heap.size ≤ w.heap.size + 2 by omega) (.slice va xs.length vc)).setCell (p := ⟨w.heap.size + 1, 0, none⟩) (show w.heap.size ≤ w.heap.size + 1 by omega) (.slice va xs.length vc)
  have HFIN := Lib.hid hfin
  have HO2 := Lib.hid ho2
  have HBF := Lib.hid hbf
  clear hfin ho1 ho2 hbf hb
  go_wp2
  refine bodyPost_ret (results_cell_row rfl _ _ (w.heap.size + 1) 36 #[.slice va xs.length vc] (0, 0) _ (by rfl) HFIN.out Tryd.underlying36 rfl infoT) rfl ?_
  exact ⟨_, rfl, HO2.out, HBF.out⟩

set_option maxRecDepth 100000 in
set_option maxHeartbeats 2000000 in
theorem eqTuple_any (xs : List ByteArray) (b1 b2 : Nat) (u v : Value) (w : World) (hu : w.ownsRow b1 9 1 u xs.length (strCells xs)) (hv : w.ownsRow b2 9 1 v xs.length (strCells xs)) (hn : xs.length ≤ 2000000) :
    Calls Tryd.prog 20 #[.agg #[u], .agg #[v]] w fun e w' => e = .returned (.bool true) ∧ Below w.heap.size w w' := by
  obtain ⟨ua, uc, rfl⟩ := owns_shape hu
  obtain ⟨va, vc, rfl⟩ := owns_shape hv
  have HZ := Lib.hid (fun (W : World) (hW : Below w.heap.size w W) => eqStringS_any xs b1 b2 _ _ W (row_kept hu hW) (row_kept hv hW) hn)
  clear hu hv
  have hb0 := ((Below.refl w.heap.size w).alloc (Nat.le_refl _) (Obj.cells #[Value.slice ua xs.length uc] 36)).alloc (by simp) (Obj.cells #[Value.slice va xs.length vc] 36)
  go_enter Tryd.func20, Tryd.ntmps20
  go_wp2_with fail
  refine (HZ.out _ hb0).mono ?_
  rintro e w1 ⟨rfl, hb1⟩
  have hb := hb0.trans (hb1.mono hb0.size)
  clear HZ hb0 hb1
  go_wp2
  go_ret
  exact ⟨rfl, hb⟩

end Go.Proofs.YtkhliflgflhheaaDoor
