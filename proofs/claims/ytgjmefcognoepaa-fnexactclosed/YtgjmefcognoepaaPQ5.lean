/-
  GRAPHS AS TABLES, one behind the other in a row: cells of 38. Two of them compared; one more at the end.
-/
import Derived.Test.YtgjmefcognoepaaPQ2
import Derived.Test.YtgjmefcognoepaaPA6
import Derived.Great.BuildSlice
namespace Go.Proofs.Ytgjmefcognoepaa.Pr
open Go Go.RowKit Go.Maps Go.WideMaps

/-- The cells of a list of graphs, each with its table. -/
def agCells (ys : List (Gr × List Int)) : List Value := ys.flatMap fun p => gcells p.1.f p.1.t p.2
def AgOk (ys : List (Gr × List Int)) : Prop := ∀ p ∈ ys, Tab p.2 p.1.rs ∧ RightA p.1.rs
theorem agCells_len : ∀ ys : List (Gr × List Int), AgOk ys → (agCells ys).length = ys.length * 38
  | [], _ => rfl
  | p :: r, h => by
    have := agCells_len r (fun q hq => h q (List.mem_cons_of_mem _ hq))
    have h2 := gcells_len (f := p.1.f) (t := p.1.t) (h p (by simp)).1.len
    simp only [agCells, List.flatMap_cons, List.length_append, List.length_cons] at this ⊢
    omega
theorem agCells_snoc (ys : List (Gr × List Int)) (p : Gr × List Int) : agCells (ys ++ [p]) = agCells ys ++ gcells p.1.f p.1.t p.2 := by simp [agCells]
theorem agCells_get : ∀ (ys : List (Gr × List Int)) (_ : AgOk ys) (i : Nat) (h : i < ys.length) (j : Nat) (_ : j < 38), (agCells ys)[i * 38 + j]? = (gcells ys[i].1.f ys[i].1.t ys[i].2)[j]?
  | [], _, i, h, _, _ => by simp at h
  | p :: r, hA, i, h, j, hj => by
    have h2 := gcells_len (f := p.1.f) (t := p.1.t) (hA p (by simp)).1.len
    cases i with
    | zero =>
      simp only [agCells, List.flatMap_cons, Nat.zero_mul, Nat.zero_add, List.getElem_cons_zero]
      rw [List.getElem?_append_left (by omega)]
    | succ n =>
      have := agCells_get r (fun q hq => hA q (List.mem_cons_of_mem _ hq)) n (by simpa using h) j hj
      simp only [agCells, List.flatMap_cons, List.getElem_cons_succ] at this ⊢
      rw [List.getElem?_append_right (by omega), h2, show (n + 1) * 38 + j - 38 = n * 38 + j by omega]
      exact this
theorem gcells_cell1 {f t : Int} {L : List Int} : ∀ u ∈ gcells f t L, u.oneCell' = true := fun u hu => by
  unfold gcells at hu
  simp only [List.mem_cons, List.mem_map] at hu
  rcases hu with rfl | rfl | ⟨_, _, rfl⟩ <;> rfl
theorem AgOk.snoc {ys : List (Gr × List Int)} (h : AgOk ys) {g : Gr} {L : List Int} (hT : Tab L g.rs) (hR : RightA g.rs) : AgOk (ys ++ [(g, L)]) := fun p hp => by
  rcases List.mem_append.1 hp with hp | hp
  · exact h p hp
  · rw [List.mem_singleton.1 hp]; exact ⟨hT, hR⟩
/-- Where the i-th lies. -/
theorem ag_at {B : Nat} {w : World} {a : Option Addr} {n c : Nat} {ys : List (Gr × List Int)} (hA : AgOk ys) (h : w.ownsRow B 49 38 (.slice a n c) ys.length (agCells ys)) {i : Nat} (hi : i < ys.length) :
    ∃ b, a = some ⟨b, 0, none⟩ ∧ B ≤ b ∧ b < w.heap.size ∧ w.rangeAt b (i * 38) (gcells ys[i].1.f ys[i].1.t ys[i].2) := by
  obtain ⟨b, c', hv, h1, h2⟩ := h.form (by omega)
  have hl := agCells_len ys hA
  have hg := gcells_len (f := ys[i].1.f) (t := ys[i].1.t) (hA _ (List.getElem_mem hi)).1.len
  have hn : n = ys.length := by
    simp only [Value.slice.injEq] at hv
    exact hv.2.1
  subst hn
  simp only [Value.slice.injEq, true_and] at hv
  obtain ⟨rfl, rfl⟩ := hv
  refine ⟨b, rfl, h1, h2, fun j v hv => ?_⟩
  have hj : j < 38 := by have := (List.getElem?_eq_some_iff.1 hv).1; omega
  rw [h.cellAt (i * 38 + j) (by omega), agCells_get ys hA i hi j hj]
  exact hv

theorem stoodAG : Try.prog.stoodInHeld 49 = false := by kernel_rfl
theorem fieldsAG : ((Try.prog.fieldsOf 49).toList.map fun f => (f.type, f.offset, decide (f.name = "_"))) = [(3, 0, false), (3, 1, false), (47, 2, false)] := by kernel_rfl
theorem underAG : Try.prog.underlying 49 = some (.struct (Try.prog.fieldsOf 49)) := by kernel_rfl
theorem part_tab {f t : Int} {L : List Int} (hL : L.length = 36) (w : World) : (part 47 (gcells f t L).toArray 2).run Try.prog w = .ok (.agg (tcells L).toArray) w := by
  have h := run_field_tab (f := f) (t := t) hL w
  have he : (gcells f t L).toArray.extract 2 38 = (tcells L).toArray := by
    apply Array.ext_getElem?
    intro i
    rw [Array.getElem?_extract, List.getElem?_toArray, List.getElem?_toArray, List.size_toArray, gcells_len hL]
    by_cases hi : i < 36
    · rw [if_pos (by omega), gcells_at hL hi, tcells_at hL hi]
    · rw [if_neg (by omega)]
      symm
      rw [List.getElem?_eq_none_iff]
      simp [tcells]
      omega
  have he2 := congrArg Array.toList he
  simp [Sem.run_bind, run_sizeOf_is infoTab, part, run_isAgg Try.underlying47]
  simpa using he2
theorem part_int {f t : Int} {L : List Int} {o : Nat} {v : Int} (hv : (gcells f t L)[o]? = some (.int .i64 v)) (w : World) : (part 3 (gcells f t L).toArray o).run Try.prog w = .ok (.int .i64 v) w := by
  simp [part, Sem.run_bind, run_isAgg Try.underlying3, hv]
theorem run_eq_ag {f t f' t' : Int} {A B : List Int} (hA : A.length = 36) (hB : B.length = 36) (d : Nat) (w : World) : (Op.equalIn (d + 5) 49 (.agg (gcells f t A).toArray) (.agg (gcells f' t' B).toArray)).run Try.prog w = .ok (decide (f = f' ∧ t = t' ∧ A = B)) w := by
  rw [run_equalIn_struct w (d + 4) _ _ _ underAG stoodAG]
  have hf := fieldsAG
  obtain ⟨fs, hfs⟩ : ∃ fs, (Try.prog.fieldsOf 49).toList = fs := ⟨_, rfl⟩
  rw [hfs] at hf ⊢
  match fs, hf with
  | [a, b, c], hf =>
    simp only [List.map_cons, List.map_nil, List.cons.injEq, Prod.mk.injEq, decide_eq_false_iff_not, and_true] at hf
    obtain ⟨⟨h1, h2, h3⟩, ⟨h4, h5, h6⟩, h7, h8, h9⟩ := hf
    have p0 := part_int (L := A) (o := 0) (v := f) (f := f) (t := t) rfl w
    have p1 := part_int (L := A) (o := 1) (v := t) (f := f) (t := t) rfl w
    have r0 := part_int (L := B) (o := 0) (v := f') (f := f') (t := t') rfl w
    have r1 := part_int (L := B) (o := 1) (v := t') (f := f') (t := t') rfl w
    have p2 := part_tab (f := f) (t := t) hA w
    have r2 := part_tab (f := f') (t := t') hB w
    have e2 := run_eq_tab hA hB (d + 1) w
    have e0 := run_equalIn_int (P := Try.prog) w (d + 3) 3 .i64 _ f f' Try.underlying3
    have e1 := run_equalIn_int (P := Try.prog) w (d + 3) 3 .i64 _ t t' Try.underlying3
    simp only [Op.eqFields, ne_eq, h3, h6, h9, not_false_eq_true, if_true, h1, h2, h4, h5, h7, h8, Sem.run_bind, p0, r0, e0, Result.andThen_ok]
    by_cases hff : f = f'
    · subst hff
      by_cases htt : t = t'
      · subst htt
        by_cases hAB : A = B
        · subst hAB
          simp [Sem.run_bind, p1, e1, p2, e2]
        · simp [Sem.run_bind, p1, r1, e1, p2, r2, e2, hAB]
      · simp [Sem.run_bind, p1, r1, e1, htt]
    · simp [hff]

theorem infoAG : (Try.prog.info? 49).map (fun i => (i.zero.map fun z => z.cells.size, i.size, i.bytes)) = some (some 38, 38, 56) := by kernel_rfl
/-- What stood in the row ahead of what is put behind it stands there still. -/
theorem append_keeps {P : Program} (w : World) (t ty e : TypeId) (i : TypeInfo) (z : Value) (ht : P.underlying t = some (.slice e)) (hi : P.info? e = some i) (hz : i.zero = some z)
    (B b n c : Nat) (xs : List Value) (hown : w.ownsRow B e i.size (.slice (some ⟨b, 0, none⟩) n c) n xs) (ad : Addr) (m cc : Nat) (news : List Value) (hl : news.length = m * i.size) (hnews : ∀ j u, news[j]? = some u → w.cell? (ad.add j) = some u) (h1 : ∀ u ∈ news, u.oneCell' = true)
    (h63 : n + m ≤ 9223372036854775807) (hfit : (n + m) * i.bytes ≤ 140737488355328) (_hm : 0 < m) {v' : Value} {w' : World} (hr : (Builtin.append_ #[t, t] ty #[.slice (some ⟨b, 0, none⟩) n c, .slice (some ad) m cc]).run P w = .ok v' w') :
    ∀ j, j < n * i.size → w'.cell? ⟨b, j, none⟩ = w.cell? ⟨b, j, none⟩ := by
  intro j hj
  rcases hown.2 with ⟨h, _⟩ | ⟨g, cap, cur, hv, hbg, hg, hnc, hcm, hcs, htake⟩
  · cases h
  simp only [Value.slice.injEq, Option.some.injEq, Addr.mk.injEq, true_and, and_true] at hv
  obtain ⟨rfl, rfl⟩ := hv
  by_cases hroom : n + m ≤ c
  · have hf2 : n * i.size + news.length ≤ cur.size := by rw [hl, hcs, ← Nat.add_mul]; exact Nat.mul_le_mul_right _ hroom
    have hr2 := run_append_room (P := P) w t ty e i ht hi b n c cur hg ad m cc news hl hnews h1 hroom hf2
    rw [hr2] at hr
    injection hr with _ hw
    subst hw
    rw [cell_of_row _ b j _ _ _ (setRow_heap w b cur _ e _ hg), cell_of_row _ b j _ _ _ hg, List.getElem?_toArray, List.append_assoc, List.getElem?_append_left (by rw [List.length_take, Array.length_toList]; omega), List.getElem?_take_of_lt hj, Array.getElem?_toList]
  · have holds : ∀ j u, xs[j]? = some u → w.cell? ((⟨b, 0, none⟩ : Addr).add j) = some u := hown.cells (g := b) rfl
    have hr2 := run_append_grow (P := P) w t ty e i z ht hi hz ⟨b, 0, none⟩ n c xs hown.1 holds ad m cc news hl hnews (by omega) (by omega) (growslice_fits (by omega) hfit)
    rw [hr2] at hr
    injection hr with _ hw
    subst hw
    unfold World.cell?
    rw [show (⟨b, j, none⟩ : Addr).block = b from rfl, heap_alloc_old w.drew _ (lt_of_block hg)]
    rfl

theorem fill_ag (cells : Array Value) (hc : cells.size = 38) (vs : List Value) (h : vs.length = 38) : Instr.fill (fun i => some (i * 38, 38)) cells [(0, .agg vs.toArray)] = some vs.toArray := by
  obtain ⟨r, hr, hsz, hk⟩ := Great.fill_dense (s := 38) (by omega) [.agg vs.toArray] 0 cells (fun v hv => by rw [List.mem_singleton.1 hv]; simpa [Value.cells] using h) (by simp [hc])
  simp only [List.zipIdx_cons, List.zipIdx_nil, List.map_cons, List.map_nil] at hr
  rw [hr]
  congr 1
  apply Array.ext_getElem?
  intro k
  rw [hk k]
  by_cases h38 : k < 38
  · rw [if_pos (by simp; omega), show k / 38 = 0 by omega, show k % 38 = k by omega]
    simp [Value.cells]
  · rw [if_neg (by simp; omega)]
    rw [Array.getElem?_eq_none (by omega), Array.getElem?_eq_none (by simp; omega)]
/-- A slice literal of one graph as a table. -/
theorem wp_ag {o : Oper} {a : Act} {w : World} {Kk : Act → World → Prop} {Q : Exit → Act → World → Prop} (x : Operand) (ho : o.op = .buildSlice 43 1 #[(0, x)]) {f t : Int} {L : List Int} (hL : L.length = 36) (hx : a.eval x = .agg (gcells f t L).toArray)
    (h : Kk (a.put o.dst (.slice (some ⟨w.heap.size, 0, none⟩) 1 1)) (w.alloc (.cells (gcells f t L).toArray 49))) : o.wp Try.prog a w Kk Q := by
  have hi := infoAG
  obtain ⟨i0, hi0⟩ := infoE infoSAG
  rw [hi0] at hi
  simp only [Option.map_some, Option.some.injEq, Prod.mk.injEq] at hi
  obtain ⟨hz, hsz, hby⟩ := hi
  obtain ⟨z, hzz, hz38⟩ : ∃ z, i0.zero = some z ∧ z.cells.size = 38 := by
    cases hq : i0.zero with
    | none => rw [hq] at hz; cases hz
    | some z => rw [hq] at hz; exact ⟨z, rfl, Option.some.inj hz⟩
  refine wp_buildSlice 43 49 1 #[(0, x)] ho (gcells f t L).toArray i0 z Try.underlying43 hi0 hzz (by rw [hsz]; omega) (by rw [hsz]; omega) ?_ h
  rw [hsz]
  have e : (#[(0, x)].map fun ((i, x) : Nat × Operand) => (i, a.eval x)).toList = [(0, .agg (gcells f t L).toArray)] := by simp [hx]
  rw [e]
  exact fill_ag _ (by simp) _ (gcells_len hL)

/-- A list of graphs as tables, and the block of what closes it. -/
structure Clo (B gc : Nat) (a : Option Addr) (c : Nat) (ys : List (Gr × List Int)) (w : World) : Prop where
  blk : w.heap[gc]? = some (.cells #[.slice a ys.length c] 66 (0, 0))
  own : w.ownsRow B 49 38 (.slice a ys.length c) ys.length (agCells ys)
  ok : AgOk ys
  ne : ∀ b, (Value.slice a ys.length c).ownBlock = some b → b ≠ gc
  ge : B ≤ gc
theorem Clo.kept {B gc : Nat} {a : Option Addr} {c : Nat} {ys : List (Gr × List Int)} {w w' : World} (h : Clo B gc a c ys w) (hb : Below w.heap.size w w') : Clo B gc a c ys w' := ⟨(hb.block _ (lt_of_block h.blk)).trans h.blk, row_kept h.own hb, h.ok, h.ne, h.ge⟩
/-- What else lies there stands still while the list grows. -/
structure Still (gc : Nat) (v : Value) (n : Nat) (w w' : World) : Prop where
  size : w.heap.size ≤ w'.heap.size
  blk : ∀ k, k < w.heap.size → k ≠ gc → v.ownBlock ≠ some k → w'.heap[k]? = w.heap[k]?
  cel : ∀ k j, k < w.heap.size → k ≠ gc → (v.ownBlock ≠ some k ∨ j < n * 38) → w'.cell? ⟨k, j, none⟩ = w.cell? ⟨k, j, none⟩
theorem Still.below {gc : Nat} {v : Value} {n : Nat} {w w' : World} (hb : Below w.heap.size w w') : Still gc v n w w' := ⟨hb.size, fun k hk _ _ => hb.block k hk, fun k j hk _ _ => hb.cell (p := ⟨k, j, none⟩) hk⟩
/-- One more graph at the end, out of the block P of its own. -/
theorem Clo.push {B gc : Nat} {a : Option Addr} {c : Nat} {ys : List (Gr × List Int)} {w w1 w0 : World} (h : Clo B gc a c ys w) {g : Gr} {L : List Int} (hT : Tab L g.rs) (hR : RightA g.rs) (hb1 : Below w.heap.size w w1) {P : Nat} (hP : w1.heap[P]? = some (.cells (gcells g.f g.t L).toArray 49 (0, 0))) (hn : ys.length ≤ 1048575) (hb : Below B w0 w) (hB : B ≤ w.heap.size) :
    ∃ g' cap w2, (∀ ty, (Builtin.append_ #[43, 43] ty #[.slice a ys.length c, .slice (some ⟨P, 0, none⟩) 1 1]).run Try.prog w1 = .ok (.slice (some ⟨g', 0, none⟩) (ys.length + 1) cap) w2) ∧
      w2.heap[gc]? = some (.cells #[.slice a ys.length c] 66 (0, 0)) ∧ Clo B gc (some ⟨g', 0, none⟩) cap (ys ++ [(g, L)]) (w2.setCell ⟨gc, 0, none⟩ (.slice (some ⟨g', 0, none⟩) (ys.length + 1) cap)) ∧ Below B w0 w2 ∧ w1.heap.size ≤ w2.heap.size ∧ Below B w0 (w2.setCell ⟨gc, 0, none⟩ (.slice (some ⟨g', 0, none⟩) (ys.length + 1) cap)) ∧ Still gc (.slice a ys.length c) ys.length w (w2.setCell ⟨gc, 0, none⟩ (.slice (some ⟨g', 0, none⟩) (ys.length + 1) cap)) ∧ (∀ b, b < w1.heap.size → (Value.slice a ys.length c).ownBlock ≠ some b → w2.heap[b]? = w1.heap[b]?) ∧ ((Value.slice a ys.length c).ownBlock = some g' ∨ w.heap.size ≤ g') := by
  have hi := infoAG
  obtain ⟨i0, hi0⟩ := infoE infoSAG
  rw [hi0] at hi
  simp only [Option.map_some, Option.some.injEq, Prod.mk.injEq] at hi
  obtain ⟨hz, hsz, hby⟩ := hi
  obtain ⟨z, hzz, hz38⟩ : ∃ z, i0.zero = some z ∧ z.cells.size = 38 := by
    cases hq : i0.zero with
    | none => rw [hq] at hz; cases hz
    | some z => rw [hq] at hz; exact ⟨z, rfl, Option.some.inj hz⟩
  have hk1 := h.kept hb1
  have hs1 := hb1.size
  have hgl := gcells_len (f := g.f) (t := g.t) hT.len
  have hne : ∀ j u, (gcells g.f g.t L)[j]? = some u → w1.cell? ((⟨P, 0, none⟩ : Addr).add j) = some u := fun j u hu => by
    rw [hown_add3, Nat.zero_add, cell_of_row _ P j _ _ _ hP, List.getElem?_toArray]; exact hu
  obtain ⟨g', cap, w2, a1, a2, a3, a4, a5⟩ := run_append_lies (P := Try.prog) w1 43 0 B 49 i0 z 38 56 Try.underlying43 hi0 hzz hsz hby hz38 (by omega) (.slice a ys.length c) ys.length _ hk1.own ⟨P, 0, none⟩ 1 1 (gcells g.f g.t L) (by omega) hne gcells_cell1 (by omega) (by unfold maxLen; omega) (by omega) (by omega) _ rfl
  have hgc : gc < w.heap.size := lt_of_block h.blk
  have hgg : gc ≠ g' := by
    rcases a4 with hv | hv
    · exact fun e => h.ne g' hv e.symm
    · omega
  have hblk2 : w2.heap[gc]? = some (.cells #[.slice a ys.length c] 66 (0, 0)) := (a3.block gc (by omega) (fun e => h.ne gc e.symm rfl)).trans hk1.blk
  have hbel : Below B w0 w2 := (hb.trans (hb1.mono hB)).grown a3 (by omega) (own_ge hk1.own)
  refine ⟨g', cap, w2, fun ty => a1, hblk2, ⟨?_, ?_, h.ok.snoc hT hR, ?_, h.ge⟩, hbel, a3.size, hbel.setCell (p := ⟨gc, 0, none⟩) h.ge _, ?_, fun b hb2 hne2 => a3.block b hb2 (fun e => hne2 e.symm), a4.imp id (fun e => by omega)⟩
  · rw [heap_setCell_same w2 gc 0 _ _ _ hblk2, List.length_append]; rfl
  · refine row_move ?_ fun b hb2 => heap_setCell_other w2 ⟨gc, 0, none⟩ b _ ?_
    · rw [List.length_append, agCells_snoc]; exact a2
    · obtain rfl : g' = b := Option.some.inj hb2
      exact fun e => hgg e.symm
  · intro b hb2
    obtain rfl : g' = b := Option.some.inj hb2
    exact fun e => hgg e.symm
  · refine ⟨Nat.le_trans hb1.size (Nat.le_trans a3.size ((Below.refl B w2).setCell (p := ⟨gc, 0, none⟩) h.ge _).size), fun k hk hkg hv => ?_, fun k j hk hkg hor => ?_⟩
    · rw [heap_setCell_other w2 ⟨gc, 0, none⟩ k _ hkg, a3.block k (by omega) (fun e => hv e.symm), hb1.block k hk]
    have e1 : (w2.setCell ⟨gc, 0, none⟩ (.slice (some ⟨g', 0, none⟩) (ys.length + 1) cap)).cell? ⟨k, j, none⟩ = w2.cell? ⟨k, j, none⟩ := by
      unfold World.cell?
      rw [show (⟨k, j, none⟩ : Addr).block = k from rfl, heap_setCell_other w2 ⟨gc, 0, none⟩ k _ hkg]
    rw [e1, ← hb1.cell (p := ⟨k, j, none⟩) hk]
    by_cases hv : (Value.slice a ys.length c).ownBlock = some k
    · rcases hor with h2 | h2
      · exact absurd hv h2
      · obtain ⟨o, ho⟩ : ∃ o, a = some ⟨k, o, none⟩ := by
          cases a with
          | none => cases hv
          | some ad =>
            rcases hk1.own.2 with ⟨h3, _⟩ | ⟨b', cap', cur', h3, _⟩
            · cases h3
            · simp only [Value.slice.injEq, Option.some.injEq] at h3
              obtain ⟨rfl, _⟩ := h3
              have : b' = k := Option.some.inj hv
              subst this
              exact ⟨0, rfl⟩
        subst ho
        have ho0 : o = 0 := by
          rcases hk1.own.2 with ⟨h3, _⟩ | ⟨b', cap', cur', h3, _⟩
          · cases h3
          · simp only [Value.slice.injEq, Option.some.injEq, Addr.mk.injEq] at h3
            exact h3.1.2.1
        subst ho0
        have hown38 : w1.ownsRow B 49 i0.size (.slice (some ⟨k, 0, none⟩) ys.length c) ys.length (agCells ys) := by rw [hsz]; exact hk1.own
        exact append_keeps (P := Try.prog) w1 43 0 49 i0 z Try.underlying43 hi0 hzz B k ys.length c (agCells ys) hown38 ⟨P, 0, none⟩ 1 1 (gcells g.f g.t L) (by rw [hsz]; omega) hne gcells_cell1 (by omega) (by rw [hby]; omega) (by omega) a1 j (by rw [hsz]; exact h2)
    · unfold World.cell?
      rw [show (⟨k, j, none⟩ : Addr).block = k from rfl, a3.block k (by omega) (fun e => hv e.symm)]

end Go.Proofs.Ytgjmefcognoepaa.Pr
