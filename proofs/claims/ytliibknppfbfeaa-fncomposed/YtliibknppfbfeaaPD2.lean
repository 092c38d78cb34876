/-
  THE DRAWING of a graph.
-/
import Derived.Test.YtliibknppfbfeaaPD1
import Derived.Test.YtliibknppfbfeaaPG5
import Derived.Deep.RegionWith
namespace Go.Proofs.Ytliibknppfbfeaa.Pr
open Go Go.RowKit Go.Maps Go.WideMaps

theorem below_drew2 {B : Nat} {a w : World} (h : Below B a w) : Below B a w.drew := ⟨h.os, h.tape, h.output, h.size, h.block⟩
theorem owns_same2 {w w' : World} {base : Nat} {e : TypeId} {size : Nat} {v : Value} {n : Nat} {xs : List Value} (h : w.ownsRow base e size v n xs) (hs : ∀ b, v.ownBlock = some b → w'.heap[b]? = w.heap[b]?) : w'.ownsRow base e size v n xs := by
  refine ⟨h.1, ?_⟩
  rcases h.2 with h' | ⟨g, cap, cur, rfl, hg, hh, r⟩
  · exact .inl h'
  · exact .inr ⟨g, cap, cur, rfl, hg, (hs g (by simp [Value.ownBlock])).trans hh, r⟩
theorem step_push {P : Program} {ops : Array Oper} {o : Oper} {a : Act} {w : World} {K : Act → World → Prop} {Q : Exit → Act → World → Prop} {E : Prop} (hgd : o.guard = none) (s x : Operand) (t : TypeId) (ho : o.op = .call { callee := .builtin .append, args := #[s, x], argTypes := #[t, t] })
    {v u : Value} (hs : a.eval s = v) (hx : a.eval x = u) (F : Value → World → Prop) (hrun : ∃ v' w', (∀ ty, (Builtin.append_ #[t, t] ty #[v, u]).run P w = .ok v' w') ∧ F v' w') (h : ∀ v' w', F v' w' → K (a.put o.dst v') w') : if Region.wanted o (yielded ops a.tmps) = true then Oper.wp P o a w K Q else E := by
  have hw : Region.wanted o (yielded ops a.tmps) = true := by simp [Region.wanted, hgd]
  rw [if_pos hw]
  obtain ⟨v', w', hr, hF⟩ := hrun
  unfold Oper.wp execOp
  simp only [ho, resolve, invoke, builtin, Sem.run_bind, Sem.run_pure, Result.andThen_ok, List.map_toArray, List.map_cons, List.map_nil, hs, hx, hr]
  exact h v' w' hF
theorem step_on {P : Program} {ops : Array Oper} {o : Oper} {a : Act} {w : World} {K : Act → World → Prop} {Q : Exit → Act → World → Prop} {E : Prop} (hgd : o.guard = none) (h : Oper.wp P o a w K Q) : if Region.wanted o (yielded ops a.tmps) = true then Oper.wp P o a w K Q else E := by
  rw [if_pos (by simp [Region.wanted, hgd])]
  exact h

/-- A graph as it is drawn: n arcs at most. -/
structure DgSt (w0 w : World) (c : Nat) (a : Option Addr) (len cap N G : Nat) (f t : Int) (l : List Ar) (v : Value) (wr : World) : Prop where
  cur : CurAt w0 wr c a len cap N
  res : wr.heap[w.heap.size]? = some (.cells #[.int .i64 0, .int .i64 0, .slice none 0 0] 26 (0, 0))
  out : wr.heap[G]? = some (.cells #[.int .i64 f, .int .i64 t, v] 26 (0, 0))
  own : wr.ownsRow (G + 1) 55 3 v l.length (arcCells l)
  old : ∀ j, j < w.heap.size → j ≠ c → wr.heap[j]? = w.heap[j]?
  sz : w.heap.size ≤ wr.heap.size
  cw : c < w.heap.size
  gw : w.heap.size < G
theorem size_same {c : Nat} {w w' : World} (hc : c < w'.heap.size) (h : ∀ j, j < w.heap.size → j ≠ c → w'.heap[j]? = w.heap[j]?) : w.heap.size ≤ w'.heap.size := by
  rcases Nat.lt_or_ge w'.heap.size w.heap.size with hlt | hge
  · have := h w'.heap.size hlt (by omega)
    rw [Array.getElem?_eq_none (Nat.le_refl _), Array.getElem?_eq_getElem hlt] at this
    cases this
  · exact hge
theorem DgSt.touch {w0 w : World} {c : Nat} {a : Option Addr} {len cap N N' G : Nat} {f t : Int} {l : List Ar} {v : Value} {wr w' : World} (h : DgSt w0 w c a len cap N G f t l v wr) (hC : CurAt w0 w' c a len cap N') (hs : wr.heap.size ≤ w'.heap.size) (ho : ∀ j, j < wr.heap.size → j ≠ c → w'.heap[j]? = wr.heap[j]?) : DgSt w0 w c a len cap N' G f t l v w' := by
  have hc := h.cw
  have hg := h.gw
  have hG := lt_of_block h.out
  refine ⟨hC, (ho _ (lt_of_block h.res) (by omega)).trans h.res, (ho _ hG (by omega)).trans h.out, owns_same2 h.own (fun b hb => ?_), fun j h1 h2 => (ho j (Nat.lt_of_lt_of_le h1 h.sz) h2).trans (h.old j h1 h2), Nat.le_trans h.sz hs, hc, hg⟩
  have hge := own_ge h.own b hb
  rcases h.own.2 with ⟨rfl, _⟩ | ⟨g, cap, cur, rfl, _, hh, _⟩
  · simp [Value.ownBlock] at hb
  · simp [Value.ownBlock] at hb
    subst hb
    exact ho _ (lt_of_block hh) (by omega)
theorem DgSt.wider {w0 w : World} {c : Nat} {a : Option Addr} {len cap N N' G : Nat} {f t : Int} {l : List Ar} {v : Value} {wr : World} (h : DgSt w0 w c a len cap N G f t l v wr) (hn : N ≤ N') : DgSt w0 w c a len cap N' G f t l v wr := by
  obtain ⟨k, sd, hk, hsd, hh⟩ := h.cur.lies
  exact { h with cur := ⟨h.cur.new, h.cur.code, h.cur.below, k, sd, by omega, hsd, hh⟩ }
/-- An arc is put behind the others. -/
theorem DgSt.push {w0 w : World} {c : Nat} {a : Option Addr} {len cap N G : Nat} {f t : Int} {l : List Ar} {v : Value} {wr : World} (h : DgSt w0 w c a len cap N G f t l v wr) (x : Ar) (hl : l.length ≤ 1000) :
    ∃ v' w', (∀ ty, (Builtin.append_ #[24, 24] ty #[v, .slice (some ⟨wr.heap.size, 0, none⟩) 1 1]).run Try.prog (wr.alloc (.cells #[.int .i64 x.a, .int .i64 x.b, .bool x.s] 55)) = .ok v' w') ∧
      ((∃ g9 n9 c9, v' = .slice (some ⟨g9, 0, none⟩) n9 c9) ∧ w'.heap[G]? = some (.cells #[.int .i64 f, .int .i64 t, v] 26 (0, 0)) ∧ DgSt w0 w c a len cap N G f t (l ++ [x]) v' (w'.setCell ⟨G, 2, none⟩ v')) := by
  have hG := lt_of_block h.out
  have hcw := h.cw
  have hgw := h.gw
  obtain ⟨g', cp, w4, hrun, ho4, hb4, hk4, hs4⟩ := push_arc h.own x (by omega) (Below.refl (G + 1) wr) hG
  have hge := own_ge h.own
  have hkk : ∀ j, j ≤ G → w4.heap[j]? = wr.heap[j]? := fun j hj => hk4 j (by omega) (fun e => by have := hge j e; omega)
  have hout := (hkk G (Nat.le_refl _)).trans h.out
  have hlen : (l ++ [x]).length = l.length + 1 := by simp
  refine ⟨_, w4, hrun, ⟨_, _, _, rfl⟩, hout, ?_⟩
  have hset := heap_setCell_same _ G 2 _ _ (.slice (some ⟨g', 0, none⟩) (l.length + 1) cp) hout
  obtain ⟨k, sd, hk, hsd, hh⟩ := h.cur.lies
  refine ⟨⟨h.cur.new, h.cur.code, ?_, k, sd, hk, hsd, ?_⟩, ?_, ?_, row_set ho4 (by omega) _, fun j h1 h2 => ?_, ?_, hcw, hgw⟩
  · refine Below.setCell (p := ⟨G, 2, none⟩) ?_ (by have := h.cur.new; show w0.heap.size ≤ G; omega) _
    exact ⟨hb4.os.trans h.cur.below.os, hb4.tape.trans h.cur.below.tape, hb4.output.trans h.cur.below.output, Nat.le_trans h.cur.below.size hs4, fun j hj => (hkk j (by have := h.cur.new; omega)).trans (h.cur.below.block j hj)⟩
  · rw [heap_setCell_other _ ⟨G, 2, none⟩ _ _ (show c ≠ G by omega), hkk c (by omega)]; exact hh
  · rw [heap_setCell_other _ ⟨G, 2, none⟩ _ _ (show w.heap.size ≠ G by omega), hkk _ (by omega)]; exact h.res
  · simpa using hset
  · rw [heap_setCell_other _ ⟨G, 2, none⟩ _ _ (show j ≠ G by omega), hkk j (by omega)]; exact h.old j h1 h2
  · simp; exact Nat.le_trans h.sz hs4

end Go.Proofs.Ytliibknppfbfeaa.Pr
