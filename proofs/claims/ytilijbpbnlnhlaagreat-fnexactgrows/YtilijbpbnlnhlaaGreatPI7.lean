/-
  impl's putExp.
-/
import Derived.Test.YtilijbpbnlnhlaaGreatPI6
import Derived.Deep.RegionLaw
namespace Go.Proofs.YtilijbpbnlnhlaaGreat.Pr
open Go Go.RowKit Go.Maps Go.WideMaps

/-- append of one flag. -/
theorem append_bool (w : World) (base : Nat) (v : Value) (n : Nat) (xs : List Value) (hown : w.ownsRow base 4 1 v n xs) (x : Bool) (g : Nat) (hg : w.heap[g]? = some (.cells #[.bool x] 4 (0, 0))) (hn : n ≤ 1048576) (hbase : base ≤ w.heap.size) :
    ∃ g' cap w', (∀ ty, (Builtin.append_ #[74, 74] ty #[v, .slice (some ⟨g, 0, none⟩) 1 1]).run Tryz.prog w = .ok (.slice (some ⟨g', 0, none⟩) (n + 1) cap) w') ∧ w'.ownsRow base 4 1 (.slice (some ⟨g', 0, none⟩) (n + 1) cap) (n + 1) (xs ++ [.bool x]) ∧ w.grownBy w' v.ownBlock ∧ (v.ownBlock = some g' ∨ g' = w.heap.size) := by
  obtain ⟨i0, hi0, hz0, hz1, hz2⟩ := info_parts infoBool
  obtain ⟨g', cap, w', a1, a2, a3, a4, a5⟩ := run_append_lies (P := Tryz.prog) w 74 0 base 4 i0 _ 1 1 Tryz.underlying74 hi0 hz0 hz1 hz2 rfl (by omega) v n xs hown ⟨g, 0, none⟩ 1 1 [.bool x] rfl
    (fun j u hu => by
      cases j with
      | zero => simp only [List.getElem?_cons_zero, Option.some.injEq] at hu; rw [hown_add, cell_of_row _ _ _ _ _ _ hg, ← hu]; rfl
      | succ j => simp at hu) (by intro u hu; rw [List.mem_singleton.1 hu]; rfl) (by omega) (by unfold maxLen; omega) (by omega) hbase w.heap.size rfl
  exact ⟨g', cap, w', fun ty => a1, a2, a3, a4⟩

/-- An append of a node at a step of a region that draws. -/
theorem step_node {P : Program} {ops : Array Oper} {o : Oper} {a : Act} {w : World} {K : Act → World → Prop} {Q : Exit → Act → World → Prop} {E : Prop} (hgd : o.guard = none) (s x : Operand) (t : TypeId) (ho : o.op = .call { callee := .builtin .append, args := #[s, x], argTypes := #[t, t] })
    {v u : Value} (hs : a.eval s = v) (hx : a.eval x = u) (F : Value → World → Prop) (hrun : ∃ v' w', (∀ ty, (Builtin.append_ #[t, t] ty #[v, u]).run P w = .ok v' w') ∧ F v' w') (h : ∀ v' w', F v' w' → K (a.put o.dst v') w') : if Region.wanted o (yielded ops a.tmps) = true then Oper.wp P o a w K Q else E := by
  have hw : Region.wanted o (yielded ops a.tmps) = true := by simp [Region.wanted, hgd]
  rw [if_pos hw]
  obtain ⟨v', w', hr, hF⟩ := hrun
  unfold Oper.wp execOp
  simp only [ho, resolve, invoke, builtin, Sem.run_bind, Sem.run_pure, Result.andThen_ok, List.map_toArray, List.map_cons, List.map_nil, hs, hx, hr]
  exact h v' w' hF

theorem step_plain {P : Program} {ops : Array Oper} {o : Oper} {a : Act} {w : World} {K : Act → World → Prop} {Q : Exit → Act → World → Prop} {E : Prop} (hgd : o.guard = none) (h : Oper.wp P o a w K Q) : if Region.wanted o (yielded ops a.tmps) = true then Oper.wp P o a w K Q else E := by
  rw [if_pos (by simp [Region.wanted, hgd])]
  exact h

theorem BStep.set (gb : Nat) (on ot : Option Nat) (w : World) (j : Nat) (u : Value) : BStep gb on ot on ot w (w.setCell ⟨gb, j, none⟩ u) := ⟨rfl, rfl, rfl, by simp, fun k _ h _ _ => heap_setCell_other w ⟨gb, j, none⟩ k u h, .inl rfl, .inl rfl⟩
theorem BStep.growN {gb : Nat} {on ot on' : Option Nat} {w w' : World} (h : w.grownBy w' on) (ho : on' = on ∨ ∃ g, on' = some g ∧ w.heap.size ≤ g) : BStep gb on ot on' ot w w' := ⟨h.os, h.tape, h.output, h.size, fun k hk _ h1 _ => h.block k hk (fun e => h1 e.symm), ho, .inl rfl⟩
theorem BStep.growT {gb : Nat} {on ot ot' : Option Nat} {w w' : World} (h : w.grownBy w' ot) (ho : ot' = ot ∨ ∃ g, ot' = some g ∧ w.heap.size ≤ g) : BStep gb on ot on ot' w w' := ⟨h.os, h.tape, h.output, h.size, fun k hk _ _ h1 => h.block k hk (fun e => h1 e.symm), .inl rfl, ho⟩

/-- What take leaves, the parts' blocks in one. -/
theorem TakePost.parts {gb : Nat} {ns : List Nd} {R : List Int} {on ot : Option Nat} {N : Nat → Prop} {xs : List Int} {w w' : World} {e : Ending} (hB0 : Bld gb ns R on ot N w) (h : TakePost gb ns R on ot N xs w e w') :
    (∃ (a : Option Addr) (c : Nat) (N1 : Nat → Prop), e = .returned (.tuple #[.slice a xs.length c, .bool true]) ∧ TakeOk ns.length R xs ∧ Bld gb ns (R ++ xs) on ot N1 w' ∧ BStep gb on ot on ot w w' ∧ NodesIn N1 w' (xs.map fun x => ns.getD x.toNat (.word ⟨#[]⟩)) a 0 ∧ (∀ b, N b → N1 b) ∧ (∀ b, N1 b → N b ∨ w.heap.size ≤ b)) ∨
    (∃ R', e = .returned (.tuple #[.slice none 0 0, .bool false]) ∧ ¬ TakeOk ns.length R xs ∧ Bld gb ns R' on ot N w' ∧ BStep gb on ot on ot w w') := by
  rcases h with ⟨a, c, he, hok, hB, hst, L, hL1, _, hL2, hL3, hno⟩ | h
  · left
    rcases Nat.eq_zero_or_pos xs.length with h0 | h0
    · obtain rfl : xs = [] := List.eq_nil_of_length_eq_zero h0
      exact ⟨a, c, N, he, hok, hB, hst, by rw [List.map_nil, NodesIn]; trivial, fun _ h => h, fun _ h => .inl h⟩
    · refine ⟨a, c, fun b => N b ∨ b = L, he, hok, ?_, hst, hno, fun _ h => .inl h, fun b h => Or.elim h (fun h => .inl h) (fun e => .inr (Nat.le_trans hL1 (Nat.le_of_eq e.symm)))⟩
      obtain ⟨vn, vt, cs, e1, e2, e3, e4, e5, e6⟩ := hB0.lies
      obtain ⟨vn', vt', cs', h1, h2, h3, h4, h5, h6⟩ := hB.lies
      refine ⟨⟨vn', vt', cs', h1, h2, h3, h4, h5, fun i hi => ?_⟩, ?_⟩
      · obtain ⟨v, hv, hn⟩ := h6 i hi
        exact ⟨v, hv, NodeIn.kept (Same.refl _ _) (fun b hb => .inl hb) _ _ hn⟩
      · rintro b (hb | rfl)
        · exact hB.free b hb
        · refine ⟨?_, hL3 h0, ?_, ?_⟩
          · have := hB0.lt; omega
          · intro hh; have := (own_lt e4 (e1.trans hh)).2; omega
          · intro hh; have := (own_lt e5 (e2.trans hh)).2; omega
  · exact .inr h

def PutExpPost (gb : Nat) (ns : List Nd) (R : List Int) (on ot : Option Nat) (x : It) (w : World) (e : Ending) (w' : World) : Prop :=
  (e = .returned (.bool true) ∧ TakeOk ns.length R x.xs ∧ kindOk x = true ∧ ∃ (on' ot' : Option Nat) (N' : Nat → Prop), Bld gb (ns ++ [nodeOf x (x.xs.map fun y => ns.getD y.toNat (.word ⟨#[]⟩))]) (R ++ x.xs) on' ot' N' w' ∧ BStep gb on ot on' ot' w w') ∨
  (e = .returned (.bool false) ∧ ¬ (TakeOk ns.length R x.xs ∧ kindOk x = true) ∧ ∃ (on' ot' : Option Nat), BStep gb on ot on' ot' w w')

/-- The builder's block, behind the append of a node. -/
theorem mid_gb {gb n : Nat} {w2 w7 w9 : World} {ob : Obj} {vn vt : Value} {cs : List Value} (h3 : w2.heap[gb]? = some (.cells #[vn, vt] 110 (0, 0))) (h4 : w2.ownsRow (gb + 1) 94 1 vn n cs) (hb8 : Below w2.heap.size w2 w7) (hgr9 : (w7.alloc ob).grownBy w9 vn.ownBlock) : w9.heap[gb]? = some (.cells #[vn, vt] 110 (0, 0)) := by
  have hl := lt_of_block h3
  have h7 := (hb8.block gb hl).trans h3
  rw [hgr9.block gb (by have := lt_of_block h7; simp; omega) ?_, heap_alloc_old w7 ob (lt_of_block h7)]
  · exact h7
  · intro e
    have := (own_lt h4 e.symm).1
    omega

theorem putExp_fin {gb : Nat} {ns : List Nd} {R' : List Int} {on ot : Option Nat} {N1 : Nat → Prop} {w2 w7 w9 : World} (nd : Nd) {an at' : Option Addr} {cn ct : Nat} {cs : List Value} {nt : TypeId} {nx : Value} {g9 cap9 : Nat} (hns : ns.length ≤ 60) (hR : (ns.length : Int) ∉ R')
    (hB2 : Bld gb ns R' on ot N1 w2) (h1 : (Value.slice an ns.length cn).ownBlock = on) (h2 : (Value.slice at' ns.length ct).ownBlock = ot) (h3 : w2.heap[gb]? = some (.cells #[.slice an ns.length cn, .slice at' ns.length ct] 110 (0, 0)))
    (h4 : w2.ownsRow (gb + 1) 94 1 (.slice an ns.length cn) ns.length cs) (h5 : w2.ownsRow (gb + 1) 4 1 (.slice at' ns.length ct) ns.length (boolCells (tkOf ns.length R'))) (h6 : ∀ i (h : i < ns.length), ∃ v, cs[i]? = some v ∧ NodeIn N1 w2 ns[i] v)
    (hb8 : Below w2.heap.size w2 w7) (hnv : NodeIn N1 w7 nd (.iface nt nx)) (hown9 : w9.ownsRow (gb + 1) 94 1 (.slice (some ⟨g9, 0, none⟩) (ns.length + 1) cap9) (ns.length + 1) (cs ++ [.iface nt nx])) (hgr9 : (w7.alloc (.cells #[.iface nt nx] 94)).grownBy w9 (Value.slice an ns.length cn).ownBlock) (hat9 : (Value.slice an ns.length cn).ownBlock = some g9 ∨ g9 = (w7.alloc (.cells #[.iface nt nx] 94)).heap.size) :
    (w9.setCell ⟨gb, 0, none⟩ (.slice (some ⟨g9, 0, none⟩) (ns.length + 1) cap9)).cell? ⟨gb, 1, none⟩ = some (.slice at' ns.length ct) ∧
    ∃ gt ct' w12, (∀ ty, (Builtin.append_ #[74, 74] ty #[.slice at' ns.length ct, .slice (some ⟨(w9.setCell ⟨gb, 0, none⟩ (.slice (some ⟨g9, 0, none⟩) (ns.length + 1) cap9)).heap.size, 0, none⟩) 1 1]).run Tryz.prog ((w9.setCell ⟨gb, 0, none⟩ (.slice (some ⟨g9, 0, none⟩) (ns.length + 1) cap9)).alloc (.cells #[.bool false] 4)) = .ok (.slice (some ⟨gt, 0, none⟩) (ns.length + 1) ct') w12) ∧
      w12.heap[gb]? = some (.cells #[.slice (some ⟨g9, 0, none⟩) (ns.length + 1) cap9, .slice at' ns.length ct] 110 (0, 0)) ∧
      Bld gb (ns ++ [nd]) R' (some g9) (some gt) N1 (w12.setCell ⟨gb, 1, none⟩ (.slice (some ⟨gt, 0, none⟩) (ns.length + 1) ct')) ∧ BStep gb on ot (some g9) (some gt) w2 (w12.setCell ⟨gb, 1, none⟩ (.slice (some ⟨gt, 0, none⟩) (ns.length + 1) ct')) := by
  have hl2 := lt_of_block h3
  have hg9 := mid_gb h3 h4 hb8 hgr9
  obtain ⟨w10, hw10⟩ : ∃ w10, w9.setCell ⟨gb, 0, none⟩ (.slice (some ⟨g9, 0, none⟩) (ns.length + 1) cap9) = w10 := ⟨_, rfl⟩
  have hg10 : w10.heap[gb]? = some (.cells #[.slice (some ⟨g9, 0, none⟩) (ns.length + 1) cap9, .slice at' ns.length ct] 110 (0, 0)) := by
    rw [← hw10, heap_setCell_same w9 gb 0 _ _ _ hg9]
    rfl
  have hb7 : Below w7.heap.size w7 (w7.alloc (.cells #[.iface nt nx] 94)) := (Below.refl _ _).alloc (Nat.le_refl _) _
  -- the rows
  have hot7 : (Value.slice at' ns.length ct).ownBlock = none ∨ (Value.slice at' ns.length ct).ownBlock ≠ (Value.slice an ns.length cn).ownBlock := by
    rcases h4.2 with ⟨hv, _⟩ | ⟨g, cap', cur, hv, hg, hh, _⟩
    · rw [hv]
      cases h : (Value.slice at' ns.length ct).ownBlock with
      | none => exact .inl rfl
      | some k => exact .inr (by simp [Value.ownBlock])
    · have := own_ne h5 hh (by decide)
      rw [hv]
      exact this
  have h5_9 : w9.ownsRow (gb + 1) 4 1 (.slice at' ns.length ct) ns.length (boolCells (tkOf ns.length R')) := ((row_kept h5 hb8).alloc _).kept hgr9 hot7
  have hgbset : ∀ {e : TypeId} {v : Value} {n : Nat} {xs : List Value} {W : World} (j : Nat) (u : Value), W.ownsRow (gb + 1) e 1 v n xs → (W.setCell ⟨gb, j, none⟩ u).ownsRow (gb + 1) e 1 v n xs := by
    intro e v n xs W j u h
    refine h.kept (grown_set W gb j u) ?_
    cases hv : v.ownBlock with
    | none => exact .inl rfl
    | some k => exact .inr (by have := (own_lt h hv).1; simp; omega)
  have h5_10 : w10.ownsRow (gb + 1) 4 1 (.slice at' ns.length ct) ns.length (boolCells (tkOf ns.length R')) := by rw [← hw10]; exact hgbset 0 _ h5_9
  have hn10 : w10.ownsRow (gb + 1) 94 1 (.slice (some ⟨g9, 0, none⟩) (ns.length + 1) cap9) (ns.length + 1) (cs ++ [.iface nt nx]) := by rw [← hw10]; exact hgbset 0 _ hown9
  have hb11 : Below w10.heap.size w10 (w10.alloc (.cells #[.bool false] 4)) := (Below.refl _ _).alloc (Nat.le_refl _) _
  obtain ⟨gt, ct', w12, hrun, hown12, hgr12, hat12⟩ := append_bool (w10.alloc (.cells #[.bool false] 4)) (gb + 1) (.slice at' ns.length ct) ns.length _ (h5_10.alloc _) false w10.heap.size (heap_alloc_new w10 _) (by omega) (by have := lt_of_block hg10; simp; omega)
  have hnt : (Value.slice (some (⟨g9, 0, none⟩ : Addr)) (ns.length + 1) cap9).ownBlock = none ∨ (Value.slice (some (⟨g9, 0, none⟩ : Addr)) (ns.length + 1) cap9).ownBlock ≠ (Value.slice at' ns.length ct).ownBlock := by
    rcases h5_10.2 with ⟨hv, _⟩ | ⟨g, cap', cur, hv, hg, hh, _⟩
    · rw [hv]
      exact .inr (by simp [Value.ownBlock])
    · have := own_ne hn10 hh (by decide)
      rw [hv]
      exact this
  have hn12 := (hn10.alloc (.cells #[.bool false] 4)).kept hgr12 hnt
  have hg12 : w12.heap[gb]? = some (.cells #[.slice (some ⟨g9, 0, none⟩) (ns.length + 1) cap9, .slice at' ns.length ct] 110 (0, 0)) := by
    rw [hgr12.block gb (by have := lt_of_block hg10; simp; omega) ?_, heap_alloc_old w10 _ (lt_of_block hg10)]
    · exact hg10
    · intro e
      have := (own_lt h5_10 e.symm).1
      omega
  -- the step
  have s1 : BStep gb on ot on ot w2 (w7.alloc (.cells #[.iface nt nx] 94)) := (BStep.below hb8).trans (BStep.below hb7)
  have s2 : BStep gb on ot (some g9) ot (w7.alloc (.cells #[.iface nt nx] 94)) w9 := BStep.growN (by rw [← h1]; exact hgr9) (by
    rcases hat9 with h | h
    · exact .inl (by rw [← h1, h])
    · exact .inr ⟨g9, rfl, Nat.le_of_eq h.symm⟩)
  have s3 : BStep gb (some g9) ot (some g9) ot w9 w10 := by rw [← hw10]; exact BStep.set _ _ _ _ _ _
  have s4 : BStep gb (some g9) ot (some g9) (some gt) (w10.alloc (.cells #[.bool false] 4)) w12 := BStep.growT (by rw [← h2]; exact hgr12) (by
    rcases hat12 with h | h
    · exact .inl (by rw [← h2, h])
    · exact .inr ⟨gt, rfl, Nat.le_of_eq h.symm⟩)
  have s5 : BStep gb (some g9) (some gt) (some g9) (some gt) w12 (w12.setCell ⟨gb, 1, none⟩ (.slice (some ⟨gt, 0, none⟩) (ns.length + 1) ct')) := BStep.set _ _ _ _ _ _
  have s : BStep gb on ot (some g9) (some gt) w2 (w12.setCell ⟨gb, 1, none⟩ (.slice (some ⟨gt, 0, none⟩) (ns.length + 1) ct')) := s1.trans (s2.trans (s3.trans ((BStep.below hb11).trans (s4.trans s5))))
  have hsame : Same N1 w2 (w12.setCell ⟨gb, 1, none⟩ (.slice (some ⟨gt, 0, none⟩) (ns.length + 1) ct')) := fun b hb => by
    obtain ⟨q1, q2, q3, q4⟩ := hB2.free b hb
    exact s.block b q2 (by omega) q3 q4
  have hsame7 : Same N1 w7 (w12.setCell ⟨gb, 1, none⟩ (.slice (some ⟨gt, 0, none⟩) (ns.length + 1) ct')) := fun b hb => by
    obtain ⟨q1, q2, q3, q4⟩ := hB2.free b hb
    exact (hsame b hb).trans (hb8.block b q2).symm
  rw [hw10]
  refine ⟨by rw [cell_of_row _ gb 1 _ _ _ hg10]; rfl, gt, ct', w12, hrun, hg12, ⟨⟨.slice (some ⟨g9, 0, none⟩) (ns.length + 1) cap9, .slice (some ⟨gt, 0, none⟩) (ns.length + 1) ct', cs ++ [.iface nt nx], rfl, rfl, ?_, ?_, ?_, ?_⟩, ?_⟩, s⟩
  · rw [heap_setCell_same w12 gb 1 _ _ _ hg12]
    rfl
  · rw [List.length_append]
    exact hgbset 1 _ hn12
  · rw [List.length_append, List.length_singleton, tkOf_grow ns.length R' hR]
    exact hgbset 1 _ hown12
  · intro i hi
    have hcl : cs.length = ns.length := by have := h4.1; omega
    by_cases hlt : i < ns.length
    · obtain ⟨v, hv, hn⟩ := h6 i hlt
      refine ⟨v, by rw [List.getElem?_append_left (by omega)]; exact hv, ?_⟩
      rw [List.getElem_append_left hlt]
      exact NodeIn.kept hsame (fun _ h => h) _ _ hn
    · rw [List.length_append, List.length_singleton] at hi
      obtain rfl : i = ns.length := by omega
      refine ⟨.iface nt nx, by rw [List.getElem?_append_right (by omega), hcl, Nat.sub_self]; rfl, ?_⟩
      rw [List.getElem_append_right (Nat.le_refl _)]
      simp only [Nat.sub_self, List.getElem_cons_zero]
      exact NodeIn.kept hsame7 (fun _ h => h) _ _ hnv
  · intro b hb
    obtain ⟨q1, q2, q3, q4⟩ := hB2.free b hb
    refine ⟨q1, Nat.lt_of_lt_of_le q2 s.size, ?_, ?_⟩
    · rcases s.own.1 with h | ⟨g, h, hg⟩
      · rw [h]; exact q3
      · rw [h]; simp; omega
    · rcases s.own.2 with h | ⟨g, h, hg⟩
      · rw [h]; exact q4
      · rw [h]; simp; omega

set_option maxRecDepth 100000 in
set_option maxHeartbeats 4000000 in
theorem putExp_any (gb : Nat) (ns : List Nd) (R : List Int) (on ot : Option Nat) (N S : Nat → Prop) (x : It) (vs : List Value) (w : World) (hB : Bld gb ns R on ot N w) (hF : FIt S w vs x) (hS : ∀ b, S b → b < w.heap.size ∧ b ≠ gb ∧ on ≠ some b ∧ ot ≠ some b) (hw : x.wt ≤ 1048576) (hns : ns.length ≤ 60) (hR : ∀ y ∈ R, y < (ns.length : Int)) :
    Calls Tryz.prog 78 #[.pointer (some ⟨gb, 0, none⟩), .agg vs.toArray] w (PutExpPost gb ns R on ot x w) := by
  obtain ⟨ka, kc, rfl, hI⟩ := hF
  obtain ⟨k, s, xs⟩ := x
  unfold It.wt wtIntS at hw
  simp only at hI hw ⊢
  have hb0 : Below w.heap.size w (w.alloc (.cells #[.int .i64 k, .string s, .slice ka xs.length kc] 49)) := (Below.refl _ _).alloc (Nat.le_refl _) _
  have k0 := heap_alloc_new w (.cells #[.int .i64 k, .string s, .slice ka xs.length kc] 49)
  have hs0 : (w.alloc (.cells #[.int .i64 k, .string s, .slice ka xs.length kc] 49)).heap.size = w.heap.size + 1 := by simp
  obtain ⟨w0, hw0⟩ : ∃ w0, w.alloc (.cells #[.int .i64 k, .string s, .slice ka xs.length kc] 49) = w0 := ⟨_, rfl⟩
  rw [hw0] at hb0 k0 hs0
  have hB0 := hB.go hb0
  have hS0 : ∀ b, S b → b < w0.heap.size ∧ b ≠ gb ∧ on ≠ some b ∧ ot ≠ some b := fun b h => ⟨Nat.lt_of_lt_of_le (hS b h).1 hb0.size, (hS b h).2⟩
  have HT := Lib.hid (take_any gb ns R on ot N S xs ka kc w0 hB0 (hI.kept (Same.below (fun b h => (hS b h).1) hb0)) hS0 (by omega) (by omega))
  have hgb := hB.lt
  have hfreeP : w.heap.size ≠ gb ∧ on ≠ some w.heap.size ∧ ot ≠ some w.heap.size := by
    obtain ⟨vn, vt, cs, e1, e2, e3, e4, e5, e6⟩ := hB.lies
    refine ⟨by omega, ?_, ?_⟩
    · intro hh; have := (own_lt e4 (e1.trans hh)).2; omega
    · intro hh; have := (own_lt e5 (e2.trans hh)).2; omega
  have HFP := Lib.hid hfreeP
  have HB0 := Lib.hid hB0
  have HK0 := Lib.hid k0
  have HST0 := Lib.hid (BStep.below (gb := gb) (on := on) (ot := ot) hb0)
  have HHR := Lib.hid hR
  have q0 := cell_of_row _ w.heap.size 0 _ _ _ k0
  have q1 := cell_of_row _ w.heap.size 1 _ _ _ k0
  have q2 := cell_of_row _ w.heap.size 2 _ _ _ k0
  simp only [List.getElem?_toArray, List.getElem?_cons_zero, List.getElem?_cons_succ] at q0 q1 q2
  have HS00 := Lib.hid hs0
  clear hB hB0 hI hS hS0 hb0 k0 hfreeP hR hs0 hgb
  go_enter Tryz.func78, Tryz.ntmps78
  go_wp2_with fail
  refine HT.out.mono ?_
  intro e w1 hpost
  rcases TakePost.parts HB0.out hpost with ⟨a, c, N1, rfl, hok, hB1, hst1, hno, _, _⟩ | ⟨R', rfl, hno, hB1, hst1⟩
  · have K1 := (hst1.block w.heap.size (by have := HS00.out; omega) HFP.out.1 HFP.out.2.1 HFP.out.2.2).trans HK0.out
    have p0 := cell_of_row _ w.heap.size 0 _ _ _ K1
    have p1 := cell_of_row _ w.heap.size 1 _ _ _ K1
    have p2 := cell_of_row _ w.heap.size 2 _ _ _ K1
    simp only [List.getElem?_toArray, List.getElem?_cons_zero, List.getElem?_cons_succ] at p0 p1 p2
    have HK := Lib.hid (hasKids_any k s xs ka kc w1 (by omega))
    have HK1 := Lib.hid K1
    have HB1 := Lib.hid hB1
    have HST1 := Lib.hid (HST0.out.trans hst1)
    have HNO := Lib.hid hno
    have HOK := Lib.hid hok
    clear hpost K1 hB1 hst1 hno hok HT q0 q1 q2
    go_wp2_with fail
    refine HK.out.mono ?_
    rintro e w2 ⟨rfl, hb2⟩
    cases hko : kindOk ⟨k, s, xs⟩ with
    | false =>
      have HP := Lib.hid (show PutExpPost gb ns R on ot ⟨k, s, xs⟩ w (.returned (.bool false)) w2 from .inr ⟨rfl, (fun h => by rw [hko] at h; cases h.2), on, ot, HST1.out.trans (BStep.below hb2)⟩)
      clear hko hb2 HK p0 p1 p2
      go_wp2
      go_ret
      exact HP.out
    | true =>
      have hB2 := HB1.out.go hb2
      have K2 := (hb2.block _ (lt_of_block HK1.out)).trans HK1.out
      have hno2 := NodesIn.kept (Same.below (fun b h => (HB1.out.free b h).2.1) hb2) (fun _ h => h) _ _ _ HNO.out
      obtain ⟨vn, vt, cs, h1, h2, h3, h4, h5, h6⟩ := hB2.lies
      obtain ⟨an, cn, rfl⟩ := owns_shape h4
      obtain ⟨at', ct, rfl⟩ := owns_shape h5
      have c0 := cell_of_row _ gb 0 _ _ _ h3
      have c1 := cell_of_row _ gb 1 _ _ _ h3
      have f0 := frozen_row h3 0
      have f1 := frozen_row h3 1
      have t0 := cell_of_row _ w.heap.size 0 _ _ _ K2
      have t1 := cell_of_row _ w.heap.size 1 _ _ _ K2
      have t2 := cell_of_row _ w.heap.size 2 _ _ _ K2
      simp only [List.getElem?_toArray, List.getElem?_cons_zero, List.getElem?_cons_succ] at c0 c1 t0 t1 t2
      have HX := Lib.hid (fun (W : World) (hW : Below w2.heap.size w2 W) => by
        have := expNode_any k s xs ka kc (xs.map fun y => ns.getD y.toNat (.word ⟨#[]⟩)) a c N1 W (NodesIn.kept (Same.below (fun b h => (hB2.free b h).2.1) hW) (fun _ h => h) _ _ _ hno2) (fun b h => Nat.lt_of_lt_of_le (hB2.free b h).2.1 hW.size) (by simp) hw hko
        rw [List.length_map] at this
        exact this)
      have HB2 := Lib.hid hB2
      have HST2 := Lib.hid (HST1.out.trans (BStep.below hb2))
      have H3 := Lib.hid h3
      have H4 := Lib.hid h4
      have H5 := Lib.hid h5
      have H6 := Lib.hid h6
      have H1 := Lib.hid h1
      have H2 := Lib.hid h2
      have hg1 : gb < w2.heap.size := lt_of_block h3
      have hg2 : w.heap.size < w2.heap.size := lt_of_block K2
      have hB0' : Below w2.heap.size w2 w2 := Below.refl _ _
      have HRN := Lib.hid (show (ns.length : Int) ∉ R ++ xs from fun h => by
        rcases List.mem_append.1 h with h | h
        · have := HHR.out _ h; omega
        · obtain ⟨i, hi, he⟩ := List.getElem_of_mem h
          have := (HOK.out i hi).2.1
          omega)
      have HKO := Lib.hid hko
      clear hB2 K2 hno2 h1 h2 h3 h4 h5 h6 hb2 HK p0 p1 p2 hko
      go_wp2
      have HAPP := Lib.hid (fun (w7 : World) (hb8 : Below w2.heap.size w2 w7) (nt : TypeId) (nx : Value) (W : World) (hW : W = w7.alloc (.cells #[.iface nt nx] 94) ∨ W = (w7.alloc (.cells #[.iface nt nx] 94)).drew) => by
        have hown7 := row_kept H4.out hb8
        have hown8 : W.ownsRow (gb + 1) 94 1 (.slice an ns.length cn) ns.length cs := by
          rcases hW with rfl | rfl
          · exact hown7.alloc _
          · exact (hown7.alloc _).drew
        have hg8 : W.heap[w7.heap.size]? = some (.cells #[.iface nt nx] 94 (0, 0)) := by
          rcases hW with rfl | rfl <;> exact heap_alloc_new w7 _
        have hsz8 : gb + 1 ≤ W.heap.size := by
          have := hb8.size
          rcases hW with rfl | rfl
          · simp; omega
          · show gb + 1 ≤ (w7.alloc _).heap.size; simp; omega
        obtain ⟨g', cap', w', a1, a2, a3, a4⟩ := append_node W (gb + 1) (.slice an ns.length cn) ns.length cs hown8 nt nx w7.heap.size hg8 (by omega) hsz8
        exact (⟨_, w', a1, g', cap', rfl, a2, a3, a4⟩ : ∃ v' w', (∀ ty, (Builtin.append_ #[108, 108] ty #[.slice an ns.length cn, .slice (some ⟨w7.heap.size, 0, none⟩) 1 1]).run Tryz.prog W = .ok v' w') ∧ ∃ g' cap', v' = .slice (some ⟨g', 0, none⟩) (ns.length + 1) cap' ∧ w'.ownsRow (gb + 1) 94 1 v' (ns.length + 1) (cs ++ [.iface nt nx]) ∧ W.grownBy w' (Value.slice an ns.length cn).ownBlock ∧ ((Value.slice an ns.length cn).ownBlock = some g' ∨ g' = W.heap.size)))
      go_region_law (first
          | (refine step_plain (by rfl) ?_
             go_simp
             go_at_call 101
             refine (HX.out _ (by first | assumption | (apply Below.drew; assumption))).mono ?_
             rintro e7 w7 ⟨v7, rfl, hnv, hb7⟩
             have hb8 : Below w2.heap.size w2 w7 := below_keep (by first | assumption | (apply Below.drew; assumption)) hb7
             obtain ⟨nt, nx, rfl⟩ := hnv.shape
             have z0 := (hb8.cell (p := ⟨gb, 0, none⟩) hg1).trans c0
             have z1 := (hb8.cell (p := ⟨gb, 1, none⟩) hg1).trans c1
             have z2 := (hb8.cell (p := ⟨w.heap.size, 0, none⟩) hg2).trans t0
             have z3 := (hb8.cell (p := ⟨w.heap.size, 1, none⟩) hg2).trans t1
             have z4 := (hb8.cell (p := ⟨w.heap.size, 2, none⟩) hg2).trans t2
             have z5 := (hb8.frozen (p := ⟨gb, 0, none⟩) hg1).trans f0
             have hl7 : gb < w7.heap.size := Nat.lt_of_lt_of_le hg1 hb8.size
             have hl8 : w.heap.size < w7.heap.size := Nat.lt_of_lt_of_le hg2 hb8.size
             have y9 := cell_keep_alloc z0 (.cells #[.iface nt nx] 94)
             clear hb7)
          | (refine step_node (by rfl) (.tmp 25) (.tmp 29) _ (by rfl) (by rfl) (by rfl) _ (HAPP.out w7 hb8 nt nx _ (by first | exact .inl rfl | exact .inr rfl)) ?_
             rintro _ w9 ⟨g9, cap9, rfl, hown9, hgr9, hat9⟩
             have hg9 := mid_gb H3.out H4.out hb8 hgr9
             have y0 : w9.cell? ⟨gb, 0, none⟩ = some (.slice an ns.length cn) := by rw [cell_of_row _ gb 0 _ _ _ hg9]; rfl
             have y1 : w9.frozen? ⟨gb, 0, none⟩ = false := frozen_row hg9 0)
          | fail)
      all_goals
        obtain ⟨x1, gt, ct', w12, hrun, hg12, hBf, hsf⟩ := putExp_fin (nodeOf ⟨k, s, xs⟩ (xs.map fun y => ns.getD y.toNat (.word ⟨#[]⟩))) hns HRN.out HB2.out H1.out H2.out H3.out H4.out H5.out H6.out hb8 hnv hown9 hgr9 hat9
        have v0 := cell_of_row _ gb 0 _ _ _ hg12
        have v1 := cell_of_row _ gb 1 _ _ _ hg12
        have v2 := frozen_row hg12 1
        simp only [List.getElem?_toArray, List.getElem?_cons_zero, List.getElem?_cons_succ] at v0 v1
        have HP := Lib.hid (show PutExpPost gb ns R on ot ⟨k, s, xs⟩ w (.returned (.bool true)) _ from .inl ⟨rfl, HOK.out, HKO.out, _, _, _, hBf, HST2.out.trans hsf⟩)
        have HRUN := Lib.hid hrun
        obtain ⟨w10, hw10⟩ : ∃ w10, w9.setCell ⟨gb, 0, none⟩ (.slice (some ⟨g9, 0, none⟩) (ns.length + 1) cap9) = w10 := ⟨_, rfl⟩
        rw [hw10] at x1 HRUN ⊢
        clear hrun hg12 hBf hsf hg9 y0 y1 hown9 hgr9 hat9 hnv hb8 z0 z1 z2 z3 z4 z5 y9 hl7 hl8 hw10
        simp only [Exit.then]
        rename_i K hKK
        refine hKK _ _ ?_
        go_wp2_with (first
          | (at_builtin
             refine wpList_append_run rfl (.tmp 37) (.tmp 38) _ rfl rfl rfl HRUN.out ?_))
        go_ret
        exact HP.out
  · have HP := Lib.hid (show PutExpPost gb ns R on ot ⟨k, s, xs⟩ w (.returned (.bool false)) w1 from .inr ⟨rfl, fun h => hno h.1, on, ot, HST0.out.trans hst1⟩)
    clear hpost hno hB1 hst1 HT q0 q1 q2
    go_wp2
    go_ret
    exact HP.out

end Go.Proofs.YtilijbpbnlnhlaaGreat.Pr
