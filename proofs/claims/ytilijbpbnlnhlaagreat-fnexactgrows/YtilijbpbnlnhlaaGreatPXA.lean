/-
  THE WALK over spec.l04Exps, whole.
-/
import Derived.Test.YtilijbpbnlnhlaaGreatPX9
namespace Go.Proofs.YtilijbpbnlnhlaaGreat.Pr
open Go Go.RowKit Go.Maps Go.WideMaps

/-- The form, and no text of an exp too long. -/
def GoodS (u : Ru) : Prop := Good u.es (u.hd :: u.bd) ∧ ∀ s ∈ txts u.es u.es.length, s.size ≤ 3000
def ExpsPost (u : Ru) (w : World) (e : Ending) (w' : World) : Prop :=
  ∃ (v : Value) (ok : Bool), e = .returned (.tuple #[v, .bool ok]) ∧ Below w.heap.size w w' ∧ (ok = false → ¬ GoodS u) ∧
    (ok = true → GoodS u ∧ ∃ g : Nat, v = .slice (some ⟨g, 0, none⟩) u.es.length u.es.length ∧ TxtsIn (Seg w.heap.size w'.heap.size) w' (some ⟨g, 0, none⟩) (txts u.es u.es.length))

theorem made_int (w : World) (n : Nat) (hn : n ≤ 60) : (Instr.makeSlice 23 (.int .i64 (n : Int)) (.int .i64 (n : Int))).run Tryz.prog w = .ok (.slice (some ⟨w.heap.size, 0, none⟩) n n) (w.alloc (.cells (intCells (List.replicate n 0)).toArray 3)) := by
  obtain ⟨i0, hi0, hz0, hz1, hz2⟩ := info_parts infoIntS
  rw [run_make w 23 3 i0 _ Tryz.underlying23 hi0 hz0 .i64 .i64 _ _ (by omega) (by omega) (by rw [hz2]; omega) (by omega), hz1, Int.toNat_natCast, Nat.mul_one]
  have : madeCells #[Value.int .i64 0] n = (intCells (List.replicate n 0)).toArray := by
    apply Array.ext'
    rw [toList_madeCells_one]
    simp [intCells]
  rw [← this]
  rfl
theorem made_txt (w : World) (n : Nat) (hn : n ≤ 60) : (Instr.makeSlice 30 (.int .i64 (n : Int)) (.int .i64 (n : Int))).run Tryz.prog w = .ok (.slice (some ⟨w.heap.size, 0, none⟩) n n) (w.alloc (.cells (txtCells (List.replicate n ⟨#[]⟩)).toArray 9)) := by
  obtain ⟨i0, hi0, hz0, hz1, hz2⟩ := info_parts infoStringS
  rw [run_make w 30 9 i0 _ Tryz.underlying30 hi0 hz0 .i64 .i64 _ _ (by omega) (by omega) (by rw [hz2]; omega) (by omega), hz1, Int.toNat_natCast, Nat.mul_one]
  have : madeCells #[Value.string ⟨#[]⟩] n = (txtCells (List.replicate n ⟨#[]⟩)).toArray := by
    apply Array.ext'
    rw [toList_madeCells_one]
    simp [txtCells]
  rw [← this]
  rfl
theorem cnts_nil (n : Nat) : cnts n [] = List.replicate n 0 := by
  apply List.ext_getElem
  · simp [cnts]
  · intro i h1 h2
    simp [cnts]

/-- An append whose run is known, at a plain region. -/
theorem wpList_append_run {P : Program} {w w' : World} {ops : Array Oper} {rest : List Oper} {o : Oper} {a : Act} {Q : Exit → Act → World → Prop} (hgd : o.guard = none) (s x : Operand) (t : TypeId) (ho : o.op = .call { callee := .builtin .append, args := #[s, x], argTypes := #[t, t] })
    {v u v' : Value} (hs : a.eval s = v) (hx : a.eval x = u) (hrun : ∀ ty, (Builtin.append_ #[t, t] ty #[v, u]).run P w = .ok v' w') (h : wpList P ops Q rest (a.put o.dst v') w') : wpList P ops Q (o :: rest) a w :=
  wpList_plain hgd fun _ hK => by
    unfold Oper.wp execOp
    simp only [ho, resolve, invoke, builtin, Sem.run_bind, Sem.run_pure, Result.andThen_ok, List.map_toArray, List.map_cons, List.map_nil, hs, hx, hrun]
    exact hK _ _ h

set_option maxRecDepth 1000000 in
set_option maxHeartbeats 4000000 in
theorem exps_many (u : Ru) (vs : List Value) (S : Nat → Prop) (w : World) (hF : FRu S w vs u) (hn : ¬ u.es.length ≤ 60) (hl : u.es.length ≤ 1048576) : Calls Tryz.prog 46 #[.agg vs.toArray] w (ExpsPost u w) := by
  obtain ⟨aes, ces, ahd, chd, abd, cbd, rfl, r0, r1, r2⟩ := hF
  have hd : decide ((60 : Int) < (u.es.length : Int)) = true := decide_eq_true (by omega)
  have hd2 : decide (60 < u.es.length) = true := decide_eq_true (by omega)
  have HP := Lib.hid (fun (v : Value) (w' : World) (hb : Below w.heap.size w w') => (⟨v, false, rfl, hb, fun _ g => hn g.1.few, fun h => by cases h⟩ : ExpsPost u w (.returned (.tuple #[v, .bool false])) w'))
  clear r0 r1 r2
  have hb0 : Below w.heap.size w (w.alloc (Obj.cells #[.slice aes u.es.length ces, .int .i64 u.hd.k, .string u.hd.s, .slice ahd u.hd.xs.length chd, .slice abd u.bd.length cbd] 36)) := (Below.refl _ _).alloc (Nat.le_refl _) _
  go_enter Tryz.func46, Tryz.ntmps46
  go_wp2
  go_ret2
  exact HP.out _ _ (by first | exact hb0 | exact below_alloc hb0 _)

set_option maxRecDepth 1000000 in
set_option maxHeartbeats 4000000 in
theorem exps_few (c : Ctx) : Calls Tryz.prog 46 #[c.val] c.w (ExpsPost c.u c.w) := by
  have hd : decide ((60 : Int) < (c.u.es.length : Int)) = false := decide_eq_false (by have := c.few; omega)
  have hd2 : decide (60 < c.u.es.length) = false := decide_eq_false (by have := c.few; omega)
  have hnn := c.few
  obtain ⟨w1, hw1⟩ : ∃ w1, c.w.alloc (.cells #[.slice c.aes c.u.es.length c.ces, .int .i64 c.u.hd.k, .string c.u.hd.s, .slice c.ahd c.u.hd.xs.length c.chd, .slice c.abd c.u.bd.length c.cbd] 36) = w1 := ⟨_, rfl⟩
  have hs1 : w1.heap.size = c.w.heap.size + 1 := by rw [← hw1]; simp
  have hm1 := made_int w1 c.u.es.length hnn
  obtain ⟨w2, hw2⟩ : ∃ w2, w1.alloc (.cells (intCells (List.replicate c.u.es.length 0)).toArray 3) = w2 := ⟨_, rfl⟩
  have hs2 : w2.heap.size = c.w.heap.size + 2 := by rw [← hw2]; simp; omega
  have hm2 := made_txt w2 c.u.es.length hnn
  obtain ⟨w3, hw3⟩ : ∃ w3, w2.alloc (.cells (txtCells (List.replicate c.u.es.length ⟨#[]⟩)).toArray 9) = w3 := ⟨_, rfl⟩
  rw [hw2, hs1] at hm1
  rw [hw3, hs2] at hm2
  have hb1 : Below c.w.heap.size c.w w1 := by rw [← hw1]; exact (Below.refl _ _).alloc (Nat.le_refl _) _
  have hb2 : Below w1.heap.size w1 w2 := by rw [← hw2]; exact (Below.refl _ _).alloc (Nat.le_refl _) _
  have hb3 : Below w2.heap.size w2 w3 := by rw [← hw3]; exact (Below.refl _ _).alloc (Nat.le_refl _) _
  have hp1 : w1.heap[c.w.heap.size]? = some (.cells c.cells.toArray 36 (0, 0)) := by rw [← hw1]; exact heap_alloc_new c.w _
  have hu2 : w2.heap[w1.heap.size]? = some (.cells (intCells (List.replicate c.u.es.length 0)).toArray 3 (0, 0)) := by rw [← hw2]; exact heap_alloc_new w1 _
  have ho3 : w3.heap[w2.heap.size]? = some (.cells (txtCells (List.replicate c.u.es.length ⟨#[]⟩)).toArray 9 (0, 0)) := by rw [← hw3]; exact heap_alloc_new w2 _
  have hst : ExpSt c 0 w3 := by
    refine ⟨Nat.zero_le _, ⟨?_, ?_, ?_, ?_⟩, fun j h hj => by omega, fun j h hj => by omega, by simp [txts]⟩
    · exact (hb3.block _ (by omega)).trans ((hb2.block _ (by omega)).trans hp1)
    · rw [List.take_zero]
      show _ = some (Obj.cells (intCells (cnts c.u.es.length [])).toArray _ _)
      rw [cnts_nil, ← hs1]
      exact (hb3.block _ (by omega)).trans hu2
    · rw [← hs2]
      show _ = some (Obj.cells (txtCells ([] ++ List.replicate (c.u.es.length - 0) (⟨#[]⟩ : BA))).toArray _ _)
      rw [List.nil_append, Nat.sub_zero]
      exact ho3
    · exact below_step hb1 (hb2.trans (hb3.mono hb2.size))
  have q0 := cell_of_row _ c.w.heap.size 0 _ _ _ hp1
  have q0' := cell_of_row _ c.w.heap.size 0 _ _ _ ((hb2.block _ (by omega)).trans hp1)
  simp only [Ctx.cells, List.getElem?_toArray, List.getElem?_cons_zero] at q0 q0'
  have HST := Lib.hid hst
  have HW1 := Lib.hid hw1
  clear hst hb1 hb2 hb3 hp1 hu2 ho3 hw2 hw3 hs1 hs2
  show Calls Tryz.prog 46 #[.agg #[.slice c.aes c.u.es.length c.ces, .int .i64 c.u.hd.k, .string c.u.hd.s, .slice c.ahd c.u.hd.xs.length c.chd, .slice c.abd c.u.bd.length c.cbd]] c.w (ExpsPost c.u c.w)
  go_enter Tryz.func46, Tryz.ntmps46
  go_wp2
  change Code.wp Tryz.prog (Code.loop expBody) _ _ _
  refine exps_loop_at _ c w3 _ ?_ ?_ HST.out rfl
  · intro a w' hng hb hdf h3
    simp only [Exit.inBlock, Exit.then]
    refine bodyPost_ret (results_tmp2 rfl _ _ _) hdf ?_
    rw [h3]
    exact ⟨_, _, rfl, hb, fun _ => hng, fun h => by cases h⟩
  · intro u4 w4 st4
    have hsz4 := st4.lies.size
    have hb4 : Below w4.heap.size w4 (w4.alloc (.cells #[.int .i64 c.u.hd.k, .string c.u.hd.s, .slice c.ahd c.u.hd.xs.length c.chd] 33)) := (Below.refl _ _).alloc (Nat.le_refl _) _
    have k4 := heap_alloc_new w4 (.cells #[.int .i64 c.u.hd.k, .string c.u.hd.s, .slice c.ahd c.u.hd.xs.length c.chd] 33)
    have hs5 : (w4.alloc (.cells #[.int .i64 c.u.hd.k, .string c.u.hd.s, .slice c.ahd c.u.hd.xs.length c.chd] 33)).heap.size = w4.heap.size + 1 := by simp
    obtain ⟨w5, hw5⟩ : ∃ w5, w4.alloc (.cells #[.int .i64 c.u.hd.k, .string c.u.hd.s, .slice c.ahd c.u.hd.xs.length c.chd] 33) = w5 := ⟨_, rfl⟩
    rw [hw5] at hb4 k4 hs5
    have hL5 := st4.lies.go hb4
    have hrow5 : w5.ownsRow c.w.heap.size 33 3 (.slice (some ⟨w4.heap.size, 0, none⟩) 1 1) 1 [.int .i64 c.u.hd.k, .string c.u.hd.s, .slice c.ahd c.u.hd.xs.length c.chd] :=
      ⟨rfl, .inr ⟨w4.heap.size, 1, _, rfl, by omega, k4, Nat.le_refl _, by unfold maxLen; omega, rfl, rfl⟩⟩
    obtain ⟨gl, lc, w6, hrun, hgrow, hgl, hglt, hRow⟩ : ∃ gl cap w1, (∀ ty, (Builtin.append_ #[34, 34] ty #[.slice (some ⟨w4.heap.size, 0, none⟩) 1 1, .slice c.abd c.u.bd.length c.cbd]).run Tryz.prog w5 = .ok (.slice (some ⟨gl, 0, none⟩) (1 + c.u.bd.length) cap) w1) ∧ w5.grownBy w1 (some w4.heap.size) ∧ (gl = w4.heap.size ∨ gl = w5.heap.size) ∧ gl < w1.heap.size ∧ RowIn FIt 3 (fun b => c.S b ∨ b = gl) w1 (some ⟨gl, 0, none⟩) (c.u.hd :: c.u.bd) := by
      obtain ⟨gl, cap, w1, h1, h2⟩ := append_lits c w5 hL5.below w4.heap.size (by omega) hrow5 0
      exact ⟨gl, cap, w1, fun ty => h1, h2⟩
    have hb6 : Below w4.heap.size w5 w6 := ⟨hgrow.os, hgrow.tape, hgrow.output, hgrow.size, fun k hk => hgrow.block k (by omega) (by simp; omega)⟩
    have hL6 : Lies c (cnts c.u.es.length (refs c.u.es ++ refs ((c.u.hd :: c.u.bd).take 0))) (txts c.u.es c.u.es.length) w6 := by
      have e1 : refs c.u.es ++ refs ((c.u.hd :: c.u.bd).take 0) = refs (c.u.es.take c.u.es.length) := by rw [List.take_length]; simp [refs]
      have e2 : txts c.u.es c.u.es.length = txts c.u.es c.u.es.length ++ List.replicate (c.u.es.length - c.u.es.length) (⟨#[]⟩ : BA) := by rw [Nat.sub_self]; simp
      rw [e1, e2]
      exact ⟨(hb6.block _ (by omega)).trans hL5.par, (hb6.block _ (by omega)).trans hL5.used, (hb6.block _ (by omega)).trans hL5.outs, hL5.below.trans (hb6.mono (by omega))⟩
    have hst6 : LitsSt c gl 0 w6 := ⟨Nat.zero_le _, hL6, hRow, by simp⟩
    have hgl3 : c.w.heap.size + 3 ≤ gl := by omega
    have r1 := cell_of_row _ c.w.heap.size 1 _ _ _ st4.lies.par
    have r2 := cell_of_row _ c.w.heap.size 2 _ _ _ st4.lies.par
    have r3 := cell_of_row _ c.w.heap.size 3 _ _ _ st4.lies.par
    have r4 := cell_of_row _ c.w.heap.size 4 _ _ _ hL5.par
    simp only [Ctx.cells, List.getElem?_toArray, List.getElem?_cons_zero, List.getElem?_cons_succ] at r1 r2 r3 r4
    have HST4 := Lib.hid st4
    have HST6 := Lib.hid hst6
    have HRUN := Lib.hid hrun
    have HW5 := Lib.hid hw5
    clear st4 hst6 hL5 hL6 hrow5 hRow hb6 hgrow k4 hb4 hrun hgl hglt hd hd2 hw1 hm1 hm2 q0 q0' HST HW1 hs5
    rename_i K hKK
    refine hKK _ _ ?_
    go_wp2_with (first
      | (at_builtin
         refine wpList_append_run rfl (.tmp 164) (.tmp 166) _ rfl rfl rfl HRUN.out ?_))
    change Code.wp Tryz.prog (Code.loop litsBody) _ _ _
    refine lits_loop_at _ c gl lc hgl3 w6 _ ?_ ?_ HST6.out rfl
    · intro a w' hng hb hdf h3
      simp only [Exit.inBlock, Exit.then]
      refine bodyPost_ret (results_tmp2 rfl _ _ _) hdf ?_
      rw [h3]
      exact ⟨_, _, rfl, hb, fun _ => hng, fun h => by cases h⟩
    · intro u7 w7 st7
      have hrl : (refs c.u.es ++ refs (c.u.hd :: c.u.bd)).length ≤ 4194304 := by
        have h2 := refs_len _ c.esw
        have h3 := refs_len _ c.lsw
        rw [List.length_append]
        omega
      have hL7 := st7.lies
      have hok7 := st7.ok
      rw [List.take_length] at hL7 hok7
      have HL7 := Lib.hid hL7
      have HOK7 := Lib.hid hok7
      clear st7 hL7 hok7
      rename_i K2 hKK2
      refine hKK2 _ _ ?_
      go_wp2
      change Code.wp Tryz.prog (Code.loop onceBody) _ _ _
      refine once_loop_at _ c (refs c.u.es ++ refs (c.u.hd :: c.u.bd)) hrl _ w7 HL7.out ?_ _ ?_ ?_ rfl
      · rintro ⟨j, hj, hne⟩ ⟨g, _⟩
        exact hne (g.once j hj)
      · intro a w' hng hb hdf h3
        simp only [Exit.inBlock, Exit.then]
        refine bodyPost_ret (results_tmp2 rfl _ _ _) hdf ?_
        rw [h3]
        exact ⟨_, _, rfl, hb, fun _ => hng, fun h => by cases h⟩
      · intro u8 honce
        have hP : ExpsPost c.u c.w (.returned (.tuple #[.slice (some ⟨c.w.heap.size + 2, 0, none⟩) c.u.es.length c.u.es.length, .bool true])) w7 := by
          refine ⟨_, _, rfl, HL7.out.below, (fun h => by cases h), fun _ => ⟨⟨⟨c.few, ?_, ?_, HOK7.out, honce⟩, HST4.out.short⟩, _, rfl, ?_⟩⟩
          · exact fun i h x hx => HST4.out.kid i h h x hx
          · intro e he
            obtain ⟨i, hi, rfl⟩ := List.getElem_of_mem he
            exact HST4.out.kind i hi hi
          · intro j hj
            refine ⟨_, _, rfl, ⟨by omega, lt_of_block HL7.out.outs⟩, ?_⟩
            rw [Nat.zero_add, cell_row HL7.out.outs (j := j) (by simpa [txtCells] using hj)]
            simp only [txtCells, List.getElem_map]
        have HP := Lib.hid hP
        clear hP
        rename_i K3 hKK3
        refine hKK3 _ _ ?_
        go_wp2
        go_ret2
        exact HP.out

theorem exps_whole (u : Ru) (vs : List Value) (S : Nat → Prop) (w : World) (hF : FRu S w vs u) (hS : ∀ b, S b → b < w.heap.size) (hw : u.wt ≤ 1048576) : Calls Tryz.prog 46 #[.agg vs.toArray] w (ExpsPost u w) := by
  by_cases hn : u.es.length ≤ 60
  · obtain ⟨aes, ces, ahd, chd, abd, cbd, rfl, r0, r1, r2⟩ := hF
    exact exps_few { u := u, w := w, S := S, aes := aes, ces := ces, ahd := ahd, chd := chd, abd := abd, cbd := cbd, hS := hS, hes := r0, hhd := r1, hbd := r2, few := hn, wt := hw }
  · exact exps_many u vs S w hF hn (by have := hw; unfold Ru.wt wtExpS at this; omega)

end Go.Proofs.YtilijbpbnlnhlaaGreat.Pr
