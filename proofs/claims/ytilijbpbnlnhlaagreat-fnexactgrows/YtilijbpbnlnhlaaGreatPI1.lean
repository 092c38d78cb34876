/-
  THE PRINTER: what it holds; impl's write and whole.
-/
import Derived.Test.YtilijbpbnlnhlaaGreatPXB
import Derived.Deep.AppendSrc
namespace Go.Proofs.YtilijbpbnlnhlaaGreat.Pr
open Go Go.RowKit Go.Maps Go.WideMaps

theorem setCells_eq (g : Nat) : ∀ (vs : List Value) (o : Nat) (w : World), w.setCells g o vs = setAll w g o vs
  | [], o, w => rfl
  | v :: r, o, w => by rw [setAll, ← setCells_eq g r]; rfl

theorem infoU8 : (Tryz.prog.info? 5).map (fun i => (i.zero, i.size, i.bytes)) = some (some (.int .u8 0), 1, 1) := by kernel_rfl

/-- append of a text's bytes onto a row of one's own. -/
theorem append_str (w : World) (base : Nat) (v : Value) (n : Nat) (xs : List Value) (hown : w.ownsRow base 5 1 v n xs) (s : ByteArray) (hn : n + s.size ≤ 1000000) (hbase : base ≤ w.heap.size) (ty : TypeId) :
    ∃ v' w', (Builtin.append_ #[90, 9] ty #[v, .string s]).run Tryz.prog w = .ok v' w' ∧ w'.ownsRow base 5 1 v' (n + s.size) (xs ++ byteCells s) ∧ w.grownBy w' v.ownBlock ∧ (v'.ownBlock = v.ownBlock ∨ v'.ownBlock = some w.heap.size) := by
  obtain ⟨i0, hi0, hz0, hz1, hz2⟩ := info_parts infoU8
  have hsrc : Src Tryz.prog i0.size 9 (.string s) s.size (byteCells s) w := by rw [hz1]; exact Src.ofString w Tryz.underlying9 s
  have hbl := byteCells_length s
  have hlen : (xs ++ byteCells s).length = (n + s.size) * 1 := by rw [List.length_append, hown.1, hbl]; omega
  have grown : ∀ (old : Nat) (row : Option Nat), (w.drew.alloc (.cells ((xs ++ byteCells s).toArray ++ Builtin.zeroCells (Value.cells (.int .u8 0)) (grownCap w (n + s.size) old 5 - (n + s.size))) 5)).ownsRow base 5 1
        (.slice (some ⟨w.heap.size, 0, none⟩) (n + s.size) (grownCap w (n + s.size) old 5)) (n + s.size) (xs ++ byteCells s) ∧
      w.grownBy (w.drew.alloc (.cells ((xs ++ byteCells s).toArray ++ Builtin.zeroCells (Value.cells (.int .u8 0)) (grownCap w (n + s.size) old 5 - (n + s.size))) 5)) row := by
    intro old row
    have hge := grownCap_ge w (n + s.size) old 5
    have hcm : grownCap w (n + s.size) old 5 ≤ maxLen := grownCap_le_maxLen w (n + s.size) old 5 (by unfold maxLen; omega)
    refine ⟨⟨hlen, .inr ⟨w.heap.size, _, _, rfl, hbase, heap_alloc_new w.drew _, hge, hcm, ?_, ?_⟩⟩, ⟨rfl, rfl, rfl, by simp, fun k hk _ => heap_alloc_old w.drew _ (show k < w.drew.heap.size from hk)⟩⟩
    · have hzc : (Value.cells (.int .u8 0)).size = 1 := rfl
      simp only [Array.size_append, List.size_toArray, size_zeroCells, hzc, hlen]
      omega
    · rw [Array.toList_append, ← hlen]
      exact List.take_left
  rcases hown.2 with ⟨rfl, rfl⟩ | ⟨g, cap, cur, rfl, hbg, hg, hnc, hcm, hcs, htake⟩
  · have hx : xs = [] := List.eq_nil_of_length_eq_zero (by simpa using hown.1)
    subst hx
    by_cases hm : s.size = 0
    · have hb : byteCells s = [] := List.eq_nil_of_length_eq_zero (by omega)
      refine ⟨.slice none 0 0, w, ?_, ?_, ⟨rfl, rfl, rfl, Nat.le_refl _, fun _ _ _ => rfl⟩, Or.inl rfl⟩
      · simp [Builtin.append_, run_underlying Tryz.underlying90, run_underlying Tryz.underlying9, sizeOf, typeInfo, hi0, Builtin.lenOf, Builtin.firstCells, hm]
      · rw [hb, hm]; exact World.ownsRow_nil w base 5 1
    · have hr := run_append_grow_src (P := Tryz.prog) w 90 9 ty 5 i0 _ Tryz.underlying90 hi0 hz0 none 0 0 [] (by simp [Builtin.firstCells]) (.string s) s.size (byteCells s) hsrc (by omega) (by omega) (by rw [hz2]; have := growslice_fits (need := 0 + s.size) (old := 0) (bytes := 1) (by omega) (by omega); omega)
      obtain ⟨g1, g2⟩ := grown 0 (Value.ownBlock (.slice none 0 0))
      exact ⟨_, _, hr, g1, g2, .inr rfl⟩
  · by_cases hroom : n + s.size ≤ cap
    · have hr := run_append_room_src (P := Tryz.prog) w 90 9 ty 5 i0 Tryz.underlying90 hi0 g 0 n cap (.string s) s.size (byteCells s) hsrc hroom
        (fun j hj => by rw [cell_of_row _ _ _ _ _ _ hg, hz1]; simp; omega) (fun j hj => by simp [World.frozen?, hg])
      rw [hz1, Nat.mul_one, Nat.zero_add, setCells_eq] at hr
      obtain ⟨⟨cur', h1, h2, h3, h4⟩, h5, h6, h7, h8, h9⟩ := setAll_facts g 5 (byteCells s) n w cur hg (by omega)
      refine ⟨_, _, hr, ⟨hlen, .inr ⟨g, cap, cur', rfl, hbg, h1, hroom, hcm, by omega, ?_⟩⟩, ⟨h7, h8, h9, by omega, fun k _ hk => h6 k (fun e => hk (by simp [Value.ownBlock, e]))⟩, .inl rfl⟩
      apply List.ext_getElem?
      intro j
      rw [List.getElem?_take]
      by_cases hj : j < n
      · rw [if_pos (by omega), List.getElem?_append_left (by rw [hown.1]; omega), Array.getElem?_toList, h3 j (.inl hj), ← htake, List.getElem?_take, if_pos (by omega), Array.getElem?_toList]
      · by_cases hj2 : j < n + s.size
        · have := h4 (j - n) (by omega)
          rw [if_pos (by omega), List.getElem?_append_right (by rw [hown.1]; omega), Array.getElem?_toList, hown.1, show n * 1 = n from Nat.mul_one n]
          rw [show n + (j - n) = j from by omega] at this
          rw [this, List.getElem?_eq_getElem]
        · rw [if_neg (by omega), List.getElem?_eq_none (by omega)]
    · have holds : (Builtin.firstCells i0.size n (.slice (some ⟨g, 0, none⟩) n cap)).run Tryz.prog w.drew = .ok xs.toArray w.drew := by
        rw [hz1]
        exact run_firstCells_some w.drew 1 n ⟨g, 0, none⟩ n cap xs hown.1 (by simpa using hown.cells (g := g) rfl)
      have hr := run_append_grow_src (P := Tryz.prog) w 90 9 ty 5 i0 _ Tryz.underlying90 hi0 hz0 (some ⟨g, 0, none⟩) n cap xs holds (.string s) s.size (byteCells s) hsrc (by omega) (by omega) (by rw [hz2]; have := growslice_fits (need := n + s.size) (old := cap) (bytes := 1) (by omega) (by omega); omega)
      obtain ⟨g1, g2⟩ := grown cap (Value.ownBlock (.slice (some ⟨g, 0, none⟩) n cap))
      exact ⟨_, _, hr, g1, g2, .inr rfl⟩

/-- The printer at gp has written A: the text as it is, or no more than a mark that it is too long. o: where the text lies. -/
structure Prn (gp : Nat) (A : BA) (o : Option Nat) (w : World) : Prop where
  lies : ∃ (v : Value) (T : BA), v.ownBlock = o ∧ w.heap[gp]? = some (.cells #[v, .bool (decide (3000 < A.size))] 119 (0, 0)) ∧ w.ownsRow (gp + 1) 5 1 v T.size (byteCells T) ∧ T.size ≤ 3000 ∧ (A.size ≤ 3000 → T = A)
/-- Only the printer, its text and new blocks have changed. -/
structure Step (gp : Nat) (o o' : Option Nat) (w w' : World) : Prop where
  os : w'.os = w.os
  tape : w'.tape = w.tape
  output : w'.output = w.output
  size : w.heap.size ≤ w'.heap.size
  block : ∀ k, k < w.heap.size → k ≠ gp → o ≠ some k → w'.heap[k]? = w.heap[k]?
  own : o' = o ∨ ∃ g, o' = some g ∧ w.heap.size ≤ g
theorem Step.refl (gp : Nat) (o : Option Nat) (w : World) : Step gp o o w w := ⟨rfl, rfl, rfl, Nat.le_refl _, fun _ _ _ _ => rfl, .inl rfl⟩
theorem Step.trans {gp : Nat} {o o' o'' : Option Nat} {a b c : World} (h : Step gp o o' a b) (k : Step gp o' o'' b c) : Step gp o o'' a c := by
  refine ⟨k.os.trans h.os, k.tape.trans h.tape, k.output.trans h.output, Nat.le_trans h.size k.size, fun x hx h1 h2 => (k.block x (Nat.lt_of_lt_of_le hx h.size) h1 ?_).trans (h.block x hx h1 h2), ?_⟩
  · rcases h.own with e | ⟨g, e, hg⟩
    · rw [e]; exact h2
    · rw [e]; simp; omega
  · rcases k.own with e | ⟨g, e, hg⟩
    · rw [e]; exact h.own
    · exact .inr ⟨g, e, Nat.le_trans h.size hg⟩
theorem Step.alloc (gp : Nat) (o : Option Nat) (w : World) (ob : Obj) : Step gp o o w (w.alloc ob) := ⟨rfl, rfl, rfl, by simp, fun k hk _ _ => heap_alloc_old w ob hk, .inl rfl⟩
/-- Blocks that the printer leaves alone. -/
def Free (S : Nat → Prop) (gp : Nat) (o : Option Nat) (w : World) : Prop := ∀ b, S b → b < w.heap.size ∧ b ≠ gp ∧ o ≠ some b
theorem Free.same {S : Nat → Prop} {gp : Nat} {o o' : Option Nat} {w w' : World} (h : Free S gp o w) (k : Step gp o o' w w') : Same S w w' := fun b hb => k.block b (h b hb).1 (h b hb).2.1 (h b hb).2.2
theorem Free.step {S : Nat → Prop} {gp : Nat} {o o' : Option Nat} {w w' : World} (h : Free S gp o w) (k : Step gp o o' w w') : Free S gp o' w' := fun b hb => by
  obtain ⟨h1, h2, h3⟩ := h b hb
  refine ⟨Nat.lt_of_lt_of_le h1 k.size, h2, ?_⟩
  rcases k.own with e | ⟨g, e, hg⟩
  · rw [e]; exact h3
  · rw [e]; simp; omega
theorem Prn.lt {gp : Nat} {A : BA} {o : Option Nat} {w : World} (h : Prn gp A o w) : gp < w.heap.size := by
  obtain ⟨v, T, _, h1, _⟩ := h.lies
  exact lt_of_block h1
theorem Prn.own {gp : Nat} {A : BA} {o : Option Nat} {w : World} (h : Prn gp A o w) {k : Nat} (hk : o = some k) : gp + 1 ≤ k ∧ k < w.heap.size := by
  obtain ⟨v, T, h0, _, h2, _⟩ := h.lies
  rcases h2.2 with ⟨rfl, _⟩ | ⟨g, cap, cur, rfl, hg, hh, _⟩
  · rw [← h0] at hk; simp [Value.ownBlock] at hk
  · rw [← h0] at hk
    simp only [Value.ownBlock, Option.some.injEq] at hk
    subst hk
    exact ⟨hg, lt_of_block hh⟩
theorem Prn.go {gp : Nat} {A : BA} {o : Option Nat} {w w' : World} (h : Prn gp A o w) (hb : Below w.heap.size w w') : Prn gp A o w' := by
  obtain ⟨v, T, h0, h1, h2, h3, h4⟩ := h.lies
  exact ⟨⟨v, T, h0, (hb.block _ (lt_of_block h1)).trans h1, row_kept h2 hb, h3, h4⟩⟩
theorem Step.below {gp : Nat} {o : Option Nat} {w w' : World} (hb : Below w.heap.size w w') : Step gp o o w w' := ⟨hb.os, hb.tape, hb.output, hb.size, fun k hk _ _ => hb.block k hk, .inl rfl⟩
theorem byteCells_append (a b : BA) : byteCells (a ++ b) = byteCells a ++ byteCells b := by
  unfold byteCells
  rw [ByteArray.data_append, Array.toList_append, List.map_append]

/-- An append of a text whose run is known, at a plain region. -/
theorem wpList_append_run2 {P : Program} {w w' : World} {ops : Array Oper} {rest : List Oper} {o : Oper} {a : Act} {Q : Exit → Act → World → Prop} (hgd : o.guard = none) (s x : Operand) (t tx : TypeId) (ho : o.op = .call { callee := .builtin .append, args := #[s, x], argTypes := #[t, tx] })
    {v u v' : Value} (hs : a.eval s = v) (hx : a.eval x = u) (hrun : (Builtin.append_ #[t, tx] o.type #[v, u]).run P w = .ok v' w') (h : wpList P ops Q rest (a.put o.dst v') w') : wpList P ops Q (o :: rest) a w :=
  wpList_plain hgd fun _ hK => by
    unfold Oper.wp execOp
    simp only [ho, resolve, invoke, builtin, Sem.run_bind, Sem.run_pure, Result.andThen_ok, List.map_toArray, List.map_cons, List.map_nil, hs, hx, hrun]
    exact hK _ _ h

/-- All texts one behind the other. -/
def cat (A : BA) (xs : List BA) : BA := xs.foldl (· ++ ·) A
theorem cat_snoc (A : BA) (xs : List BA) (x : BA) : cat A (xs ++ [x]) = cat A xs ++ x := by unfold cat; rw [List.foldl_append]; rfl

theorem own_kept {w : World} {gp : Nat} {v : Value} {n : Nat} {xs : List Value} {cs : Array Value} (h : w.ownsRow (gp + 1) 5 1 v n xs) (_hg : w.heap[gp]? = some (.cells cs 119 (0, 0))) (j : Nat) (u : Value) : (w.setCell ⟨gp, j, none⟩ u).ownsRow (gp + 1) 5 1 v n xs := by
  refine h.kept (grown_set w gp j u) ?_
  rcases h.2 with ⟨rfl, _⟩ | ⟨g, cap, cur, rfl, hb, _⟩
  · exact .inl rfl
  · right
    simp only [Value.ownBlock, ne_eq, Option.some.injEq]
    omega
/-- The mark is set. -/
theorem prn_mark {gp : Nat} {wr : World} {v : Value} {T : BA} {t : Bool} (h1 : wr.heap[gp]? = some (.cells #[v, .bool t] 119 (0, 0))) (h2 : wr.ownsRow (gp + 1) 5 1 v T.size (byteCells T)) (_h3 : T.size ≤ 3000) (b : Bool) :
    (wr.setCell ⟨gp, 1, none⟩ (.bool b)).heap[gp]? = some (.cells #[v, .bool b] 119 (0, 0)) ∧ (wr.setCell ⟨gp, 1, none⟩ (.bool b)).ownsRow (gp + 1) 5 1 v T.size (byteCells T) ∧ Step gp v.ownBlock v.ownBlock wr (wr.setCell ⟨gp, 1, none⟩ (.bool b)) := by
  refine ⟨?_, own_kept h2 h1 1 _, ⟨rfl, rfl, rfl, by simp, fun k hk h _ => heap_setCell_other wr ⟨gp, 1, none⟩ k _ h, .inl rfl⟩⟩
  rw [heap_setCell_same wr gp 1 _ _ _ h1]
  rfl
/-- The text is put. -/
theorem prn_put {gp : Nat} {wr : World} {v : Value} {T : BA} (h1 : wr.heap[gp]? = some (.cells #[v, .bool false] 119 (0, 0))) (h2 : wr.ownsRow (gp + 1) 5 1 v T.size (byteCells T)) (X : BA) (hT : T.size + X.size ≤ 3000) :
    ∃ v' w2, (∀ ty, (Builtin.append_ #[90, 9] ty #[v, .string X]).run Tryz.prog wr = .ok v' w2) ∧ w2.heap[gp]? = some (.cells #[v, .bool false] 119 (0, 0)) ∧
      (w2.setCell ⟨gp, 0, none⟩ v').heap[gp]? = some (.cells #[v', .bool false] 119 (0, 0)) ∧ (w2.setCell ⟨gp, 0, none⟩ v').ownsRow (gp + 1) 5 1 v' (T ++ X).size (byteCells (T ++ X)) ∧ Step gp v.ownBlock v'.ownBlock wr (w2.setCell ⟨gp, 0, none⟩ v') := by
  have hgl := lt_of_block h1
  obtain ⟨v', w2, hr, ho, hgw, hat⟩ := append_str wr (gp + 1) v T.size (byteCells T) h2 X (by omega) (by omega) 0
  have hgp2 : w2.heap[gp]? = some (.cells #[v, .bool false] 119 (0, 0)) := by
    rw [hgw.block gp hgl ?_]
    · exact h1
    · rcases h2.2 with ⟨rfl, _⟩ | ⟨g, cap, cur, rfl, hb, _⟩
      · simp [Value.ownBlock]
      · simp only [Value.ownBlock, ne_eq, Option.some.injEq]
        omega
  refine ⟨v', w2, fun ty => hr, hgp2, ?_, ?_, ?_⟩
  · rw [heap_setCell_same w2 gp 0 _ _ _ hgp2]
    rfl
  · rw [ByteArray.size_append, byteCells_append]
    exact own_kept ho hgp2 0 _
  · refine ⟨hgw.os, hgw.tape, hgw.output, by rw [World.size_setCell]; exact hgw.size, fun k hk h hne => ?_, ?_⟩
    · rw [heap_setCell_other w2 ⟨gp, 0, none⟩ k _ h]
      exact hgw.block k hk (fun e => hne e.symm)
    · rcases hat with e | e
      · exact .inl e
      · exact .inr ⟨_, e, Nat.le_refl _⟩

def WriteRel (gp : Nat) (A : BA) (o : Option Nat) (xs : List BA) (w : World) (v8 : Value) (wr : World) : Prop :=
  ∃ (k : Nat) (o' : Option Nat), v8 = .int .i64 (k : Int) ∧ k ≤ xs.length ∧ Prn gp (cat A (xs.take k)) o' wr ∧ Step gp o o' w wr

set_option maxRecDepth 100000 in
set_option maxHeartbeats 2000000 in
theorem write_any (gp : Nat) (A : BA) (o : Option Nat) (a : Option Addr) (cap : Nat) (xs : List BA) (S : Nat → Prop) (w : World) (hp : Prn gp A o w) (hx : TxtsIn S w a xs) (hf : Free S gp o w) (hn : xs.length ≤ 1048576) (hl : ∀ x ∈ xs, x.size ≤ 1048576) :
    Calls Tryz.prog 103 #[.pointer (some ⟨gp, 0, none⟩), .slice a xs.length cap] w fun e w' => e = .returned (.tuple #[]) ∧ ∃ o', Prn gp (cat A xs) o' w' ∧ Step gp o o' w w' := by
  have HX := Lib.hid hx
  have HF := Lib.hid hf
  have HP := Lib.hid hp
  have HL := Lib.hid hl
  clear hx hf hp hl
  go_enter Tryz.func103, Tryz.ntmps103
  go_wp2
  go_loopw [8] (fun v8 wr => WriteRel gp A o xs w v8 wr) (fun v8 _ => (xs.length - (intOf v8).toNat))
  case atStart => exact ⟨0, o, rfl, Nat.zero_le _, HP.out, Step.refl _ _ _⟩
  case round =>
    obtain ⟨k, o', rfl, hk, hp, hst⟩ := hrel
    by_cases hlt : k < xs.length
    · obtain ⟨b, off, rfl, hSb, hxk⟩ := (HX.out.kept (HF.out.same hst)) k hlt
      obtain ⟨v, T, h0, h1, h2, h3, h4⟩ := hp.lies
      have hcat := cat_snoc A (xs.take k) xs[k]
      rw [← List.take_succ_eq_append_getElem hlt] at hcat
      have hxs := HL.out _ (List.getElem_mem hlt)
      have c0 := cell_of_row _ gp 0 _ _ _ h1
      have c1 := cell_of_row _ gp 1 _ _ _ h1
      have f0 := frozen_row h1 0
      have f1 := frozen_row h1 1
      simp only [List.getElem?_toArray, List.getElem?_cons_zero, List.getElem?_cons_succ] at c0 c1
      obtain ⟨ao, c', rfl⟩ := owns_shape h2
      generalize hX : xs[k] = X at *
      obtain ⟨D, hD⟩ : ∃ D, D = cat A (xs.take k) := ⟨_, rfl⟩
      rw [← hD] at hcat h1 h4 c1
      by_cases hbig : 3000 < D.size
      · have hd : decide (3000 < D.size) = true := decide_eq_true hbig
        rw [hd] at c1 h1
        obtain ⟨g1, g2, g3⟩ := prn_mark h1 h2 h3 true
        rw [h0] at g3
        have HRR := Lib.hid ((⟨k + 1, o', by go_num, by omega, ⟨⟨_, T, h0, by rw [hcat]; rw [decide_eq_true (by rw [ByteArray.size_append]; omega)]; exact g1, g2, h3, fun h => by rw [hcat, ByteArray.size_append] at h; omega⟩⟩, hst.trans g3⟩ : WriteRel gp A o xs w (.int .i64 ((k : Int) + 1)) (wr.setCell ⟨gp, 1, none⟩ (.bool true))))
        clear g1 g2 g3 h0 h1 h2 h3 h4 hst hp hcat hD hd hSb hX
        go_wp2
        go_roundw
        case rel => exact HRR.out
        case measure => simp [intOf]; omega
      · have hd : decide (3000 < D.size) = false := decide_eq_false hbig
        rw [hd] at c1 h1
        have hTD := h4 (by omega)
        subst hTD
        by_cases hsum : 3000 < T.size + X.size
        · obtain ⟨g1, g2, g3⟩ := prn_mark h1 h2 h3 true
          rw [h0] at g3
          have HRR := Lib.hid ((⟨k + 1, o', by go_num, by omega, ⟨⟨_, T, h0, by rw [hcat]; rw [decide_eq_true (by rw [ByteArray.size_append]; omega)]; exact g1, g2, h3, fun h => by rw [hcat, ByteArray.size_append] at h; omega⟩⟩, hst.trans g3⟩ : WriteRel gp A o xs w (.int .i64 ((k : Int) + 1)) (wr.setCell ⟨gp, 1, none⟩ (.bool true))))
          have hd1 : decide ((3000 : Int) < (T.size : Int) + (X.size : Int)) = true := decide_eq_true (by omega)
          have hd2 : decide (3000 < T.size + X.size) = true := decide_eq_true hsum
          clear g1 g2 g3 h0 h1 h2 h4 hst hp hcat hD hd hSb hX
          go_wp2
          go_roundw
          case rel => exact HRR.out
          case measure => simp [intOf]; omega
        · obtain ⟨g1, g2, g3⟩ := prn_mark h1 h2 h3 false
          rw [h0] at g3
          obtain ⟨v', w2, hrun, e1, e2, e3, e4⟩ := prn_put g1 g2 X (by omega)
          rw [h0] at e4
          obtain ⟨ao2, c2, rfl⟩ := owns_shape e3
          have HRR := Lib.hid ((⟨k + 1, _, by go_num, by omega, ⟨⟨_, T ++ X, rfl, by rw [hcat]; rw [decide_eq_false (by rw [ByteArray.size_append]; omega)]; exact e2, e3, by rw [ByteArray.size_append]; omega, fun h => by rw [hcat]⟩⟩, hst.trans (g3.trans e4)⟩ : WriteRel gp A o xs w (.int .i64 ((k : Int) + 1)) (w2.setCell ⟨gp, 0, none⟩ (.slice ao2 (T ++ X).size c2))))
          have hd1 : decide ((3000 : Int) < (T.size : Int) + (X.size : Int)) = false := decide_eq_false (by omega)
          have hd2 : decide (3000 < T.size + X.size) = false := decide_eq_false hsum
          have y0 := cell_of_row _ gp 0 _ _ _ e1
          have y1 := cell_of_row _ gp 1 _ _ _ e1
          have z0 := frozen_row e1 0
          have z1 := frozen_row e1 1
          simp only [List.getElem?_toArray, List.getElem?_cons_zero, List.getElem?_cons_succ] at y0 y1
          have HRUN := Lib.hid hrun
          clear g1 g2 g3 h0 h1 h2 h4 hst hp hcat hD hd hSb hX e1 e2 e3 e4 hrun
          go_wp2_with (first
            | (at_builtin
               refine wpList_append_run2 rfl (.tmp 39) (.tmp 40) _ _ rfl rfl rfl (HRUN.out _) ?_))
          go_roundw
          case rel =>
            have h := HRR.out
            rw [show (T ++ X).size = T.size + X.size from ByteArray.size_append] at h
            exact h
          case measure => simp [intOf]; omega
    · obtain rfl : k = xs.length := by omega
      rw [List.take_length] at hp
      have HP2 := Lib.hid hp
      clear hp
      go_wp2
      go_end0
      exact ⟨rfl, _, HP2.out, hst⟩

theorem hown_add (g j : Nat) : (⟨g, 0, none⟩ : Addr).add j = ⟨g, j, none⟩ := by
  unfold Addr.add
  by_cases h : j = 0 <;> simp [h]
theorem byteCells_get (T : BA) (j : Nat) (h : j < T.size) : (byteCells T)[j]? = some (.int .u8 (T.data[j].toNat : Int)) := by
  unfold byteCells
  rw [List.getElem?_map, Array.getElem?_toList, Array.getElem?_eq_getElem h]
  rfl
set_option maxRecDepth 100000 in
set_option maxHeartbeats 2000000 in
theorem whole_any (gp : Nat) (A : BA) (o : Option Nat) (w : World) (hp : Prn gp A o w) :
    Calls Tryz.prog 83 #[.pointer (some ⟨gp, 0, none⟩)] w fun e w' => e = .returned (.string (if A.size ≤ 3000 then A else ⟨#[]⟩)) ∧ w' = w := by
  obtain ⟨v, T, h0, h1, h2, h3, h4⟩ := hp.lies
  have c0 := cell_of_row _ gp 0 _ _ _ h1
  have c1 := cell_of_row _ gp 1 _ _ _ h1
  simp only [List.getElem?_toArray, List.getElem?_cons_zero, List.getElem?_cons_succ] at c0 c1
  by_cases hA : A.size ≤ 3000
  · rw [if_pos hA]
    obtain rfl := h4 hA
    rw [decide_eq_false (by omega)] at c1
    have hcv : (convert 90 9 v).run Tryz.prog w = .ok (.string T) w := by
      rcases h2.2 with ⟨rfl, hz⟩ | ⟨g, cap, cur, rfl, hb, hh, _⟩
      · have hT : T = ⟨#[]⟩ := by
          apply ByteArray.ext
          exact Array.eq_empty_of_size_eq_zero hz
        rw [run_convert_bytes_string w 90 9 5 none 0 0 Tryz.underlying90 Tryz.underlying5 Tryz.underlying9, hT]
        rfl
      · have := run_convert_bytes_back w 90 9 5 ⟨g, 0, none⟩ cap T.data.toList Tryz.underlying90 Tryz.underlying5 Tryz.underlying9 (fun j hj => by
          have hj' : j < T.size := by simpa using hj
          rw [hown_add g j, h2.cellAt j (by omega), byteCells_get T j hj']
          simp)
        rw [Array.length_toList] at this
        have e : (⟨T.data.toList.toArray⟩ : BA) = T := by simp
        rw [e] at this
        exact this
    clear h0 h1 h2 h4 hp
    go_enter Tryz.func83, Tryz.ntmps83
    go_wp2
    go_ret
    exact ⟨rfl, rfl⟩
  · rw [if_neg hA]
    rw [decide_eq_true (by omega)] at c1
    clear h0 h1 h2 h4 hp
    go_enter Tryz.func83, Tryz.ntmps83
    go_wp2
    go_ret
    exact ⟨rfl, rfl⟩

end Go.Proofs.YtilijbpbnlnhlaaGreat.Pr
