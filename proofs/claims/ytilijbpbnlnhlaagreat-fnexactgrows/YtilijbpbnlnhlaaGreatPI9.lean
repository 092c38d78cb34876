/-
  impl's literals; slices.Contains of flags.
-/
import Derived.Test.YtilijbpbnlnhlaaGreatPI8
namespace Go.Proofs.YtilijbpbnlnhlaaGreat.Pr
open Go Go.RowKit Go.Maps Go.WideMaps

theorem own_same {w w' : World} {base : Nat} {e : TypeId} {v : Value} {n : Nat} {xs : List Value} (h : w.ownsRow base e 1 v n xs) (hs : ∀ g, v.ownBlock = some g → w'.heap[g]? = w.heap[g]?) : w'.ownsRow base e 1 v n xs := by
  refine ⟨h.1, ?_⟩
  rcases h.2 with h' | ⟨g, cap, cur, hv, hg, hh, r⟩
  · exact .inl h'
  · exact .inr ⟨g, cap, cur, hv, hg, (hs g (by rw [hv]; rfl)).trans hh, r⟩

/-- All these literals can be made. -/
def LitsOk (n : Nat) (R : List Int) (ls : List It) : Prop := ∀ j (h : j < ls.length), TakeOk n (R ++ refs (ls.take j)) ls[j].xs ∧ litOk ls[j] = true

def LitsRelI (gb : Nat) (ns : List Nd) (R : List Int) (on ot : Option Nat) (ls : List It) (w : World) (v6 v13 : Value) (wr : World) : Prop :=
  ∃ (k : Nat) (cl : List Value) (Nk : Nat → Prop), v13 = .int .i64 (k : Int) ∧ k ≤ ls.length ∧ wr.ownsRow w.heap.size 94 1 v6 k cl ∧ (∀ j (_ : j < k) (h2 : j < ls.length), ∃ v : Value, cl[j]? = some v ∧ NodeIn Nk wr (litNode ls[j] (kidsOf ns ls[j].xs)) v) ∧
    Bld gb ns (R ++ refs (ls.take k)) on ot Nk wr ∧ BStep gb on ot on ot w wr ∧ (∀ b, Nk b → v6.ownBlock ≠ some b) ∧ (∀ j (h : j < ls.length), j < k → TakeOk ns.length (R ++ refs (ls.take j)) ls[j].xs ∧ litOk ls[j] = true)

def LitsPost (gb : Nat) (ns : List Nd) (R : List Int) (on ot : Option Nat) (_N : Nat → Prop) (ls : List It) (w : World) (e : Ending) (w' : World) : Prop :=
  (∃ (a : Option Addr) (c : Nat) (N' : Nat → Prop), e = .returned (.tuple #[.slice a ls.length c, .bool true]) ∧ LitsOk ns.length R ls ∧ Bld gb ns (R ++ refs ls) on ot N' w' ∧ BStep gb on ot on ot w w' ∧ ∃ M : Nat → Prop, (∀ b, M b → gb < b ∧ b < w'.heap.size) ∧ (∀ b, N' b → M b) ∧ NodesIn M w' (ls.map fun l => litNode l (kidsOf ns l.xs)) a 0) ∨
  (e = .returned (.tuple #[.slice none 0 0, .bool false]) ∧ ¬ LitsOk ns.length R ls ∧ BStep gb on ot on ot w w')

set_option maxRecDepth 100000 in
set_option maxHeartbeats 4000000 in
theorem literals_any (gb : Nat) (ns : List Nd) (R : List Int) (on ot : Option Nat) (N S : Nat → Prop) (ls : List It) (a : Option Addr) (cap : Nat) (w : World) (hB : Bld gb ns R on ot N w) (hx : RowIn FIt 3 S w a ls) (hS : ∀ b, S b → b < w.heap.size ∧ b ≠ gb ∧ on ≠ some b ∧ ot ≠ some b) (hw : ∀ l ∈ ls, l.wt ≤ 1048576) (hn : ls.length ≤ 1048576) (hns : ns.length ≤ 60) :
    Calls Tryz.prog 80 #[.pointer (some ⟨gb, 0, none⟩), .slice a ls.length cap] w (LitsPost gb ns R on ot N ls w) := by
  have HB := Lib.hid hB
  have HX := Lib.hid hx
  have HS := Lib.hid hS
  have HW := Lib.hid hw
  clear hB hx hS hw
  go_enter Tryz.func80, Tryz.ntmps80
  go_wp2
  go_loopw [6, 13] (fun v6 v13 wr => LitsRelI gb ns R on ot ls w v6 v13 wr) (fun _ v13 _ => (ls.length - (intOf v13).toNat))
  case atStart => exact ⟨0, [], N, rfl, Nat.zero_le _, World.ownsRow_nil w _ _ _, fun j h => by omega, by rw [List.take_zero, show refs ([] : List It) = [] from rfl, List.append_nil]; exact HB.out, BStep.refl _ _ _ _, fun b _ => by simp [Value.ownBlock], fun j h hj => by omega⟩
  case round =>
    obtain ⟨k, cl, Nk, rfl, hk, hown, hcl, hB, hst, hsep, hok⟩ := hrel
    obtain ⟨aL, cL, rfl⟩ := owns_shape hown
    by_cases hlt : k < ls.length
    · have hSw : ∀ b, S b → b < wr.heap.size ∧ b ≠ gb ∧ on ≠ some b ∧ ot ≠ some b := fun b h => ⟨Nat.lt_of_lt_of_le (HS.out b h).1 hst.size, (HS.out b h).2⟩
      have hsm : Same S w wr := fun b hb => by
        obtain ⟨q1, q2, q3, q4⟩ := HS.out b hb
        exact hst.block b q1 q2 q3 q4
      obtain ⟨b, off, vs, rfl, hSb, hvl, hcc, ka, kc, rfl, hI⟩ := RowIn.kept FIt_keeps HX.out hsm k hlt
      obtain ⟨l, hl⟩ : ∃ l, ls[k] = l := ⟨_, rfl⟩
      have hlw := HW.out _ (List.getElem_mem hlt)
      rw [hl] at hI hcc hlw
      have x0 : wr.cell? ⟨b, off + k * 3, none⟩ = some (.int .i64 l.k) := hcc 0 (by simp)
      have x1 : wr.cell? ⟨b, off + k * 3 + 1, none⟩ = some (.string l.s) := hcc 1 (by simp)
      have x2 : wr.cell? ⟨b, off + k * 3 + 2, none⟩ = some (.slice ka l.xs.length kc) := hcc 2 (by simp)
      have hb1 : Below wr.heap.size wr (wr.alloc (.cells #[.int .i64 l.k, .string l.s, .slice ka l.xs.length kc] 33)) := (Below.refl _ _).alloc (Nat.le_refl _) _
      have k1 := heap_alloc_new wr (.cells #[.int .i64 l.k, .string l.s, .slice ka l.xs.length kc] 33)
      obtain ⟨w1, hw1⟩ : ∃ w1, wr.alloc (.cells #[.int .i64 l.k, .string l.s, .slice ka l.xs.length kc] 33) = w1 := ⟨_, rfl⟩
      rw [hw1] at hb1 k1
      have q0 := cell_of_row _ wr.heap.size 0 _ _ _ k1
      have q1 := cell_of_row _ wr.heap.size 1 _ _ _ k1
      have q2 := cell_of_row _ wr.heap.size 2 _ _ _ k1
      simp only [List.getElem?_toArray, List.getElem?_cons_zero, List.getElem?_cons_succ] at q0 q1 q2
      have hB1 := hB.go hb1
      have HL := Lib.hid (literal_any gb ns (R ++ refs (ls.take k)) on ot Nk S l [.int .i64 l.k, .string l.s, .slice ka l.xs.length kc] w1 hB1 ⟨ka, kc, rfl, hI.kept (Same.below (fun b h => (hSw b h).1) hb1)⟩ (fun b h => ⟨Nat.lt_of_lt_of_le (hSw b h).1 hb1.size, (hSw b h).2⟩) hlw hns)
      have hown1 := row_kept hown hb1
      have HCL := Lib.hid hcl
      have HB1 := Lib.hid hB1
      have HOWN := Lib.hid hown
      have HOWN1 := Lib.hid hown1
      have HST := Lib.hid hst
      have HST1 := Lib.hid (hst.trans (BStep.below hb1))
      have HSEP := Lib.hid hsep
      have HOK := Lib.hid hok
      have HHL := Lib.hid hl
      have HBW1 := Lib.hid hb1
      have HBB := Lib.hid hB
      clear hB hB1 hown hown1 hst hsep hok hcl hSb hvl hcc hI hsm hSw k1 hl hb1
      go_wp2_with fail
      refine HL.out.mono ?_
      rintro e w2 ⟨v, ok, N', R', rfl, hB2, hst2, hsub, hsup, hyes, hno⟩
      cases ok with
      | false =>
        have HP := Lib.hid (show LitsPost gb ns R on ot N ls w (.returned (.tuple #[.slice none 0 0, .bool false])) w2 from .inr ⟨rfl, fun h => hno rfl (by have := h k hlt; rw [HHL.out] at this; exact this), HST1.out.trans hst2⟩)
        clear hB2 hst2 hsub hsup hyes hno HL q0 q1 q2
        go_wp2
        go_ret2
        exact HP.out
      | true =>
        obtain ⟨hto, hlo, rfl, hnode⟩ := hyes rfl
        obtain ⟨nt, nx, rfl⟩ := hnode.shape
        have hge : ∀ g, w.heap.size ≤ g → g ≠ gb ∧ on ≠ some g ∧ ot ≠ some g ∧ ¬ N g := by
          intro g hg
          obtain ⟨vn0, vt0, cs0, e1, e2, e3, e4, e5, e6⟩ := HB.out.lies
          refine ⟨?_, ?_, ?_, ?_⟩
          · have := HB.out.lt; omega
          · intro h; have := (own_lt e4 (e1.trans h)).2; omega
          · intro h; have := (own_lt e5 (e2.trans h)).2; omega
          · intro h; have := (HB.out.free g h).2.1; omega
        have hLg : ∀ g, (Value.slice aL k cL).ownBlock = some g → w.heap.size ≤ g ∧ g < wr.heap.size := fun g hg => own_lt HOWN.out hg
        have hown2 : w2.ownsRow w.heap.size 94 1 (.slice aL k cL) k cl := own_same HOWN1.out (fun g hg => by
          obtain ⟨g1, g2⟩ := hLg g hg
          obtain ⟨r1, r2, r3, _⟩ := hge g g1
          exact hst2.block g (Nat.lt_of_lt_of_le g2 HBW1.out.size) r1 r2 r3)
        have hb3 : Below w2.heap.size w2 (w2.alloc (.cells #[.iface nt nx] 94)) := (Below.refl _ _).alloc (Nat.le_refl _) _
        obtain ⟨g', cap', w3, hrun, hown3, hgr3, hat⟩ := append_node (w2.alloc (.cells #[.iface nt nx] 94)) w.heap.size (.slice aL k cL) k cl (hown2.alloc _) nt nx w2.heap.size (heap_alloc_new w2 _) (by omega) (by have := HST1.out.size; have := hst2.size; simp; omega)
        have hNL : ∀ b, N' b → (Value.slice aL k cL).ownBlock ≠ some b := fun b hb he => by
          rcases hsup b hb with h | h
          · exact HSEP.out b h he
          · have := (hLg b he).2
            have := HBW1.out.size
            omega
        have hB3 : Bld gb ns (R ++ refs (ls.take (k + 1))) on ot N' w3 := by
          have e : R ++ refs (ls.take (k + 1)) = R ++ refs (ls.take k) ++ l.xs := by rw [List.take_succ_eq_append_getElem hlt, refs_append, refs_one, HHL.out, List.append_assoc]
          rw [e]
          refine (hB2.go hb3).keep _ hgr3 (fun g hg => ?_)
          obtain ⟨r1, r2, r3, _⟩ := hge g (hLg g hg).1
          exact ⟨r1, r2, r3, fun h => hNL g h hg⟩
        have hN23 : Same N' w2 w3 := fun b hb => by
          have q := hB2.free b hb
          rw [hgr3.block b (by have := hb3.size; omega) (fun e => hNL b hb e.symm), hb3.block b q.2.1]
        have hN12 : Same Nk wr w3 := fun b hb => by
          have q := HBB.out.free b hb
          rw [hN23 b (hsub b hb), hst2.block b (Nat.lt_of_lt_of_le q.2.1 HBW1.out.size) (by omega) q.2.2.1 q.2.2.2]
          exact HBW1.out.block b q.2.1
        have hst3 : BStep gb on ot on ot w w3 := by
          have s2 := HST1.out.trans hst2
          refine ⟨hgr3.os.trans (hb3.os.trans s2.os), hgr3.tape.trans (hb3.tape.trans s2.tape), hgr3.output.trans (hb3.output.trans s2.output), by have := hgr3.size; have := hb3.size; have := s2.size; omega, ?_, .inl rfl, .inl rfl⟩
          intro q hq q1 q2 q3
          rw [hgr3.block q (by have := hb3.size; have := s2.size; omega) (fun e => by have := (hLg q e.symm).1; omega), hb3.block q (by have := s2.size; omega)]
          exact s2.block q hq q1 q2 q3
        have hnext : LitsRelI gb ns R on ot ls w (.slice (some ⟨g', 0, none⟩) (k + 1) cap') (.int .i64 ((k : Int) + 1)) w3 := by
          refine ⟨k + 1, cl ++ [.iface nt nx], N', by go_num, by omega, hown3, ?_, hB3, hst3, ?_, ?_⟩
          · intro j hj hj2
            have hcll : cl.length = k := by have := HOWN.out.1; omega
            by_cases hjk : j < k
            · obtain ⟨v, hv, hn'⟩ := HCL.out j hjk hj2
              exact ⟨v, by rw [List.getElem?_append_left (by omega)]; exact hv, NodeIn.kept hN12 hsub _ _ hn'⟩
            · obtain rfl : j = k := by omega
              refine ⟨.iface nt nx, by rw [List.getElem?_append_right (by omega), hcll, Nat.sub_self]; rfl, ?_⟩
              rw [HHL.out]
              exact NodeIn.kept hN23 (fun _ h => h) _ _ hnode
          · intro b hb he
            simp only [Value.ownBlock, Option.some.injEq] at he
            subst he
            rcases hat with h | h
            · exact hNL _ hb h
            · have := (hB2.free _ hb).2.1
              have := hb3.size
              omega
          · intro j hj hj2
            by_cases hjk : j < k
            · exact HOK.out j hj hjk
            · obtain rfl : j = k := by omega
              rw [HHL.out]
              exact ⟨hto, hlo⟩
        have HN := Lib.hid hnext
        have HRUN := Lib.hid hrun
        clear hnext hrun hst3 hN12 hN23 hB3 hNL hgr3 hown3 hat hb3 hown2 hLg hge hnode hto hlo hB2 hst2 hsub hsup hno hyes HL q0 q1 q2
        go_wp2_with (first
          | (at_builtin
             refine wpList_append_run rfl (.tmp 25) (.tmp 27) _ rfl rfl rfl HRUN.out ?_))
        go_roundw
        case rel => exact HN.out
        case measure => simp [intOf]; omega
    · obtain rfl : k = ls.length := by omega
      rw [List.take_length] at hB
      have hP : LitsPost gb ns R on ot N ls w (.returned (.tuple #[.slice aL ls.length cL, .bool true])) wr := by
        refine .inl ⟨aL, cL, Nk, rfl, fun j h => hok j h h, hB, hst, fun b => gb < b ∧ b < wr.heap.size, fun _ h => h, fun b h => ⟨(hB.free b h).1, (hB.free b h).2.1⟩, NodesIn.of _ _ _ (fun j hj => ?_)⟩
        have hj' : j < ls.length := by simpa using hj
        obtain ⟨v, hv, hn'⟩ := hcl j hj' hj'
        obtain ⟨g, c', hv', hg1, hg2⟩ := hown.form (by omega)
        simp only [Value.slice.injEq] at hv'
        obtain ⟨rfl, _, _⟩ := hv'
        refine ⟨g, 0, v, rfl, ⟨by have := HB.out.lt; omega, hg2⟩, ?_, ?_⟩
        · rw [Nat.zero_add, Nat.zero_add, hown.cellAt j (by omega)]
          exact hv
        · rw [List.getElem_map]
          exact NodeIn.kept (Same.refl _ _) (fun b hb => ⟨(hB.free b hb).1, (hB.free b hb).2.1⟩) _ _ hn'
      have HP := Lib.hid hP
      clear hP hown hcl hok hB hst hsep
      go_wp2
      go_ret2
      exact HP.out

/-- A flag among flags. -/
def IdxRel (tk : List Bool) (w : World) (v8 : Value) (wr : World) : Prop := ∃ k : Nat, v8 = .int .i64 (k : Int) ∧ k ≤ tk.length ∧ wr = w ∧ ∀ j (h : j < tk.length), j < k → tk[j] = true

set_option maxRecDepth 100000 in
set_option maxHeartbeats 2000000 in
theorem index_false (tk : List Bool) (a : Option Addr) (cap base : Nat) (w : World) (h : w.ownsRow base 4 1 (.slice a tk.length cap) tk.length (boolCells tk)) (hn : tk.length ≤ 1048576) :
    Calls Tryz.prog 102 #[.slice a tk.length cap, .bool false] w fun e w' => (∃ r : Int, e = .returned (.int .i64 r) ∧ (0 ≤ r ↔ false ∈ tk)) ∧ w' = w := by
  have HO := Lib.hid h
  clear h
  go_enter Tryz.func102, Tryz.ntmps102
  go_wp2
  go_loopw [8] (fun v8 wr => IdxRel tk w v8 wr) (fun v8 _ => (tk.length - (intOf v8).toNat))
  case atStart => exact ⟨0, rfl, Nat.zero_le _, rfl, fun j h hj => by omega⟩
  case round =>
    obtain ⟨k, rfl, hk, rfl, hall⟩ := hrel
    by_cases hlt : k < tk.length
    · obtain ⟨g, c', hv, hg1, hg2⟩ := HO.out.form (by omega)
      simp only [Value.slice.injEq, true_and] at hv
      obtain ⟨rfl, rfl⟩ := hv
      have hc : wr.cell? ⟨g, k, none⟩ = some (.bool tk[k]) := by
        rw [HO.out.cellAt k (by omega)]
        simp [boolCells, hlt]
      have HALL := Lib.hid hall
      clear hall
      cases hb : tk[k] with
      | false =>
        rw [hb] at hc
        have hmem : false ∈ tk := by rw [← hb]; exact List.getElem_mem hlt
        clear hb
        go_wp2
        go_ret
        exact ⟨⟨_, rfl, by simp [hmem]⟩, rfl⟩
      | true =>
        rw [hb] at hc
        have HRR := Lib.hid ((⟨k + 1, by go_num, by omega, rfl, fun j h hj => by
          by_cases hjk : j < k
          · exact HALL.out j h hjk
          · obtain rfl : j = k := by omega
            exact hb⟩ : IdxRel tk wr (.int .i64 ((k : Int) + 1)) wr))
        clear hb
        go_wp2
        go_roundw
        case rel => exact HRR.out
        case measure => simp [intOf]; omega
    · obtain rfl : k = tk.length := by omega
      have hmem : ¬ false ∈ tk := fun h => by
        obtain ⟨i, hi, he⟩ := List.getElem_of_mem h
        rw [hall i hi hi] at he
        cases he
      clear hall
      go_wp2
      go_ret
      exact ⟨⟨-1, rfl, by simp [hmem]⟩, rfl⟩

set_option maxRecDepth 100000 in
set_option maxHeartbeats 2000000 in
theorem contains_false (tk : List Bool) (a : Option Addr) (cap base : Nat) (w : World) (h : w.ownsRow base 4 1 (.slice a tk.length cap) tk.length (boolCells tk)) (hn : tk.length ≤ 1048576) :
    Calls Tryz.prog 81 #[.slice a tk.length cap, .bool false] w fun e w' => (∃ b : Bool, e = .returned (.bool b) ∧ (b = true ↔ false ∈ tk)) ∧ w' = w := by
  have HI := Lib.hid (index_false tk a cap base w h hn)
  clear h
  go_enter Tryz.func81, Tryz.ntmps81
  go_wp2_with fail
  refine HI.out.mono ?_
  rintro e w1 ⟨⟨r, rfl, hr⟩, rfl⟩
  clear HI
  go_wp2
  go_ret
  exact ⟨⟨_, rfl, by simp []⟩, rfl⟩

end Go.Proofs.YtilijbpbnlnhlaaGreat.Pr
