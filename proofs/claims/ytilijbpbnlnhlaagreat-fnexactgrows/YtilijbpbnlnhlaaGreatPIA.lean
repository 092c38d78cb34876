/-
  impl's newRuleNode and RuleText.
-/
import Derived.Test.YtilijbpbnlnhlaaGreatPM3
namespace Go.Proofs.YtilijbpbnlnhlaaGreat.Pr
open Go Go.RowKit Go.Maps Go.WideMaps

def NRPost (u : Ru) (w : World) (e : Ending) (w' : World) : Prop :=
  (∃ (v : Value) (S : Nat → Prop), e = .returned (.tuple #[v, .bool true]) ∧ MakeOk u ∧ NodeIn S w' (ruleNd u) v ∧ (∀ b, S b → w.heap.size ≤ b ∧ b < w'.heap.size) ∧ Below w.heap.size w w') ∨
  (e = .returned (.tuple #[.nilIface, .bool false]) ∧ ¬ MakeOk u ∧ Below w.heap.size w w')

def NRRel (u : Ru) (gb : Nat) (w2 : World) (v26 : Value) (wr : World) : Prop :=
  ∃ (i : Nat) (on ot : Option Nat) (N : Nat → Prop), v26 = .int .i64 (i : Int) ∧ i ≤ u.es.length ∧ Bld gb (nodesOf u.es i) (refs (u.es.take i)) on ot N wr ∧ BStep gb none none on ot w2 wr ∧ ∀ j (h : j < u.es.length), j < i → TakeOk j (refs (u.es.take j)) u.es[j].xs ∧ kindOk u.es[j] = true

theorem BStep.belowOf {gb : Nat} {on ot on' ot' : Option Nat} {a w w' : World} {B : Nat} (h : BStep gb on ot on' ot' w w') (hb : Below B a w) (hg : B ≤ gb) (hn : ∀ k, on = some k → B ≤ k) (ht : ∀ k, ot = some k → B ≤ k) (hB : B ≤ w.heap.size) : Below B a w' :=
  ⟨h.os.trans hb.os, h.tape.trans hb.tape, h.output.trans hb.output, Nat.le_trans hb.size h.size, fun k hk => (h.block k (by omega) (by omega) (fun e => by have := hn k e; omega) (fun e => by have := ht k e; omega)).trans (hb.block k hk)⟩

set_option maxRecDepth 100000 in
set_option maxHeartbeats 4000000 in
theorem newRule_any (u : Ru) (vs : List Value) (S : Nat → Prop) (w : World) (hF : FRu S w vs u) (hS : ∀ b, S b → b < w.heap.size) (hw : u.wt ≤ 1048576) : Calls Tryz.prog 66 #[.agg vs.toArray] w (NRPost u w) := by
  obtain ⟨aes, ces, ahd, chd, abd, cbd, rfl, r0, r1, r2⟩ := hF
  have hel : u.es.length ≤ 1048576 := by have := hw; unfold Ru.wt wtExpS at this; omega
  have hbl : u.bd.length ≤ 1048576 := by have := hw; unfold Ru.wt wtLitS at this; omega
  have hhw : u.hd.wt ≤ 1048576 := by have := hw; unfold Ru.wt at this; omega
  have hbw : ∀ l ∈ u.bd, l.wt ≤ 1048576 := fun l hl => by
    have h1 := wsum_mem It.wt hl
    have := hw
    unfold Ru.wt wtLitS at this
    omega
  have hew : ∀ l ∈ u.es, l.wt ≤ 1048576 := fun l hl => by
    have h1 := wsum_mem It.wt hl
    have := hw
    unfold Ru.wt wtExpS at this
    omega
  have hb0 : Below w.heap.size w (w.alloc (.cells #[.slice aes u.es.length ces, .int .i64 u.hd.k, .string u.hd.s, .slice ahd u.hd.xs.length chd, .slice abd u.bd.length cbd] 36)) := (Below.refl _ _).alloc (Nat.le_refl _) _
  have k0 := heap_alloc_new w (.cells #[.slice aes u.es.length ces, .int .i64 u.hd.k, .string u.hd.s, .slice ahd u.hd.xs.length chd, .slice abd u.bd.length cbd] 36)
  have hs0 : (w.alloc (.cells #[.slice aes u.es.length ces, .int .i64 u.hd.k, .string u.hd.s, .slice ahd u.hd.xs.length chd, .slice abd u.bd.length cbd] 36)).heap.size = w.heap.size + 1 := by simp
  obtain ⟨W0, hW0⟩ : ∃ W0, w.alloc (.cells #[.slice aes u.es.length ces, .int .i64 u.hd.k, .string u.hd.s, .slice ahd u.hd.xs.length chd, .slice abd u.bd.length cbd] 36) = W0 := ⟨_, rfl⟩
  rw [hW0] at hb0 k0 hs0
  have q0 := cell_of_row _ w.heap.size 0 _ _ _ k0
  have q1 := cell_of_row _ w.heap.size 1 _ _ _ k0
  have q2 := cell_of_row _ w.heap.size 2 _ _ _ k0
  have q3 := cell_of_row _ w.heap.size 3 _ _ _ k0
  have q4 := cell_of_row _ w.heap.size 4 _ _ _ k0
  simp only [List.getElem?_toArray, List.getElem?_cons_zero, List.getElem?_cons_succ] at q0 q1 q2 q3 q4
  by_cases hbig : 60 < u.es.length
  · have hd : decide ((60 : Int) < (u.es.length : Int)) = true := decide_eq_true (by omega)
    have hd2 : decide (60 < u.es.length) = true := decide_eq_true hbig
    have HP := Lib.hid (show NRPost u w (.returned (.tuple #[.nilIface, .bool false])) W0 from .inr ⟨rfl, fun h => by have := h.few; omega, hb0⟩)
    clear r0 r1 r2 k0 hs0
    go_enter Tryz.func66, Tryz.ntmps66
    go_wp2
    go_ret2
    exact HP.out
  have hd : decide ((60 : Int) < (u.es.length : Int)) = false := decide_eq_false (by omega)
  have hd2 : decide (60 < u.es.length) = false := decide_eq_false hbig
  by_cases hh : u.hd.k = 1
  case neg =>
    have hne : (u.hd.k != 1) = true := by simpa using hh
    have HP := Lib.hid (show NRPost u w (.returned (.tuple #[.nilIface, .bool false])) W0 from .inr ⟨rfl, fun h => hh h.head, hb0⟩)
    clear r0 r1 r2 k0 hs0 hh
    go_enter Tryz.func66, Tryz.ntmps66
    go_wp2
    go_ret2
    exact HP.out
  case pos =>
  have hne : (u.hd.k != 1) = false := by simp [hh]
  -- the builder's block
  have hb1 : Below W0.heap.size W0 (W0.alloc (.cells #[.slice none 0 0, .slice none 0 0] 110)) := (Below.refl _ _).alloc (Nat.le_refl _) _
  have k1 := heap_alloc_new W0 (.cells #[.slice none 0 0, .slice none 0 0] 110)
  obtain ⟨W1, hW1⟩ : ∃ W1, W0.alloc (.cells #[.slice none 0 0, .slice none 0 0] 110) = W1 := ⟨_, rfl⟩
  have hs1 : W1.heap.size = W0.heap.size + 1 := by rw [← hW1]; simp
  rw [hW1] at hb1 k1
  have hS1 : ∀ b, S b → b < W1.heap.size ∧ b ≠ W0.heap.size := fun b h => by have := hS b h; have := hb0.size; omega
  have hsm1 : Same S w W1 := (Same.below hS hb0).trans (Same.below (fun b h => Nat.lt_of_lt_of_le (hS b h) hb0.size) hb1)
  have hB1 : Bld W0.heap.size [] [] none none (fun _ => False) W1 := ⟨⟨_, _, [], rfl, rfl, k1, World.ownsRow_nil W1 _ _ _, World.ownsRow_nil W1 _ _ _, fun i h => by simp at h⟩, fun b h => h.elim⟩
  have K1 := (hb1.block _ (lt_of_block k0)).trans k0
  have y0 := cell_of_row _ w.heap.size 0 _ _ _ K1
  simp only [List.getElem?_toArray, List.getElem?_cons_zero] at y0
  have hbw1 : Below w.heap.size w W1 := below_step hb0 hb1
  have HST := Lib.hid (show NRRel u W0.heap.size W1 (.int .i64 0) W1 from ⟨0, none, none, _, rfl, Nat.zero_le _, hB1, BStep.refl _ _ _ _, fun j h hj => by omega⟩)
  have HK1 := Lib.hid K1
  have HR0 := Lib.hid (RowIn.kept FIt_keeps r0 hsm1)
  have HR1 := Lib.hid (r1.kept hsm1)
  have HR2 := Lib.hid (RowIn.kept FIt_keeps r2 hsm1)
  have HS1 := Lib.hid hS1
  have HBW := Lib.hid hbw
  have HEW := Lib.hid hew
  have HBW1 := Lib.hid hbw1
  have HHH := Lib.hid hh
  have HSZ := Lib.hid (show W0.heap.size = w.heap.size + 1 ∧ W1.heap.size = W0.heap.size + 1 from ⟨hs0, hs1⟩)
  -- below, from any step of the builder
  have HBEL := Lib.hid (fun (on ot : Option Nat) (W : World) (h : BStep W0.heap.size none none on ot W1 W) => (h.belowOf hbw1 (by omega) (fun k h => by cases h) (fun k h => by cases h) hbw1.size : Below w.heap.size w W))
  have HPAR := Lib.hid (fun (on ot : Option Nat) (W : World) (h : BStep W0.heap.size none none on ot W1 W) => ((h.block w.heap.size (by omega) (by omega) (by simp) (by simp)).trans K1 : W.heap[w.heap.size]? = _))
  have HSM := Lib.hid (fun (on ot : Option Nat) (W : World) (h : BStep W0.heap.size none none on ot W1 W) => (fun b hb => h.block b (hS1 b hb).1 (hS1 b hb).2 (by simp) (by simp) : Same S W1 W))
  have HSF := Lib.hid (fun (on ot : Option Nat) (W : World) (h : BStep W0.heap.size none none on ot W1 W) (b : Nat) (hb : S b) => (⟨Nat.lt_of_lt_of_le (hS1 b hb).1 h.size, (hS1 b hb).2, by
      rcases h.own.1 with e | ⟨g, e, hg⟩
      · rw [e]; simp
      · rw [e]; have := (hS1 b hb).1; simp; omega, by
      rcases h.own.2 with e | ⟨g, e, hg⟩
      · rw [e]; simp
      · rw [e]; have := (hS1 b hb).1; simp; omega⟩ : b < W.heap.size ∧ b ≠ W0.heap.size ∧ on ≠ some b ∧ ot ≠ some b))
  clear r0 r1 r2 k0 k1 hb0 hb1 hs0 hs1 hS1 hsm1 hB1 K1 hbw hew hbw1 hh hS
  go_enter Tryz.func66, Tryz.ntmps66
  go_wp2
  clear q0 q1 q2 q3 q4 y0
  go_loopw [26] (fun v26 wr => NRRel u W0.heap.size W1 v26 wr) (fun v26 _ => (u.es.length - (intOf v26).toNat))
  case atStart => exact HST.out
  case round =>
    obtain ⟨i, on, ot, N, rfl, hi, hB, hst, hok⟩ := hrel
    have hnl := nodesOf_length u.es i
    by_cases hlt : i < u.es.length
    · obtain ⟨b, off, vs, rfl, hSb, hvl, hcc, ka, kc, rfl, hI⟩ := RowIn.kept FIt_keeps HR0.out (HSM.out _ _ _ hst) i hlt
      obtain ⟨x, hx⟩ : ∃ x, u.es[i] = x := ⟨_, rfl⟩
      have hxw := HEW.out _ (List.getElem_mem hlt)
      rw [hx] at hI hcc hxw
      have x0 : wr.cell? ⟨b, off + i * 3, none⟩ = some (.int .i64 x.k) := hcc 0 (by simp)
      have x1 : wr.cell? ⟨b, off + i * 3 + 1, none⟩ = some (.string x.s) := hcc 1 (by simp)
      have x2 : wr.cell? ⟨b, off + i * 3 + 2, none⟩ = some (.slice ka x.xs.length kc) := hcc 2 (by simp)
      have hb1 : Below wr.heap.size wr (wr.alloc (.cells #[.int .i64 x.k, .string x.s, .slice ka x.xs.length kc] 49)) := (Below.refl _ _).alloc (Nat.le_refl _) _
      have k1 := heap_alloc_new wr (.cells #[.int .i64 x.k, .string x.s, .slice ka x.xs.length kc] 49)
      obtain ⟨w1, hw1⟩ : ∃ w1, wr.alloc (.cells #[.int .i64 x.k, .string x.s, .slice ka x.xs.length kc] 49) = w1 := ⟨_, rfl⟩
      rw [hw1] at hb1 k1
      have q0 := cell_of_row _ wr.heap.size 0 _ _ _ k1
      have q1 := cell_of_row _ wr.heap.size 1 _ _ _ k1
      have q2 := cell_of_row _ wr.heap.size 2 _ _ _ k1
      simp only [List.getElem?_toArray, List.getElem?_cons_zero, List.getElem?_cons_succ] at q0 q1 q2
      have hst1 := hst.trans (BStep.below (on := on) (ot := ot) hb1)
      have hRb : ∀ y ∈ refs (u.es.take i), y < ((nodesOf u.es i).length : Int) := by
        intro y hy
        rw [hnl]
        obtain ⟨e, he, hy'⟩ := List.mem_flatMap.1 hy
        obtain ⟨j, hj, rfl⟩ := List.getElem_of_mem he
        rw [List.length_take] at hj
        rw [List.getElem_take] at hy'
        obtain ⟨k, hk, rfl⟩ := List.getElem_of_mem hy'
        have := ((hok j (by omega) (by omega)).1 k hk).2.1
        omega
      have HPE := Lib.hid (putExp_any W0.heap.size (nodesOf u.es i) (refs (u.es.take i)) on ot N S x [.int .i64 x.k, .string x.s, .slice ka x.xs.length kc] w1 (hB.go hb1) ⟨ka, kc, rfl, hI.kept (Same.below (fun b h => (HSF.out _ _ _ hst b h).1) hb1)⟩ (HSF.out _ _ _ hst1) hxw (by omega) hRb)
      have HOK := Lib.hid hok
      have HST1 := Lib.hid hst1
      have HHX := Lib.hid hx
      have HNL := Lib.hid hnl
      clear hB hst hok hSb hvl hcc hI hxw k1 hb1 hst1 hRb hx hnl
      go_wp2_with fail
      refine HPE.out.mono ?_
      rintro e w2 (⟨rfl, hto, hko, on', ot', N', hB2, hst2⟩ | ⟨rfl, hno, on', ot', hst2⟩)
      · rw [HNL.out] at hto
        have hnext : NRRel u W0.heap.size W1 (.int .i64 ((i : Int) + 1)) w2 := by
          refine ⟨i + 1, on', ot', N', by go_num, by omega, ?_, HST1.out.trans hst2, ?_⟩
          · have hg : u.es.getD i noIt = x := by rw [← HHX.out]; simp [List.getD, hlt]
            rw [nodesOf, hg, List.take_succ_eq_append_getElem hlt, refs_append, refs_one, HHX.out]
            exact hB2
          · intro j hj hji
            by_cases hjl : j < i
            · exact HOK.out j hj hjl
            · obtain rfl : j = i := by omega
              rw [HHX.out]
              exact ⟨hto, hko⟩
        have HN := Lib.hid hnext
        clear hnext hB2 hst2 hto hko HPE q0 q1 q2
        go_wp2
        go_roundw
        case rel => exact HN.out
        case measure => simp [intOf]; omega
      · rw [HNL.out] at hno
        have HP := Lib.hid (show NRPost u w (.returned (.tuple #[.nilIface, .bool false])) w2 from .inr ⟨rfl, fun h => hno (by have := h.exps i hlt; rw [HHX.out] at this; exact this), HBEL.out _ _ _ (HST1.out.trans hst2)⟩)
        clear hst2 hno HPE q0 q1 q2
        go_wp2
        go_ret2
        exact HP.out
    · obtain rfl : i = u.es.length := by omega
      rw [List.take_length] at hB
      have K2 := HPAR.out _ _ _ hst
      have q1 := cell_of_row _ w.heap.size 1 _ _ _ K2
      have q2 := cell_of_row _ w.heap.size 2 _ _ _ K2
      have q3 := cell_of_row _ w.heap.size 3 _ _ _ K2
      simp only [List.getElem?_toArray, List.getElem?_cons_zero, List.getElem?_cons_succ] at q1 q2 q3
      have HL := Lib.hid (literal_any W0.heap.size (nodesOf u.es u.es.length) (refs u.es) on ot N S u.hd [.int .i64 u.hd.k, .string u.hd.s, .slice ahd u.hd.xs.length chd] wr hB ⟨ahd, chd, rfl, HR1.out.kept (HSM.out _ _ _ hst)⟩ (HSF.out _ _ _ hst) hhw (by omega))
      have HST2 := Lib.hid hst
      have HOK := Lib.hid hok
      have HNL := Lib.hid hnl
      clear hB hst hok K2 hnl
      go_wp2_with fail
      refine HL.out.mono ?_
      rintro e w2 ⟨vh, okh, N2, R2, rfl, hB2, hst2, hsub2, hsup2, hyes2, hno2⟩
      have hst12 := HST2.out.trans hst2
      have K3 := HPAR.out _ _ _ hst12
      have p4 := cell_of_row _ w.heap.size 4 _ _ _ K3
      simp only [List.getElem?_toArray, List.getElem?_cons_zero, List.getElem?_cons_succ] at p4
      have HLS := Lib.hid (literals_any W0.heap.size (nodesOf u.es u.es.length) R2 on ot N2 S u.bd abd cbd w2 hB2 (RowIn.kept FIt_keeps HR2.out (HSM.out _ _ _ hst12)) (HSF.out _ _ _ hst12) HBW.out hbl (by rw [HNL.out]; omega))
      have HB2 := Lib.hid hB2
      have HST12 := Lib.hid hst12
      have HY2 := Lib.hid hyes2
      have HN2 := Lib.hid hno2
      clear hB2 hst2 hst12 hsub2 hsup2 hyes2 hno2 K3 HL q1 q2 q3
      go_wp2_with fail
      refine HLS.out.mono ?_
      rintro e w3 (⟨a3, c3, N3, rfl, hlo, hB3, hst3, M, hM1, hM2, hno⟩ | ⟨rfl, hno, hst3⟩)
      · rw [HNL.out] at hlo
        cases okh with
        | false =>
          have HP := Lib.hid (show NRPost u w (.returned (.tuple #[.nilIface, .bool false])) w3 from .inr ⟨rfl, fun h => HN2.out rfl (by rw [HNL.out]; exact ⟨h.hd, by simp [litOk, h.head]⟩), HBEL.out _ _ _ (HST12.out.trans hst3)⟩)
          clear hlo hB3 hst3 hM1 hM2 hno HLS p4
          go_wp2
          go_ret2
          exact HP.out
        | true =>
          obtain ⟨hto, hlh, rfl, hnh⟩ := HY2.out rfl
          rw [HNL.out] at hto
          obtain ⟨vn, vt, cs, h1, h2, h3, h4, h5, h6⟩ := hB3.lies
          obtain ⟨at', ct, rfl⟩ := owns_shape h5
          have hl5 : (tkOf (nodesOf u.es u.es.length).length (refs u.es ++ u.hd.xs ++ refs u.bd)).length = (nodesOf u.es u.es.length).length := tkOf_length _ _
          have HCT := Lib.hid (by
            have := contains_false (tkOf (nodesOf u.es u.es.length).length (refs u.es ++ u.hd.xs ++ refs u.bd)) at' ct (W0.heap.size + 1) w3 (by rw [hl5]; exact h5) (by rw [hl5, HNL.out]; omega)
            rw [hl5] at this
            exact this)
          have c1 := cell_of_row _ W0.heap.size 1 _ _ _ h3
          simp only [List.getElem?_toArray, List.getElem?_cons_zero, List.getElem?_cons_succ] at c1
          obtain ⟨th, xh, rfl⟩ := hnh.shape
          have hnh3 : NodeIn (fun b => w.heap.size ≤ b ∧ b < w3.heap.size) w3 (litNode u.hd (kidsOf (nodesOf u.es u.es.length) u.hd.xs)) (.iface th xh) := NodeIn.kept (fun b hb => by
            obtain ⟨z1, z2, z3, z4⟩ := HB2.out.free b hb
            exact hst3.block b z2 (by omega) z3 z4) (fun b hb => ⟨by have := (HB2.out.free b hb).1; have := HSZ.out.1; omega, Nat.lt_of_lt_of_le (HB2.out.free b hb).2.1 hst3.size⟩) _ _ hnh
          have hno3 := NodesIn.kept (T := fun b => w.heap.size ≤ b ∧ b < w3.heap.size) (Same.refl M w3) (fun b hb => ⟨by have := (hM1 b hb).1; have := HSZ.out.1; omega, (hM1 b hb).2⟩) _ _ _ hno
          have HGOOD := Lib.hid (fun (hf : ¬ false ∈ tkOf u.es.length (refs u.es ++ u.hd.xs ++ refs u.bd)) => (show NRPost u w (.returned (.tuple #[.iface 116 (.agg #[.iface th xh, .slice a3 u.bd.length c3]), .bool true])) w3 from
            .inl ⟨_, fun b => w.heap.size ≤ b ∧ b < w3.heap.size, rfl, ⟨by omega, HHH.out, fun j hj => HOK.out j hj hj, hto, hlo, hf⟩, by
              unfold ruleNd
              rw [NodeIn]
              exact ⟨_, a3, c3, by rw [List.length_map], by rw [List.length_map]; omega, hnh3, hno3⟩, fun _ h => h, HBEL.out _ _ _ (HST12.out.trans hst3)⟩))
          have HBAD := Lib.hid (fun (hf : false ∈ tkOf u.es.length (refs u.es ++ u.hd.xs ++ refs u.bd)) => (show NRPost u w (.returned (.tuple #[.nilIface, .bool false])) w3 from .inr ⟨rfl, fun h => h.all hf, HBEL.out _ _ _ (HST12.out.trans hst3)⟩))
          rw [HNL.out] at HCT c1
          clear hlo hB3 hst3 hM1 hM2 hno HLS p4 h1 h2 h3 h4 h5 h6 hl5 hnh hnh3 hno3 hto hlh
          go_wp2_with fail
          refine HCT.out.mono ?_
          rintro e w4 ⟨⟨bb, rfl, hbb⟩, rfl⟩
          cases bb with
          | true =>
            have HP := Lib.hid (HBAD.out (hbb.1 rfl))
            clear hbb HCT HGOOD HBAD c1
            go_wp2
            go_ret2
            exact HP.out
          | false =>
            have HP := Lib.hid (HGOOD.out (fun h => by cases hbb.2 h))
            clear hbb HCT HGOOD HBAD c1
            go_wp2
            go_ret2
            exact HP.out
      · rw [HNL.out] at hno
        cases okh with
        | false =>
          have HP := Lib.hid (show NRPost u w (.returned (.tuple #[.nilIface, .bool false])) w3 from .inr ⟨rfl, fun h => HN2.out rfl (by rw [HNL.out]; exact ⟨h.hd, by simp [litOk, h.head]⟩), HBEL.out _ _ _ (HST12.out.trans hst3)⟩)
          clear hno hst3 HLS p4
          go_wp2
          go_ret2
          exact HP.out
        | true =>
          obtain ⟨hto, hlh, rfl, hnh⟩ := HY2.out rfl
          have HP := Lib.hid (show NRPost u w (.returned (.tuple #[.nilIface, .bool false])) w3 from .inr ⟨rfl, fun h => hno h.body, HBEL.out _ _ _ (HST12.out.trans hst3)⟩)
          clear hno hst3 HLS p4 hto hlh hnh
          go_wp2
          go_ret2
          exact HP.out

set_option maxRecDepth 100000 in
set_option maxHeartbeats 4000000 in
theorem textOf_any (n : Nd) (v : Value) (S1 : Nat → Prop) (w : World) (hnode : NodeIn S1 w n v) (hS1 : ∀ b, S1 b → b < w.heap.size) :
    Calls Tryz.prog 67 #[v] w fun e w' => e = .returned (.string (if (txt n).size ≤ 3000 then txt n else ⟨#[]⟩)) ∧ Below w.heap.size w w' := by
  have hb2 : Below w.heap.size w (w.alloc (.cells #[.slice none 0 0, .bool false] 119)) := (Below.refl _ _).alloc (Nat.le_refl _) _
  have k2 := heap_alloc_new w (.cells #[.slice none 0 0, .bool false] 119)
  have hp2 : Prn w.heap.size ⟨#[]⟩ none (w.alloc (.cells #[.slice none 0 0, .bool false] 119)) := ⟨⟨_, ⟨#[]⟩, rfl, k2, World.ownsRow_nil _ _ _ _, by decide, fun _ => rfl⟩⟩
  have HPUT := Lib.hid (put_ok n w.heap.size ⟨#[]⟩ none S1 _ v hp2 (NodeIn.kept (Same.below hS1 hb2) (fun _ h => h) _ _ hnode) (fun b hb => ⟨Nat.lt_of_lt_of_le (hS1 b hb) hb2.size, by have := hS1 b hb; omega, by simp⟩))
  rw [empty_ba] at HPUT
  obtain ⟨tv, xv, rfl⟩ := hnode.shape
  obtain ⟨A, hA⟩ : ∃ A, (if (txt n).size ≤ 3000 then txt n else ⟨#[]⟩) = A := ⟨_, rfl⟩
  have HA := Lib.hid hA
  rw [hA]
  clear hnode hS1 k2 hp2 hb2 hA
  go_enter Tryz.func67, Tryz.ntmps67
  go_wp2_with fail
  refine HPUT.out.mono ?_
  rintro e w2 ⟨rfl, o2, hp, hst⟩
  have HWH := Lib.hid (whole_any w.heap.size (txt n) o2 w2 hp)
  rw [HA.out] at HWH
  have HB2 := Lib.hid (show Below w.heap.size w w2 from ⟨hst.os, hst.tape, hst.output, Nat.le_trans (by simp) hst.size, fun k hk => by
    rw [hst.block k (by simp; omega) (by omega) (by simp), heap_alloc_old w _ (by omega)]⟩)
  clear hp hst HPUT
  go_wp2_with fail
  refine HWH.out.mono ?_
  rintro e w3 ⟨rfl, rfl⟩
  clear HWH
  go_wp2
  go_ret
  exact ⟨rfl, HB2.out⟩

set_option maxRecDepth 100000 in
set_option maxHeartbeats 4000000 in
theorem implRule_any (u : Ru) (vs : List Value) (S : Nat → Prop) (w : World) (hF : FRu S w vs u) (hS : ∀ b, S b → b < w.heap.size) (hw : u.wt ≤ 1048576) : Calls Tryz.prog 52 #[.agg vs.toArray] w (SRulePost u w) := by
  have hF0 := hF
  obtain ⟨aes, ces, ahd, chd, abd, cbd, rfl, r0, r1, r2⟩ := hF
  have hb0 : Below w.heap.size w (w.alloc (.cells #[.slice aes u.es.length ces, .int .i64 u.hd.k, .string u.hd.s, .slice ahd u.hd.xs.length chd, .slice abd u.bd.length cbd] 36)) := (Below.refl _ _).alloc (Nat.le_refl _) _
  have HN := Lib.hid (newRule_any u _ S _ (FRu_keeps.1 _ _ _ _ _ hF0 (Same.below hS hb0)) (fun b h => Nat.lt_of_lt_of_le (hS b h) hb0.size) hw)
  have HB0 := Lib.hid hb0
  clear hF0 r0 r1 r2 hb0
  go_enter Tryz.func52, Tryz.ntmps52
  go_wp2_with fail
  refine HN.out.mono ?_
  rintro e w1 (⟨v, S1, rfl, hok, hnode, hS1, hb1⟩ | ⟨rfl, hno, hb1⟩)
  · have hform := hok.form
    have HTX := Lib.hid (textOf_any (ruleNd u) v S1 w1 hnode (fun b h => (hS1 b h).2))
    rw [rule_txt u hform] at HTX
    have hans : (if (ruleTxt u).size ≤ 3000 then ruleTxt u else ⟨#[]⟩) = ruleAns u := by
      by_cases h : (ruleTxt u).size ≤ 3000
      · rw [if_pos h, ruleAns_ok ((ruleOk_iff u).2 ⟨hform, h⟩)]
      · rw [if_neg h, ruleAns_no (fun h' => h h'.short)]
    rw [hans] at HTX
    obtain ⟨tv, xv, rfl⟩ := hnode.shape
    have HB1 := Lib.hid (below_step HB0.out hb1)
    clear hok hnode hS1 hb1 hform hans HN
    go_wp2_with fail
    refine HTX.out.mono ?_
    rintro e w3 ⟨rfl, hb3⟩
    have HB2 := Lib.hid (below_step HB1.out hb3)
    clear HTX hb3
    go_wp2
    go_ret
    exact ⟨rfl, HB2.out⟩
  · have HA := Lib.hid (ruleAns_no (u := u) (fun h => hno ((make_iff u).2 ((ruleOk_iff u).1 h).1)))
    have HB1 := Lib.hid (below_step HB0.out hb1)
    clear hno hb1 HN
    go_wp2
    go_ret
    exact ⟨by rw [HA.out]; rfl, HB1.out⟩

end Go.Proofs.YtilijbpbnlnhlaaGreat.Pr
