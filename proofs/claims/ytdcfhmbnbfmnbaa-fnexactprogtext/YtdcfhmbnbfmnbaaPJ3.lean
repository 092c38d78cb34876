/-
  impl's lineNodes.
-/
import Derived.Test.YtdcfhmbnbfmnbaaPJ2
namespace Go.Proofs.Ytdcfhmbnbfmnbaa.Pr
open Go Go.RowKit Go.Maps Go.WideMaps

def lineNds (p : Pg) : List Nd := p.ts.map typeNd ++ p.rs.map relNd ++ p.us.map ruleNd
def LinesOk (p : Pg) : Prop := (∀ x ∈ p.rs, modeOk x.m = true) ∧ ∀ u ∈ p.us, MakeOk u
def LinesPost (p : Pg) (w : World) (e : Ending) (w' : World) : Prop :=
  ((∃ (a : Option Addr) (c : Nat), e = .returned (.tuple #[.slice a (lineNds p).length c, .bool true]) ∧ LinesOk p ∧ NodesIn (Seg w.heap.size w'.heap.size) w' (lineNds p) a 0) ∨ (e = .returned (.tuple #[.slice none 0 0, .bool false]) ∧ ¬ LinesOk p)) ∧ Below w.heap.size w w'

def LTRel (p : Pg) (W0 : World) (vl vi : Value) (wr : World) : Prop :=
  ∃ k : Nat, vi = .int .i64 (k : Int) ∧ k ≤ p.ts.length ∧ MkRow W0.heap.size ((p.ts.take k).map typeNd) vl wr ∧ Below W0.heap.size W0 wr
def LRRel (p : Pg) (W0 : World) (vl vi : Value) (wr : World) : Prop :=
  ∃ k : Nat, vi = .int .i64 (k : Int) ∧ k ≤ p.rs.length ∧ MkRow W0.heap.size (p.ts.map typeNd ++ (p.rs.take k).map relNd) vl wr ∧ (∀ j (h : j < p.rs.length), j < k → modeOk p.rs[j].m = true) ∧ Below W0.heap.size W0 wr
def LURel (p : Pg) (W0 : World) (vl vi : Value) (wr : World) : Prop :=
  ∃ k : Nat, vi = .int .i64 (k : Int) ∧ k ≤ p.us.length ∧ MkRow W0.heap.size (p.ts.map typeNd ++ p.rs.map relNd ++ (p.us.take k).map ruleNd) vl wr ∧ (∀ j (h : j < p.us.length), j < k → MakeOk p.us[j]) ∧ Below W0.heap.size W0 wr

set_option maxRecDepth 100000 in
set_option maxHeartbeats 4000000 in
theorem lineNodes_any (p : Pg) (vs : List Value) (S : Nat → Prop) (w : World) (hF : FPg S w vs p) (hS : ∀ b, S b → b < w.heap.size) (hw : p.wt ≤ 1048576) : Calls Try.prog 23 #[.agg vs.toArray] w (LinesPost p w) := by
  obtain ⟨a, c, ar, cr, au, cu, rfl, r0, r1, r2⟩ := hF
  have hb0 : Below w.heap.size w (w.alloc (.cells #[.slice a p.ts.length c, .slice ar p.rs.length cr, .slice au p.us.length cu] 33)) := (Below.refl _ _).alloc (Nat.le_refl _) _
  have k0 := heap_alloc_new w (.cells #[.slice a p.ts.length c, .slice ar p.rs.length cr, .slice au p.us.length cu] 33)
  obtain ⟨W0, hW0⟩ : ∃ W0, w.alloc (.cells #[.slice a p.ts.length c, .slice ar p.rs.length cr, .slice au p.us.length cu] 33) = W0 := ⟨_, rfl⟩
  rw [hW0] at hb0 k0
  have q0 := cell_of_row _ w.heap.size 0 _ _ _ k0
  have q1 := cell_of_row _ w.heap.size 1 _ _ _ k0
  have q2 := cell_of_row _ w.heap.size 2 _ _ _ k0
  simp only [List.getElem?_toArray, List.getElem?_cons_zero, List.getElem?_cons_succ] at q0 q1 q2
  have hl : p.ts.length + p.rs.length + p.us.length ≤ 1048576 := by have := hw; unfold Pg.wt wtTypeDeclS wtRelDeclS wtRuleS at this; omega
  have htl : ∀ y ∈ p.ts, y.wt ≤ 1048576 := fun y hy => by
    have h1 := wsum_mem Td.wt hy
    have := hw
    unfold Pg.wt wtTypeDeclS at this
    omega
  have hrl : ∀ y ∈ p.rs, y.wt ≤ 1048576 := fun y hy => by
    have h1 := wsum_mem Rd.wt hy
    have := hw
    unfold Pg.wt wtRelDeclS at this
    omega
  have hul : ∀ y ∈ p.us, y.wt ≤ 1048576 := fun y hy => by
    have h1 := wsum_mem Ru.wt hy
    have := hw
    unfold Pg.wt wtRuleS at this
    omega
  have HB0 := Lib.hid hb0
  have HTL := Lib.hid htl
  have HRL := Lib.hid hrl
  have HUL := Lib.hid hul
  have HR0 := Lib.hid (RowIn.kept FTd_keeps r0 (Same.below hS hb0))
  have HR1 := Lib.hid (RowIn.kept FRd_keeps r1 (Same.below hS hb0))
  have HR2 := Lib.hid (RowIn.kept FRu_keeps r2 (Same.below hS hb0))
  have HS := Lib.hid (fun (b : Nat) (h : S b) => (Nat.lt_of_lt_of_le (hS b h) hb0.size : b < W0.heap.size))
  have HK := Lib.hid k0
  clear r0 r1 r2 hb0 k0 htl hrl hul hw hS
  go_enter Try.func23, Try.ntmps23
  go_wp2
  go_loopw [4, 18] (fun v4 v18 wr => LTRel p W0 v4 v18 wr) (fun _ v18 _ => (p.ts.length - (intOf v18).toNat))
  case atStart => exact ⟨0, rfl, Nat.zero_le _, MkRow.nil _ _, Below.refl _ _⟩
  case round =>
    obtain ⟨k, rfl, hk, hm, hb⟩ := hrel
    clear q0 q1 q2
    by_cases hlt : k < p.ts.length
    · have hlen : ((p.ts.take k).map typeNd).length = k := by simp; omega
      have hsh := hm.shape
      rw [hlen] at hsh
      obtain ⟨aL, cL, rfl⟩ := hsh
      obtain ⟨b, off, vs, rfl, hSb, hvl, hcc, ka, kc, rfl, hI⟩ := RowIn.kept FTd_keeps HR0.out (Same.below HS.out hb) k hlt
      have hyw := HTL.out _ (List.getElem_mem hlt)
      have htk : (p.ts.take (k + 1)).map typeNd = (p.ts.take k).map typeNd ++ [typeNd p.ts[k]] := by rw [List.take_succ_eq_append_getElem hlt, List.map_append]; rfl
      obtain ⟨y, hy⟩ : ∃ y, p.ts[k] = y := ⟨_, rfl⟩
      rw [hy] at hcc hyw htk hI
      have x0 : wr.cell? ⟨b, off + k * 2, none⟩ = some (.string y.s) := hcc 0 (by simp)
      have x1 : wr.cell? ⟨b, off + k * 2 + 1, none⟩ = some (.slice ka y.cs.length kc) := hcc 1 (by simp)
      have hb1 : Below wr.heap.size wr (wr.alloc (.cells #[.string y.s, .slice ka y.cs.length kc] 59)) := (Below.refl _ _).alloc (Nat.le_refl _) _
      have k1 := heap_alloc_new wr (.cells #[.string y.s, .slice ka y.cs.length kc] 59)
      obtain ⟨w1, hw1⟩ : ∃ w1, wr.alloc (.cells #[.string y.s, .slice ka y.cs.length kc] 59) = w1 := ⟨_, rfl⟩
      rw [hw1] at hb1 k1
      have q0 := cell_of_row _ wr.heap.size 0 _ _ _ k1
      have q1 := cell_of_row _ wr.heap.size 1 _ _ _ k1
      simp only [List.getElem?_toArray, List.getElem?_cons_zero, List.getElem?_cons_succ] at q0 q1
      have hSr : ∀ b, S b → b < wr.heap.size := fun b h => Nat.lt_of_lt_of_le (HS.out b h) hb.size
      have HT := Lib.hid (newType_any y [.string y.s, .slice ka y.cs.length kc] S w1 ⟨ka, kc, rfl, RowIn.kept FCn_keeps hI (Same.below hSr hb1)⟩ (fun b h' => Nat.lt_of_lt_of_le (hSr b h') hb1.size) hyw)
      have HM := Lib.hid hm
      have HB := Lib.hid hb
      have HB1 := Lib.hid hb1
      have HTK := Lib.hid htk
      have HLEN := Lib.hid hlen
      clear hm hb hSb hvl hcc hyw htk hI hb1 k1 hSr hlen hy
      go_wp2_with fail
      refine HT.out.mono ?_
      rintro e w7 ⟨⟨v7, rfl, hN⟩, hb7⟩
      obtain ⟨nt, nx, rfl⟩ := hN.shape
      have hb17 := below_step HB1.out hb7
      obtain ⟨v9, w9, hrun, hm9, hb9⟩ := (HM.out.below hb17).push2 (typeNd y) nt nx (Seg w1.heap.size w7.heap.size) hN
          (fun b h => by
            have e1 := HB1.out.size
            have e2 := HB.out.size
            have h1 := h.1
            refine ⟨by omega, h.2, fun e => ?_⟩
            have := (HM.out.ge e).2
            omega) (by rw [HLEN.out]; omega) (Nat.le_trans HB.out.size hb17.size) W0 rfl (below_step HB.out hb17) (w7.alloc (.cells #[.iface nt nx] 78)) ((Below.refl _ _).alloc (Nat.le_refl _) _) (heap_alloc_new w7 _)
      rw [← HTK.out] at hm9
      have HN := Lib.hid (show LTRel p W0 v9 (.int .i64 ((k : Int) + 1)) w9 from ⟨k + 1, by go_num, by omega, hm9, hb9⟩)
      have HRUN := Lib.hid hrun
      clear hN hb7 hb17 hrun hm9 hb9 HT q0 q1
      go_wp2_with (first
        | (at_builtin
           refine wpList_append_run rfl (.tmp 22) (.tmp 25) _ rfl rfl rfl HRUN.out ?_))
      go_roundw
      case rel => exact HN.out
      case measure => simp [intOf]; omega
    · obtain rfl : k = p.ts.length := by omega
      rw [List.take_length] at hm
      have K1 := (hb.block _ (lt_of_block HK.out)).trans HK.out
      have q1 := cell_of_row _ w.heap.size 1 _ _ _ K1
      simp only [List.getElem?_toArray, List.getElem?_cons_zero, List.getElem?_cons_succ] at q1
      have HST := Lib.hid (show LRRel p W0 _ (.int .i64 0) wr from ⟨0, rfl, Nat.zero_le _, by simpa using hm, fun j h hj => by omega, hb⟩)
      clear hm hb K1
      go_wp2
      go_loopw [4, 31] (fun v4 v31 wr => LRRel p W0 v4 v31 wr) (fun _ v31 _ => (p.rs.length - (intOf v31).toNat))
      case atStart => exact HST.out
      case round =>
        obtain ⟨k, rfl, hk, hm, hgd, hb⟩ := hrel
        clear q1 HST
        by_cases hlt : k < p.rs.length
        · have hlen : (p.ts.map typeNd ++ (p.rs.take k).map relNd).length = p.ts.length + k := by simp; omega
          have hsh := hm.shape
          rw [hlen] at hsh
          obtain ⟨aL, cL, rfl⟩ := hsh
          obtain ⟨b, off, vs, rfl, hSb, hvl, hcc, ka, kc, rfl, hI⟩ := RowIn.kept FRd_keeps HR1.out (Same.below HS.out hb) k hlt
          have hyw := HRL.out _ (List.getElem_mem hlt)
          have htk : p.ts.map typeNd ++ (p.rs.take (k + 1)).map relNd = p.ts.map typeNd ++ (p.rs.take k).map relNd ++ [relNd p.rs[k]] := by rw [List.take_succ_eq_append_getElem hlt, List.map_append, List.append_assoc]; rfl
          obtain ⟨y, hy⟩ : ∃ y, p.rs[k] = y := ⟨_, rfl⟩
          rw [hy] at hcc hyw htk hI
          have x0 : wr.cell? ⟨b, off + k * 3, none⟩ = some (.string y.s) := hcc 0 (by simp)
          have x1 : wr.cell? ⟨b, off + k * 3 + 1, none⟩ = some (.slice ka y.ts.length kc) := hcc 1 (by simp)
          have x2 : wr.cell? ⟨b, off + k * 3 + 2, none⟩ = some (.int .i64 y.m) := hcc 2 (by simp)
          have hb1 : Below wr.heap.size wr (wr.alloc (.cells #[.string y.s, .slice ka y.ts.length kc, .int .i64 y.m] 66)) := (Below.refl _ _).alloc (Nat.le_refl _) _
          have k1 := heap_alloc_new wr (.cells #[.string y.s, .slice ka y.ts.length kc, .int .i64 y.m] 66)
          obtain ⟨w1, hw1⟩ : ∃ w1, wr.alloc (.cells #[.string y.s, .slice ka y.ts.length kc, .int .i64 y.m] 66) = w1 := ⟨_, rfl⟩
          rw [hw1] at hb1 k1
          have q0 := cell_of_row _ wr.heap.size 0 _ _ _ k1
          have q1 := cell_of_row _ wr.heap.size 1 _ _ _ k1
          have q2 := cell_of_row _ wr.heap.size 2 _ _ _ k1
          simp only [List.getElem?_toArray, List.getElem?_cons_zero, List.getElem?_cons_succ] at q0 q1 q2
          have hSr : ∀ b, S b → b < wr.heap.size := fun b h => Nat.lt_of_lt_of_le (HS.out b h) hb.size
          have HT := Lib.hid (newRel_any y [.string y.s, .slice ka y.ts.length kc, .int .i64 y.m] S w1 ⟨ka, kc, rfl, hI.kept (Same.below hSr hb1)⟩ (fun b h' => Nat.lt_of_lt_of_le (hSr b h') hb1.size) hyw)
          have HM := Lib.hid hm
          have HB := Lib.hid hb
          have HB1 := Lib.hid hb1
          have HTK := Lib.hid htk
          have HLEN := Lib.hid hlen
          have HGD := Lib.hid hgd
          have HY := Lib.hid hy
          clear hm hb hSb hvl hcc hyw htk hI hb1 k1 hSr hlen hy hgd
          go_wp2_with fail
          refine HT.out.mono ?_
          rintro e w7 ⟨⟨v7, rfl, hgo, hN⟩ | ⟨rfl, hgo⟩, hb7⟩
          · obtain ⟨nt, nx, rfl⟩ := hN.shape
            have hb17 := below_step HB1.out hb7
            obtain ⟨v9, w9, hrun, hm9, hb9⟩ := (HM.out.below hb17).push2 (relNd y) nt nx (Seg w1.heap.size w7.heap.size) hN
              (fun b h => by
                have e1 := HB1.out.size
                have e2 := HB.out.size
                have h1 := h.1
                refine ⟨by omega, h.2, fun e => ?_⟩
                have := (HM.out.ge e).2
                omega) (by rw [HLEN.out]; omega) (Nat.le_trans HB.out.size hb17.size) W0 rfl (below_step HB.out hb17) (w7.alloc (.cells #[.iface nt nx] 78)) ((Below.refl _ _).alloc (Nat.le_refl _) _) (heap_alloc_new w7 _)
            rw [← HTK.out] at hm9
            have HN := Lib.hid (show LRRel p W0 v9 (.int .i64 ((k : Int) + 1)) w9 from ⟨k + 1, by go_num, by omega, hm9, (fun j h hj => by
              by_cases hjk : j < k
              · exact HGD.out j h hjk
              · obtain rfl : j = k := by omega
                rw [HY.out]; exact hgo), hb9⟩)
            have HRUN := Lib.hid hrun
            clear hN hb7 hb17 hrun hm9 hb9 HT q0 q1 q2 hgo
            go_wp2_with (first
              | (at_builtin
                 refine wpList_append_run rfl (.tmp 42) (.tmp 44) _ rfl rfl rfl HRUN.out ?_))
            go_roundw
            case rel => exact HN.out
            case measure => simp [intOf]; omega
          · have HP := Lib.hid (show LinesPost p w (.returned (.tuple #[.slice none 0 0, .bool false])) w7 from ⟨.inr ⟨rfl, fun h => by have := h.1 _ (List.getElem_mem hlt); rw [HY.out, hgo] at this; cases this⟩, below_step HB0.out (below_step HB.out (below_step HB1.out hb7))⟩)
            clear hb7 HT q0 q1 q2 hgo
            go_wp2
            go_ret2
            exact HP.out
        · obtain rfl : k = p.rs.length := by omega
          rw [List.take_length] at hm
          have K1 := (hb.block _ (lt_of_block HK.out)).trans HK.out
          have q2 := cell_of_row _ w.heap.size 2 _ _ _ K1
          simp only [List.getElem?_toArray, List.getElem?_cons_zero, List.getElem?_cons_succ] at q2
          have HST := Lib.hid (show LURel p W0 _ (.int .i64 0) wr from ⟨0, rfl, Nat.zero_le _, by simpa using hm, fun j h hj => by omega, hb⟩)
          have HGD := Lib.hid (show ∀ x ∈ p.rs, modeOk x.m = true from fun x hx => by
            obtain ⟨j, hj, rfl⟩ := List.getElem_of_mem hx
            exact hgd j hj hj)
          clear hm hb K1 hgd
          go_wp2
          go_loopw [4, 50] (fun v4 v50 wr => LURel p W0 v4 v50 wr) (fun _ v50 _ => (p.us.length - (intOf v50).toNat))
          case atStart => exact HST.out
          case round =>
            obtain ⟨k, rfl, hk, hm, hgd, hb⟩ := hrel
            clear q2 HST
            by_cases hlt : k < p.us.length
            · have hlen : (p.ts.map typeNd ++ p.rs.map relNd ++ (p.us.take k).map ruleNd).length = p.ts.length + p.rs.length + k := by simp; omega
              have hsh := hm.shape
              rw [hlen] at hsh
              obtain ⟨aL, cL, rfl⟩ := hsh
              obtain ⟨b, off, vs, rfl, hSb, hvl, hcc, hFu⟩ := RowIn.kept FRu_keeps HR2.out (Same.below HS.out hb) k hlt
              have hFu0 := hFu
              obtain ⟨aes, ces, ahd, chd, abd, cbd, rfl, _, _, _⟩ := hFu
              have hyw := HUL.out _ (List.getElem_mem hlt)
              have htk : p.ts.map typeNd ++ p.rs.map relNd ++ (p.us.take (k + 1)).map ruleNd = p.ts.map typeNd ++ p.rs.map relNd ++ (p.us.take k).map ruleNd ++ [ruleNd p.us[k]] := by rw [List.take_succ_eq_append_getElem hlt, List.map_append, ← List.append_assoc]; rfl
              obtain ⟨y, hy⟩ : ∃ y, p.us[k] = y := ⟨_, rfl⟩
              rw [hy] at hcc hyw htk hFu0
              have x0 : wr.cell? ⟨b, off + k * 5, none⟩ = some (.slice aes y.es.length ces) := hcc 0 (by simp)
              have x1 : wr.cell? ⟨b, off + k * 5 + 1, none⟩ = some (.int .i64 y.hd.k) := hcc 1 (by simp)
              have x2 : wr.cell? ⟨b, off + k * 5 + 2, none⟩ = some (.string y.hd.s) := hcc 2 (by simp)
              have x3 : wr.cell? ⟨b, off + k * 5 + 3, none⟩ = some (.slice ahd y.hd.xs.length chd) := hcc 3 (by simp)
              have x4 : wr.cell? ⟨b, off + k * 5 + 4, none⟩ = some (.slice abd y.bd.length cbd) := hcc 4 (by simp)
              have hb1 : Below wr.heap.size wr (wr.alloc (.cells #[.slice aes y.es.length ces, .int .i64 y.hd.k, .string y.hd.s, .slice ahd y.hd.xs.length chd, .slice abd y.bd.length cbd] 50)) := (Below.refl _ _).alloc (Nat.le_refl _) _
              have k1 := heap_alloc_new wr (.cells #[.slice aes y.es.length ces, .int .i64 y.hd.k, .string y.hd.s, .slice ahd y.hd.xs.length chd, .slice abd y.bd.length cbd] 50)
              obtain ⟨w1, hw1⟩ : ∃ w1, wr.alloc (.cells #[.slice aes y.es.length ces, .int .i64 y.hd.k, .string y.hd.s, .slice ahd y.hd.xs.length chd, .slice abd y.bd.length cbd] 50) = w1 := ⟨_, rfl⟩
              rw [hw1] at hb1 k1
              have q0 := cell_of_row _ wr.heap.size 0 _ _ _ k1
              have q1 := cell_of_row _ wr.heap.size 1 _ _ _ k1
              have q2 := cell_of_row _ wr.heap.size 2 _ _ _ k1
              have q3 := cell_of_row _ wr.heap.size 3 _ _ _ k1
              have q4 := cell_of_row _ wr.heap.size 4 _ _ _ k1
              simp only [List.getElem?_toArray, List.getElem?_cons_zero, List.getElem?_cons_succ] at q0 q1 q2 q3 q4
              have hSr : ∀ b, S b → b < wr.heap.size := fun b h => Nat.lt_of_lt_of_le (HS.out b h) hb.size
              have HT := Lib.hid (newRule_any y _ S w1 (FRu_keeps.1 _ _ _ _ _ hFu0 (Same.below hSr hb1)) (fun b h' => Nat.lt_of_lt_of_le (hSr b h') hb1.size) hyw)
              have HM := Lib.hid hm
              have HB := Lib.hid hb
              have HB1 := Lib.hid hb1
              have HTK := Lib.hid htk
              have HLEN := Lib.hid hlen
              have HGU := Lib.hid hgd
              have HY := Lib.hid hy
              clear hm hb hSb hvl hcc hyw htk hFu0 hb1 k1 hSr hlen hy hgd
              go_wp2_with fail
              refine HT.out.mono ?_
              rintro e w7 (⟨v7, S7, rfl, hgo, hN, hS7, hb7⟩ | ⟨rfl, hgo, hb7⟩)
              · obtain ⟨nt, nx, rfl⟩ := hN.shape
                have hb17 := below_step HB1.out hb7
                obtain ⟨v9, w9, hrun, hm9, hb9⟩ := (HM.out.below hb17).push2 (ruleNd y) nt nx S7 hN
                  (fun b h => by
                    have e1 := HB1.out.size
                    have e2 := HB.out.size
                    have h1 := (hS7 b h).1
                    refine ⟨by omega, (hS7 b h).2, fun e => ?_⟩
                    have := (HM.out.ge e).2
                    omega) (by rw [HLEN.out]; omega) (Nat.le_trans HB.out.size hb17.size) W0 rfl (below_step HB.out hb17) (w7.alloc (.cells #[.iface nt nx] 78)) ((Below.refl _ _).alloc (Nat.le_refl _) _) (heap_alloc_new w7 _)
                rw [← HTK.out] at hm9
                have HN := Lib.hid (show LURel p W0 v9 (.int .i64 ((k : Int) + 1)) w9 from ⟨k + 1, by go_num, by omega, hm9, (fun j h hj => by
                  by_cases hjk : j < k
                  · exact HGU.out j h hjk
                  · obtain rfl : j = k := by omega
                    rw [HY.out]; exact hgo), hb9⟩)
                have HRUN := Lib.hid hrun
                clear hN hb7 hb17 hrun hm9 hb9 HT q0 q1 q2 q3 q4 hgo hS7
                go_wp2_with (first
                  | (at_builtin
                     refine wpList_append_run rfl (.tmp 61) (.tmp 63) _ rfl rfl rfl HRUN.out ?_))
                go_roundw
                case rel => exact HN.out
                case measure => simp [intOf]; omega
              · have HP := Lib.hid (show LinesPost p w (.returned (.tuple #[.slice none 0 0, .bool false])) w7 from ⟨.inr ⟨rfl, fun h => by have := h.2 _ (List.getElem_mem hlt); rw [HY.out] at this; exact hgo this⟩, below_step HB0.out (below_step HB.out (below_step HB1.out hb7))⟩)
                clear hb7 HT q0 q1 q2 q3 q4 hgo
                go_wp2
                go_ret2
                exact HP.out
            · obtain rfl : k = p.us.length := by omega
              rw [List.take_length] at hm
              have hm2 : MkRow W0.heap.size (lineNds p) _ wr := hm
              obtain ⟨aL, cL, rfl⟩ := hm2.shape
              have HP := Lib.hid (show LinesPost p w (.returned (.tuple #[.slice aL (lineNds p).length cL, .bool true])) wr from ⟨.inl ⟨aL, cL, rfl, ⟨HGD.out, fun u hu => by
                obtain ⟨j, hj, rfl⟩ := List.getElem_of_mem hu
                exact hgd j hj hj⟩, NodesIn.kept (Same.refl _ _) (fun b h => ⟨Nat.le_trans HB0.out.size h.1, h.2⟩) _ _ _ hm2.fin⟩, below_step HB0.out hb⟩)
              generalize (lineNds p).length = L at HP ⊢
              clear hm hm2 hb hgd
              go_wp2
              go_ret2
              exact HP.out

end Go.Proofs.Ytdcfhmbnbfmnbaa.Pr
