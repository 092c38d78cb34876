/-
  impl's newTypeNode.
-/
import Derived.Test.YtdcfhmbnbfmnbaaPJ1
namespace Go.Proofs.Ytdcfhmbnbfmnbaa.Pr
open Go Go.RowKit Go.Maps Go.WideMaps

theorem MkRow.of_heap {B : Nat} {ns : List Nd} {v : Value} {w w' : World} (h : MkRow B ns v w) (hh : w'.heap = w.heap) : MkRow B ns v w' := by
  obtain ⟨cl, N, h1, h2, h3⟩ := h
  refine ⟨cl, N, own_same h1 (fun g _ => by rw [hh]), fun j hj => ?_, fun b hN => by rw [hh]; exact h3 b hN⟩
  obtain ⟨u, hu, hn⟩ := h2 j hj
  exact ⟨u, hu, NodeIn.kept (fun b _ => by rw [hh]) (fun _ h => h) _ _ hn⟩

theorem MkRow.push2 {B : Nat} {ns : List Nd} {v : Value} {w : World} (h : MkRow B ns v w) (n : Nd) (t : TypeId) (x : Value) (M : Nat → Prop) (hM : NodeIn M w n (.iface t x)) (hMs : ∀ b, M b → B ≤ b ∧ b < w.heap.size ∧ v.ownBlock ≠ some b) (hn : ns.length ≤ 1048576) (hB : B ≤ w.heap.size) (w0 : World) (h0 : w0.heap.size = B) (hb0 : Below w0.heap.size w0 w)
    (W : World) (hb3 : Below w.heap.size w W) (hgW : W.heap[w.heap.size]? = some (.cells #[.iface t x] 78 (0, 0))) :
    ∃ (v' : Value) (w3 : World), (∀ ty, (Builtin.append_ #[70, 70] ty #[v, .slice (some ⟨w.heap.size, 0, none⟩) 1 1]).run Try.prog W = .ok v' w3) ∧ MkRow B (ns ++ [n]) v' w3 ∧ Below w0.heap.size w0 w3 := by
  obtain ⟨cl, N, h1, h2, h3⟩ := h
  have hlW : w.heap.size < W.heap.size := lt_of_block hgW
  obtain ⟨g', cap', w3, hrun, hown3, hgr3, hat⟩ := append_node W B v ns.length cl (row_kept h1 hb3) t x w.heap.size hgW hn (by omega)
  have hsm : ∀ b, b < w.heap.size → v.ownBlock ≠ some b → w3.heap[b]? = w.heap[b]? := fun b hb hne => by
    rw [hgr3.block b (by omega) (fun e => hne e.symm), hb3.block b hb]
  have hsz : w.heap.size + 1 ≤ w3.heap.size := by have := hgr3.size; omega
  have hcl : cl.length = ns.length := by have := h1.1; omega
  refine ⟨_, w3, hrun, ⟨cl ++ [.iface t x], fun b => N b ∨ M b, by rw [List.length_append]; exact hown3, ?_, ?_⟩, ?_⟩
  · intro j hj
    rw [List.length_append, List.length_singleton] at hj
    by_cases hjk : j < ns.length
    · obtain ⟨u, hu, hN⟩ := h2 j hjk
      refine ⟨u, by rw [List.getElem?_append_left (by omega)]; exact hu, ?_⟩
      rw [List.getElem_append_left hjk]
      exact NodeIn.kept (fun b hb => hsm b (h3 b hb).2.1 (h3 b hb).2.2) (fun _ h => .inl h) _ _ hN
    · obtain rfl : j = ns.length := by omega
      refine ⟨.iface t x, by rw [List.getElem?_append_right (by omega), hcl, Nat.sub_self]; rfl, ?_⟩
      rw [List.getElem_append_right (Nat.le_refl _)]
      simp only [Nat.sub_self, List.getElem_cons_zero]
      exact NodeIn.kept (fun b hb => hsm b (hMs b hb).2.1 (hMs b hb).2.2) (fun _ h => .inr h) _ _ hM
  · have key : ∀ b, B ≤ b ∧ b < w.heap.size ∧ v.ownBlock ≠ some b → B ≤ b ∧ b < w3.heap.size ∧ (Value.slice (some ⟨g', 0, none⟩) (ns.length + 1) cap').ownBlock ≠ some b := by
      rintro b ⟨q1, q2, q3⟩
      refine ⟨q1, by omega, fun he => ?_⟩
      simp only [Value.ownBlock, Option.some.injEq] at he
      subst he
      rcases hat with h | h
      · exact q3 h
      · omega
    rintro b (hb | hb)
    · exact key b (h3 b hb)
    · exact key b (hMs b hb)
  · refine ⟨hgr3.os.trans (hb3.os.trans hb0.os), hgr3.tape.trans (hb3.tape.trans hb0.tape), hgr3.output.trans (hb3.output.trans hb0.output), by have := hb0.size; omega, fun q hq => ?_⟩
    rw [hsm q (by have := hb0.size; omega) (fun e => by have := (own_lt h1 e).1; omega)]
    exact hb0.block q hq

def conNd (c : Cn) : Nd := .con c.s (c.ts.map Nd.word)
def typeNd (x : Td) : Nd := .type x.s (x.cs.map conNd)
def NTRel (x : Td) (W0 : World) (vl vi : Value) (wr : World) : Prop :=
  ∃ k : Nat, vi = .int .i64 (k : Int) ∧ k ≤ x.cs.length ∧ MkRow W0.heap.size ((x.cs.take k).map conNd) vl wr ∧ Below W0.heap.size W0 wr

set_option maxRecDepth 100000 in
set_option maxHeartbeats 4000000 in
theorem newType_any (x : Td) (vs : List Value) (S : Nat → Prop) (w : World) (hF : FTd S w vs x) (hS : ∀ b, S b → b < w.heap.size) (hw : x.wt ≤ 1048576) : Calls Try.prog 46 #[.agg vs.toArray] w fun e w' => (∃ v : Value, e = .returned v ∧ NodeIn (Seg w.heap.size w'.heap.size) w' (typeNd x) v) ∧ Below w.heap.size w w' := by
  obtain ⟨a, c, rfl, r0⟩ := hF
  have hb0 : Below w.heap.size w (w.alloc (.cells #[.string x.s, .slice a x.cs.length c] 59)) := (Below.refl _ _).alloc (Nat.le_refl _) _
  have k0 := heap_alloc_new w (.cells #[.string x.s, .slice a x.cs.length c] 59)
  obtain ⟨W0, hW0⟩ : ∃ W0, w.alloc (.cells #[.string x.s, .slice a x.cs.length c] 59) = W0 := ⟨_, rfl⟩
  rw [hW0] at hb0 k0
  have q0 := cell_of_row _ w.heap.size 0 _ _ _ k0
  have q1 := cell_of_row _ w.heap.size 1 _ _ _ k0
  simp only [List.getElem?_toArray, List.getElem?_cons_zero, List.getElem?_cons_succ] at q0 q1
  have hsl : x.s.size ≤ 1048576 := by have := hw; unfold Td.wt at this; omega
  have hnl : x.cs.length ≤ 1048576 := by have := hw; unfold Td.wt wtConS at this; omega
  have htl : ∀ y ∈ x.cs, y.wt ≤ 1048576 := fun y hy => by
    have h1 := wsum_mem Cn.wt hy
    have := hw
    unfold Td.wt wtConS at this
    omega
  have HB0 := Lib.hid hb0
  have HSL := Lib.hid hsl
  have HTL := Lib.hid htl
  have HR := Lib.hid (RowIn.kept FCn_keeps r0 (Same.below hS hb0))
  have HS := Lib.hid (fun (b : Nat) (h : S b) => (Nat.lt_of_lt_of_le (hS b h) hb0.size : b < W0.heap.size))
  have HK := Lib.hid k0
  clear r0 hb0 k0 htl hw hsl hS
  go_enter Try.func46, Try.ntmps46
  go_wp2
  go_loopw [3, 9] (fun v3 v9 wr => NTRel x W0 v3 v9 wr) (fun _ v9 _ => (x.cs.length - (intOf v9).toNat))
  case atStart => exact ⟨0, rfl, Nat.zero_le _, MkRow.nil _ _, Below.refl _ _⟩
  case round =>
    obtain ⟨k, rfl, hk, hm, hb⟩ := hrel
    have hlen : ((x.cs.take k).map conNd).length = k := by simp; omega
    have hsh := hm.shape
    rw [hlen] at hsh
    obtain ⟨aL, cL, rfl⟩ := hsh
    clear q0 q1
    by_cases hlt : k < x.cs.length
    · obtain ⟨b, off, vs, rfl, hSb, hvl, hcc, ka, kc, rfl, hI⟩ := RowIn.kept FCn_keeps HR.out (Same.below HS.out hb) k hlt
      have hyw := HTL.out _ (List.getElem_mem hlt)
      have htk : (x.cs.take (k + 1)).map conNd = (x.cs.take k).map conNd ++ [conNd x.cs[k]] := by rw [List.take_succ_eq_append_getElem hlt, List.map_append]; rfl
      obtain ⟨y, hy⟩ : ∃ y, x.cs[k] = y := ⟨_, rfl⟩
      rw [hy] at hcc hyw htk hI
      have x0 : wr.cell? ⟨b, off + k * 2, none⟩ = some (.string y.s) := hcc 0 (by simp)
      have x1 : wr.cell? ⟨b, off + k * 2 + 1, none⟩ = some (.slice ka y.ts.length kc) := hcc 1 (by simp)
      have hb1 : Below wr.heap.size wr (wr.alloc (.cells #[.string y.s, .slice ka y.ts.length kc] 62)) := (Below.refl _ _).alloc (Nat.le_refl _) _
      have k1 := heap_alloc_new wr (.cells #[.string y.s, .slice ka y.ts.length kc] 62)
      obtain ⟨w1, hw1⟩ : ∃ w1, wr.alloc (.cells #[.string y.s, .slice ka y.ts.length kc] 62) = w1 := ⟨_, rfl⟩
      rw [hw1] at hb1 k1
      have q0 := cell_of_row _ wr.heap.size 0 _ _ _ k1
      have q1 := cell_of_row _ wr.heap.size 1 _ _ _ k1
      simp only [List.getElem?_toArray, List.getElem?_cons_zero, List.getElem?_cons_succ] at q0 q1
      have hysl : y.s.size ≤ 1048576 := by have := hyw; unfold Cn.wt at this; omega
      have hynl : y.ts.length ≤ 1048576 := by have := hyw; unfold Cn.wt wtStringS at this; omega
      have hytl : ∀ z ∈ y.ts, z.size ≤ 1048576 := fun z hz => by
        have h1 := wsum_mem ByteArray.size hz
        have := hyw
        unfold Cn.wt wtStringS at this
        omega
      have hSr : ∀ b, S b → b < wr.heap.size := fun b h => Nat.lt_of_lt_of_le (HS.out b h) hb.size
      have HW := Lib.hid (fun (w' : World) (h : Below w1.heap.size w1 w') => wordNodes_any y.ts ka kc S w' (hI.kept (Same.below hSr (below_step hb1 h))) (fun b h' => Nat.lt_of_lt_of_le (hSr b h') (Nat.le_trans hb1.size h.size)) hytl hynl)
      have hg1 : wr.heap.size < w1.heap.size := lt_of_block k1
      have HAPP := Lib.hid (fun (w' w7 : World) (h' : Below w1.heap.size w1 w') (a' : Option Addr) (c' : Nat) (hN : NodesIn (Seg w'.heap.size w7.heap.size) w7 (y.ts.map Nd.word) a' 0) (hb8 : Below w1.heap.size w1 w7) (W : World) (hW : W = w7.alloc (.cells #[.iface 112 (.agg #[.string y.s, .slice a' y.ts.length c'])] 78) ∨ W = (w7.alloc (.cells #[.iface 112 (.agg #[.string y.s, .slice a' y.ts.length c'])] 78)).drew) => by
        have hbW : Below w7.heap.size w7 W := by
          rcases hW with rfl | rfl
          · exact (Below.refl _ _).alloc (Nat.le_refl _) _
          · exact ((Below.refl _ _).alloc (Nat.le_refl _) _).drew
        have hgW : W.heap[w7.heap.size]? = some (.cells #[.iface 112 (.agg #[.string y.s, .slice a' y.ts.length c'])] 78 (0, 0)) := by
          rcases hW with rfl | rfl <;> exact heap_alloc_new w7 _
        have hb17 := below_step hb1 hb8
        have := (hm.below hb17).push2 (conNd y) 112 (.agg #[.string y.s, .slice a' y.ts.length c']) (Seg w'.heap.size w7.heap.size)
          (by unfold conNd; rw [NodeIn]; exact ⟨a', c', by rw [List.length_map], hysl, by rw [List.length_map]; exact hynl, hN⟩)
          (fun b h => by
            have e1 := h'.size
            have e2 := hb.size
            have h1 := h.1
            refine ⟨by omega, h.2, fun e => ?_⟩
            have := (hm.ge e).2
            omega) (by omega) (Nat.le_trans hb.size hb17.size) W0 rfl (below_step hb hb17) W hbW hgW
        rw [← htk] at this
        exact this)
      have HNX := Lib.hid (fun (v' : Value) (w9 wf : World) (h1 : MkRow W0.heap.size ((x.cs.take (k + 1)).map conNd) v' w9) (h2 : Below W0.heap.size W0 w9) (hh : wf.heap = w9.heap) (hbf : Below W0.heap.size W0 wf) => (show NTRel x W0 v' (.int .i64 ((k : Int) + 1)) wf from ⟨k + 1, by go_num, by omega, h1.of_heap hh, hbf⟩))
      clear hm hb hSb hvl hcc hyw htk hI hb1 k1 hysl hynl hytl hSr hlen hy
      have hB1 : Below w1.heap.size w1 w1 := Below.refl _ _
      go_wp2
      go_region_law (first
          | (refine step_plain (by rfl) ?_
             go_simp
             go_at_call 68
             refine (HW.out _ (by first | assumption | (apply Below.drew; assumption))).mono ?_
             rintro e7 w7 ⟨⟨a', c', rfl, hN⟩, hb7⟩
             have hb8 : Below w1.heap.size w1 w7 := below_keep (by first | assumption | (apply Below.drew; assumption)) hb7
             have HA7 := Lib.hid (HAPP.out _ w7 (by first | assumption | (apply Below.drew; assumption)) a' c' hN hb8)
             have z0 := (hb8.cell (p := ⟨wr.heap.size, 0, none⟩) hg1).trans q0
             have z1 := (hb8.cell (p := ⟨wr.heap.size, 1, none⟩) hg1).trans q1
             clear hb7 hN)
          | (refine step_node (by rfl) (.tmp 13) (.tmp 21) _ (by rfl) (by rfl) (by rfl) _ (HA7.out _ (by first | exact .inl rfl | exact .inr rfl)) ?_
             rintro v9 w9 ⟨hm9, hb9⟩)
          | fail)
      all_goals
        have HN := Lib.hid (HNX.out v9 w9 w9 hm9 hb9 rfl hb9)
        clear hm9 hb9 hb8 z0 z1
        simp only [Exit.inBlock, Exit.then]
        rename_i K hKK
        refine hKK _ _ ?_
        go_wp2
        go_roundw
        case rel => exact HN.out
        case measure => simp [intOf]; omega
    · obtain rfl : k = x.cs.length := by omega
      rw [List.take_length] at hm hlen
      have hm' := hm.fin
      have K1 := (hb.block _ (lt_of_block HK.out)).trans HK.out
      have q0 := cell_of_row _ w.heap.size 0 _ _ _ K1
      simp only [List.getElem?_toArray, List.getElem?_cons_zero, List.getElem?_cons_succ] at q0
      have HP := Lib.hid (show (∃ v : Value, Ending.returned (.iface 123 (.agg #[.string x.s, .slice aL x.cs.length cL])) = .returned v ∧ NodeIn (Seg w.heap.size wr.heap.size) wr (typeNd x) v) ∧ Below w.heap.size w wr from ⟨⟨_, rfl, by
        unfold typeNd
        rw [NodeIn]
        exact ⟨aL, cL, by rw [List.length_map], HSL.out, by rw [List.length_map]; exact hnl, NodesIn.kept (Same.refl _ _) (fun b h => ⟨Nat.le_trans HB0.out.size h.1, h.2⟩) _ _ _ hm'⟩⟩, below_step HB0.out hb⟩)
      clear hm hb hm' hlen K1
      go_wp2
      go_ret
      exact HP.out

end Go.Proofs.Ytdcfhmbnbfmnbaa.Pr
