/-
  The reference's ProgText.
-/
import Derived.Test.YtdcfhmbnbfmnbaaPJ6
import Derived.Deep.CutBlock
namespace Go.Proofs.Ytdcfhmbnbfmnbaa.Pr
open Go Go.RowKit Go.Maps Go.WideMaps

/-- The text so far: what it should be, or past all room. -/
def SI (p : Pg) (T s : BA) : Prop := s.size ≤ 4000000 ∧ (s = T ∨ (3000 < s.size ∧ 3000 < (progTxt p).size))
theorem SI.is {p : Pg} {T s : BA} (h : SI p T s) (hs : s.size ≤ 3000) : s = T := by
  rcases h.2 with h | h
  · exact h
  · omega
theorem SI.long {p : Pg} {T s : BA} (h : SI p T s) (hT : T.size ≤ (progTxt p).size) (hs : ¬ s.size ≤ 3000) (U : BA) : SI p U s := by
  refine ⟨h.1, .inr ⟨by omega, ?_⟩⟩
  rcases h.2 with rfl | h
  · omega
  · exact h.2
theorem SI.dot {p : Pg} {T s U : BA} (h : SI p T s) (h1 : s.size ≤ 3900000) (hU : U = T ++ ⟨#[46, 10]⟩) : SI p U (s ++ ⟨#[46, 10]⟩) := by
  refine ⟨by rw [ByteArray.size_append]; show _ + 2 ≤ _; omega, ?_⟩
  rcases h.2 with rfl | h
  · exact .inl hU.symm
  · exact .inr ⟨by rw [ByteArray.size_append]; omega, h.2⟩
def PT1 (p : Pg) (W0 : World) (v3 v4 : Value) (wr : World) : Prop :=
  ∃ (k : Nat) (A : BA), v4 = .int .i64 (k : Int) ∧ v3 = .string A ∧ k ≤ p.ts.length ∧ SI p (linesTxt ((p.ts.take k).map typeNd)) A ∧ Below W0.heap.size W0 wr
def PC1 (p : Pg) (W0 : World) (T : BA) (v3 : Value) (wr : World) : Prop := ∃ A : BA, v3 = .string A ∧ SI p T A ∧ Below W0.heap.size W0 wr
def PT3 (p : Pg) (W0 : World) (v3 v8 : Value) (wr : World) : Prop :=
  ∃ (k : Nat) (A : BA), v8 = .int .i64 (k : Int) ∧ v3 = .string A ∧ k ≤ p.us.length ∧ SI p (linesTxt (p.ts.map typeNd ++ p.rs.map relNd ++ (p.us.take k).map ruleNd)) A ∧ (∀ j (h : j < p.us.length), j < k → RuleOk p.us[j]) ∧ Below W0.heap.size W0 wr

def PTC (p : Pg) (H : BA) (y : Td) (W0 : World) (v3 v5 : Value) (wr : World) : Prop :=
  ∃ (j : Nat) (B : BA), v5 = .int .i64 (j : Int) ∧ v3 = .string B ∧ j ≤ y.cs.length ∧ SI p (H ++ consT (y.cs.take j)) B ∧ B.size ≤ 3900000 ∧ Below W0.heap.size W0 wr
def PC2 (p : Pg) (W0 : World) (T : BA) (v3 : Value) (wr : World) : Prop := ∃ A : BA, v3 = .string A ∧ SI p T A ∧ A.size ≤ 3900000 ∧ Below W0.heap.size W0 wr
def PT2 (p : Pg) (W0 : World) (v3 v7 : Value) (wr : World) : Prop :=
  ∃ (k : Nat) (A : BA), v7 = .int .i64 (k : Int) ∧ v3 = .string A ∧ k ≤ p.rs.length ∧ SI p (linesTxt (p.ts.map typeNd ++ (p.rs.take k).map relNd)) A ∧ (∀ j (h : j < p.rs.length), j < k → modeOk p.rs[j].m = true) ∧ Below W0.heap.size W0 wr
/-- One more constructor. -/
theorem SI.con0 {p : Pg} {H B : BA} {y : Td} {j : Nat} (hj : j < y.cs.length) (hB : B = H ++ consT (y.cs.take j)) (hs : B.size ≤ 3000) (hn : y.cs[j].s.size ≤ 1048576) (h0 : ¬ 0 < y.cs[j].ts.length) :
    SI p (H ++ consT (y.cs.take (j + 1))) ((if 0 < j then B ++ ⟨#[32, 124, 32]⟩ else B) ++ y.cs[j].s) ∧ ((if 0 < j then B ++ ⟨#[32, 124, 32]⟩ else B) ++ y.cs[j].s).size ≤ 3900000 := by
  have hz : ((if 0 < j then B ++ ⟨#[32, 124, 32]⟩ else B) ++ y.cs[j].s).size ≤ 3900000 := by
    split <;> simp only [ByteArray.size_append]
    · show _ + 3 + _ ≤ _; omega
    · omega
  refine ⟨⟨Nat.le_trans hz (by omega), ?_⟩, hz⟩
  clear hz
  rw [consT_snoc _ j hj, conNd_txt, if_neg h0, hB]
  exact .inl (by split <;> simp only [ByteArray.append_assoc])
theorem SI.con1 {p : Pg} {H B r : BA} {y : Td} {j : Nat} (hj : j < y.cs.length) (hB : B = H ++ consT (y.cs.take j)) (hs : B.size ≤ 3000) (hn : y.cs[j].s.size ≤ 1048576) (h0 : 0 < y.cs[j].ts.length) (hr : CutOf (listT y.cs[j].ts) r) (hp : (listT y.cs[j].ts).size ≤ (progTxt p).size) :
    SI p (H ++ consT (y.cs.take (j + 1))) ((if 0 < j then B ++ ⟨#[32, 124, 32]⟩ else B) ++ y.cs[j].s ++ ⟨#[40]⟩ ++ r ++ ⟨#[41]⟩) ∧ ((if 0 < j then B ++ ⟨#[32, 124, 32]⟩ else B) ++ y.cs[j].s ++ ⟨#[40]⟩ ++ r ++ ⟨#[41]⟩).size ≤ 3900000 := by
  have hr1 := hr.1
  have hz : ((if 0 < j then B ++ ⟨#[32, 124, 32]⟩ else B) ++ y.cs[j].s ++ ⟨#[40]⟩ ++ r ++ ⟨#[41]⟩).size ≤ 3900000 := by
    split <;> simp only [ByteArray.size_append]
    · show _ + 3 + _ + 1 + _ + 1 ≤ _; omega
    · show _ + 1 + _ + 1 ≤ _; omega
  refine ⟨⟨Nat.le_trans hz (by omega), ?_⟩, hz⟩
  clear hz
  rw [consT_snoc _ j hj, conNd_txt, if_pos h0, hB]
  rcases hr.2 with rfl | h
  · exact .inl (by split <;> simp only [ByteArray.append_assoc])
  · exact .inr ⟨by simp only [ByteArray.size_append]; omega, by omega⟩
theorem cell_keep_drew {w : World} {b i : Nat} {v : Value} (h : w.cell? ⟨b, i, none⟩ = some v) (o : Obj) : (w.alloc o).drew.cell? ⟨b, i, none⟩ = some v := cell_keep_alloc h o
theorem cell_new_kept {w w7 : World} {xs : List Value} {t : TypeId} (hb : Below (w.alloc (.cells xs.toArray t)).heap.size (w.alloc (.cells xs.toArray t)) w7) (i : Nat) (v : Value) (hv : xs.toArray[i]? = some v) : w7.cell? ⟨w.heap.size, i, none⟩ = some v := by
  have k := heap_alloc_new w (.cells xs.toArray t)
  have k1 := (hb.block _ (lt_of_block k)).trans k
  exact (cell_of_row _ w.heap.size i _ _ _ k1).trans hv
theorem wpAnyH_strong {P : Program} {md : Region.Mode} {ops : Array Oper} {Q : Exit → Act → World → Prop} {S S' : World → Prop} (h : ∀ w, S' w → S w) : ∀ (fuel : Nat) (listed : Array Bool) (a : Act) (w : World), wpAnyH P md ops Q S' fuel listed a w → wpAnyH P md ops Q S fuel listed a w
  | 0, _, _, _, h' => h'
  | fuel + 1, _, _, _, h' => ⟨h'.1, fun i hi => wpOp_mono (fun a' w' g => ⟨h w' g.1, wpAnyH_strong h fuel _ a' w' g.2⟩) (h'.2 i hi)⟩
theorem modes_at (m : Nat) (h : m < 4) : (#[Value.string ⟨#[]⟩, .string ⟨#[32, 105, 110, 112, 117, 116]⟩, .string ⟨#[32, 111, 117, 116, 112, 117, 116]⟩, .string ⟨#[32, 105, 110, 108, 105, 110, 101]⟩] : Array Value)[m]? = some (.string (modeTxt (m : Int))) := by
  match m, h with
  | 0, _ => rfl
  | 1, _ => rfl
  | 2, _ => rfl
  | 3, _ => rfl
/-- One more relation. -/
theorem SI.rel {p : Pg} {A r U : BA} {y : Rd} (hline : U = A ++ ⟨#[114, 101, 108, 32]⟩ ++ y.s ++ ⟨#[40]⟩ ++ listT y.ts ++ ⟨#[41]⟩ ++ modeTxt y.m ++ ⟨#[46, 10]⟩) (hs : A.size ≤ 3000) (hn : y.s.size ≤ 1048576) (hr : CutOf (listT y.ts) r) (hp : (listT y.ts).size ≤ (progTxt p).size) :
    SI p U (A ++ ⟨#[114, 101, 108, 32]⟩ ++ y.s ++ ⟨#[40]⟩ ++ r ++ ⟨#[41]⟩ ++ modeTxt y.m ++ ⟨#[46, 10]⟩) := by
  have hr1 := hr.1
  have hm := modeTxt_size y.m
  refine ⟨?_, ?_⟩
  · simp only [ByteArray.size_append]
    show _ + 4 + _ + 1 + _ + 1 + _ + 2 ≤ _
    omega
  · rcases hr.2 with rfl | h
    · exact .inl hline.symm
    · exact .inr ⟨by simp only [ByteArray.size_append]; omega, by omega⟩

set_option maxRecDepth 100000 in
set_option maxHeartbeats 4000000 in
theorem specProg_any (p : Pg) (vs : List Value) (S : Nat → Prop) (w : World) (hF : FPg S w vs p) (hS : ∀ b, S b → b < w.heap.size) (hw : p.wt ≤ 1048576) : Calls Try.prog 6 #[.agg vs.toArray] w (ProgPost p w) := by
  obtain ⟨a, c, ar, cr, au, cu, rfl, r0, r1, r2⟩ := hF
  have hb0 : Below w.heap.size w (w.alloc (.cells #[.slice a p.ts.length c, .slice ar p.rs.length cr, .slice au p.us.length cu] 33)) := (Below.refl _ _).alloc (Nat.le_refl _) _
  have k0 := heap_alloc_new w (.cells #[.slice a p.ts.length c, .slice ar p.rs.length cr, .slice au p.us.length cu] 33)
  obtain ⟨W0, hW0⟩ : ∃ W0, w.alloc (.cells #[.slice a p.ts.length c, .slice ar p.rs.length cr, .slice au p.us.length cu] 33) = W0 := ⟨_, rfl⟩
  rw [hW0] at hb0 k0
  have hl : p.ts.length + p.rs.length + p.us.length ≤ 1048576 := by have := hw; unfold Pg.wt wtTypeDeclS wtRelDeclS wtRuleS at this; omega
  have htl : ∀ y ∈ p.ts, y.wt ≤ 1048576 := fun y hy => by
    have h1 := wsum_mem Td.wt hy
    have := hw
    unfold Pg.wt wtTypeDeclS at this
    omega
  have hrl : ∀ y ∈ p.rs, y.wt ≤ 1048576 := fun y hy => by
    have h1 := wsum_mem Rd.wt hy
    have := hw
    unfold Pg.wt wtRelDeclS at this
    omega
  have hul : ∀ y ∈ p.us, y.wt ≤ 1048576 := fun y hy => by
    have h1 := wsum_mem Ru.wt hy
    have := hw
    unfold Pg.wt wtRuleS at this
    omega
  have HB0 := Lib.hid hb0
  have HTL := Lib.hid htl
  have HRL := Lib.hid hrl
  have HUL := Lib.hid hul
  have HR0 := Lib.hid (RowIn.kept FTd_keeps r0 (Same.below hS hb0))
  have HR1 := Lib.hid (RowIn.kept FRd_keeps r1 (Same.below hS hb0))
  have HR2 := Lib.hid (RowIn.kept FRu_keeps r2 (Same.below hS hb0))
  have HS := Lib.hid (fun (b : Nat) (h : S b) => (Nat.lt_of_lt_of_le (hS b h) hb0.size : b < W0.heap.size))
  have HK := Lib.hid k0
  clear r0 r1 r2 hb0 k0 htl hrl hul hw hS
  go_enter Try.func6, Try.ntmps6
  go_upto_block 0 with fail
  go_cut [3] from 4 to 77 (fun v3 wr => PC1 p W0 (linesTxt (p.ts.map typeNd)) v3 wr)
  case first =>
    have HST := Lib.hid (show PT1 p W0 (.string ⟨#[]⟩) (.int .i64 0) W0 from ⟨0, _, rfl, rfl, Nat.zero_le _, ⟨by decide, .inl rfl⟩, Below.refl _ _⟩)
    go_wp2
    go_loopw [3, 4] (fun v3 v4 wr => PT1 p W0 v3 v4 wr) (fun _ v4 _ => (p.ts.length - (intOf v4).toNat))
    case atStart => exact HST.out
    case round =>
      obtain ⟨k, A, rfl, rfl, hk, hA, hb⟩ := hrel
      clear HST
      have K1 := (hb.block _ (lt_of_block HK.out)).trans HK.out
      have q0 := cell_of_row _ w.heap.size 0 _ _ _ K1
      simp only [List.getElem?_toArray, List.getElem?_cons_zero, List.getElem?_cons_succ] at q0
      by_cases hlt : k < p.ts.length
      · have hd : decide ((k : Int) < (p.ts.length : Int)) = true := decide_eq_true (by omega)
        have hd0 : decide (k < p.ts.length) = true := decide_eq_true hlt
        by_cases hs : A.size ≤ 3000
        · have h1 : decide ((A.size : Int) ≤ 3000) = true := decide_eq_true (by omega)
          have h2 : decide (A.size ≤ 3000) = true := decide_eq_true hs
          obtain ⟨b, off, vs, ha, hSb, hvl, hcc, hFt⟩ := HR0.out k hlt
          subst ha
          obtain ⟨acs, ccs, rfl, hrow⟩ := hFt
          have hyw := HTL.out _ (List.getElem_mem hlt)
          have hhead := head_part p k hlt
          have hcon := con_part p k hlt
          have hline := type_line p k hlt
          rw [← hA.is hs] at hhead hline
          obtain ⟨y, hy⟩ : ∃ y, p.ts[k] = y := ⟨_, rfl⟩
          rw [hy] at hcc hyw hrow hhead hcon hline
          have x0 : wr.cell? ⟨b, off + k * 2, none⟩ = some (.string y.s) := hcc.kept hSb (Same.below HS.out hb) 0 (by simp)
          have x1 : wr.cell? ⟨b, off + k * 2 + 1, none⟩ = some (.slice acs y.cs.length ccs) := hcc.kept hSb (Same.below HS.out hb) 1 (by simp)
          have hys : y.s.size ≤ 1048576 := by unfold Td.wt at hyw; omega
          have n1 : ¬ (9223372036854775807 < A.size + 5) := by omega
          have n2 : ¬ (9223372036854775807 < A.size + 5 + y.s.size) := by omega
          have n3 : ¬ (9223372036854775807 < A.size + 5 + y.s.size + 3) := by omega
          have HHE := Lib.hid hhead
          have HCO := Lib.hid hcon
          have HLI := Lib.hid hline
          have HYW := Lib.hid hyw
          have HB := Lib.hid hb
          have HSB := Lib.hid hSb
          have HCC := Lib.hid hcc
          have HRW := Lib.hid hrow
          have HK1 := Lib.hid K1
          have HS1 := Lib.hid hs
          have HY := Lib.hid hy
          clear hA hb hhead hcon hline hyw hSb hcc hrow K1 hvl hy hs hys
          go_upto_block 2 with fail
          obtain ⟨H, hH⟩ : ∃ H : BA, H = A ++ ⟨#[116, 121, 112, 101, 32]⟩ ++ y.s ++ ⟨#[32, 61, 32]⟩ := ⟨_, rfl⟩
          rw [← hH] at HHE HLI ⊢
          go_cut [3, 5, 6] from 32 to 75 (fun v3 _ _ w' => PC2 p W0 (H ++ consT y.cs) v3 w')
          case first =>
            have hHz : H.size ≤ 3900000 := by rw [hH]; simp only [ByteArray.size_append]; show _ + 5 + _ + 3 ≤ _; have := HYW.out; unfold Td.wt at this; have := HS1.out; omega
            have HST := Lib.hid (show PTC p H y W0 (.string H) (.int .i64 0) wr from ⟨0, H, rfl, rfl, Nat.zero_le _, ⟨by omega, .inl (show H = H ++ ByteArray.empty from ByteArray.append_empty.symm)⟩, hHz, HB.out⟩)
            clear hHz
            have HHH := Lib.hid hH
            clear hH x0 x1 q0 HK1 n1 n2 n3 h1 h2 hd hd0
            go_wp2
            go_loopw [3, 5] (fun v3 v5 w' => PTC p H y W0 v3 v5 w') (fun _ v5 _ => (y.cs.length - (intOf v5).toNat))
            case atStart => exact HST.out
            case round =>
              obtain ⟨j, B, rfl, rfl, hj, hB, hBz, hb⟩ := hrel
              clear HST
              have K1 := (hb.block _ (lt_of_block HK.out)).trans HK.out
              have q0 := cell_of_row _ w.heap.size 0 _ _ _ K1
              simp only [List.getElem?_toArray, List.getElem?_cons_zero, List.getElem?_cons_succ] at q0
              have x1 : wr.cell? ⟨b, off + k * 2 + 1, none⟩ = some (.slice acs y.cs.length ccs) := HCC.out.kept HSB.out (Same.below HS.out hb) 1 (by simp)
              by_cases hjl : j < y.cs.length
              · have hd1 : decide ((j : Int) < (y.cs.length : Int)) = true := decide_eq_true (by omega)
                have hd2 : decide (j < y.cs.length) = true := decide_eq_true hjl
                have hyl : y.cs.length ≤ 1048576 := by have := HYW.out; unfold Td.wt wtConS at this; omega
                by_cases hs : B.size ≤ 3000
                · have h1 : decide ((B.size : Int) ≤ 3000) = true := decide_eq_true (by omega)
                  have h2 : decide (B.size ≤ 3000) = true := decide_eq_true hs
                  obtain ⟨b2, off2, vs2, ha2, hSb2, hvl2, hcc2, hFc⟩ := RowIn.kept FCn_keeps HRW.out (Same.below HS.out hb) j hjl
                  subst ha2
                  obtain ⟨ats, cts, rfl, htx⟩ := hFc
                  have hcw : y.cs[j].wt ≤ 1048576 := by
                    have h1 := wsum_mem Cn.wt (List.getElem_mem hjl)
                    have := HYW.out
                    unfold Td.wt wtConS at this
                    omega
                  have hcp := HCO.out j hjl
                  have hBe := hB.is hs
                  have hc0 := fun h => SI.con0 (p := p) (H := H) (B := B) hjl hBe hs (by unfold Cn.wt at hcw; omega) h
                  have hc1 := fun h r hr => SI.con1 (p := p) (H := H) (B := B) (r := r) hjl hBe hs (by unfold Cn.wt at hcw; omega) h hr (hcp h)
                  obtain ⟨c', hc⟩ : ∃ c', y.cs[j] = c' := ⟨_, rfl⟩
                  rw [hc] at hcc2 htx hcw hc0 hc1
                  have z0 : wr.cell? ⟨b2, off2 + j * 2, none⟩ = some (.string c'.s) := hcc2 0 (by simp)
                  have z1 : wr.cell? ⟨b2, off2 + j * 2 + 1, none⟩ = some (.slice ats c'.ts.length cts) := hcc2 1 (by simp)
                  have hbw : Below wr.heap.size wr (wr.alloc (.cells #[.string c'.s, .slice ats c'.ts.length cts] 62)) := (Below.refl _ _).alloc (Nat.le_refl _) _
                  have hk3 := heap_alloc_new wr (.cells #[.string c'.s, .slice ats c'.ts.length cts] 62)
                  obtain ⟨w3, hw3⟩ : ∃ w3, wr.alloc (.cells #[.string c'.s, .slice ats c'.ts.length cts] 62) = w3 := ⟨_, rfl⟩
                  rw [hw3] at hbw hk3
                  have c0 := cell_of_row _ wr.heap.size 0 _ _ _ hk3
                  have c1 := cell_of_row _ wr.heap.size 1 _ _ _ hk3
                  simp only [List.getElem?_toArray, List.getElem?_cons_zero, List.getElem?_cons_succ] at c0 c1
                  have hb3 := below_step hb hbw
                  have hct : (∀ x ∈ c'.ts, x.size ≤ 1048576) ∧ c'.ts.length ≤ 1048576 ∧ c'.s.size ≤ 1048576 := by
                    unfold Cn.wt wtStringS at hcw
                    exact ⟨fun x hx => by have := wsum_mem ByteArray.size hx; omega, by omega, by omega⟩
                  have HL := Lib.hid (specList_any c'.ts ats cts S w3 (htx.kept (Same.below (fun b h => Nat.lt_of_lt_of_le (HS.out b h) hb.size) hbw)) (fun b h => Nat.lt_of_lt_of_le (HS.out b h) hb3.size) hct.1 hct.2.1)
                  have hcl := hct.2.1
                  have hcs := hct.2.2
                  have HB3 := Lib.hid hb3
                  have HC0 := Lib.hid hc0
                  have HC1 := Lib.hid hc1
                  have HSS := Lib.hid hs
                  clear hB hBz hb K1 hSb2 hcc2 htx hcw hcp hBe hc hbw hk3 hb3 hct hc0 hc1 hs hvl2
                  have n0 : ¬ (9223372036854775807 < B.size + 3) := by have := HSS.out; omega
                  have n1 : ¬ (9223372036854775807 < B.size + 3 + c'.s.size) := by have := HSS.out; omega
                  have n2 : ¬ (9223372036854775807 < B.size + c'.s.size) := by have := HSS.out; omega
                  have n3 : ¬ (9223372036854775807 < B.size + 3 + c'.s.size + 1) := by have := HSS.out; omega
                  have n4 : ¬ (9223372036854775807 < B.size + c'.s.size + 1) := by have := HSS.out; omega
                  by_cases hj0 : 0 < j
                  · have g1 : decide ((0 : Int) < (j : Int)) = true := decide_eq_true (by omega)
                    have g2 : decide (0 < j) = true := decide_eq_true hj0
                    by_cases ht0 : 0 < c'.ts.length
                    · have g3 : decide ((0 : Int) < (c'.ts.length : Int)) = true := decide_eq_true (by omega)
                      have g4 : decide (0 < c'.ts.length) = true := decide_eq_true ht0
                      have HJ0 := Lib.hid hj0
                      have HT0 := Lib.hid ht0
                      go_wp2_with fail
                      refine HL.out.mono ?_
                      rintro e w7 ⟨⟨r, rfl, hr⟩, hb7⟩
                      have hr1 := hr.1
                      have n5 : ¬ (9223372036854775807 < B.size + 3 + c'.s.size + 1 + r.size) := by have := HSS.out; omega
                      have n6 : ¬ (9223372036854775807 < B.size + 3 + c'.s.size + 1 + r.size + 1) := by have := HSS.out; omega
                      have hsi := HC1.out ht0 r hr
                      rw [if_pos HJ0.out] at hsi
                      have HN := Lib.hid (show PTC p H y W0 (.string (B ++ ⟨#[32, 124, 32]⟩ ++ c'.s ++ ⟨#[40]⟩ ++ r ++ ⟨#[41]⟩)) (.int .i64 ((j : Int) + 1)) w7 from ⟨j + 1, _, by go_num, rfl, by omega, hsi.1, hsi.2, below_step HB3.out hb7⟩)
                      clear hr hr1 hsi hb7 HL HC0 HC1 c0 c1 z0 z1 x1 q0
                      go_wp2
                      go_roundw
                      case rel => exact HN.out
                      case measure => simp [intOf]; omega
                    · have g3 : decide ((0 : Int) < (c'.ts.length : Int)) = false := decide_eq_false (by omega)
                      have g4 : decide (0 < c'.ts.length) = false := decide_eq_false ht0
                      have hsi := HC0.out ht0
                      rw [if_pos hj0] at hsi
                      have HN := Lib.hid (show PTC p H y W0 (.string (B ++ ⟨#[32, 124, 32]⟩ ++ c'.s)) (.int .i64 ((j : Int) + 1)) w3 from ⟨j + 1, _, by go_num, rfl, by omega, hsi.1, hsi.2, HB3.out⟩)
                      have HJ0 := Lib.hid hj0
                      have HT0 := Lib.hid ht0
                      clear hsi HL HC0 HC1 ht0
                      go_wp2
                      go_roundw
                      case rel => exact HN.out
                      case measure => simp [intOf]; omega
                  · have g1 : decide ((0 : Int) < (j : Int)) = false := decide_eq_false (by omega)
                    have g2 : decide (0 < j) = false := decide_eq_false hj0
                    by_cases ht0 : 0 < c'.ts.length
                    · have g3 : decide ((0 : Int) < (c'.ts.length : Int)) = true := decide_eq_true (by omega)
                      have g4 : decide (0 < c'.ts.length) = true := decide_eq_true ht0
                      have HJ0 := Lib.hid hj0
                      have HT0 := Lib.hid ht0
                      clear hj0
                      go_wp2_with fail
                      refine HL.out.mono ?_
                      rintro e w7 ⟨⟨r, rfl, hr⟩, hb7⟩
                      have hr1 := hr.1
                      have n5 : ¬ (9223372036854775807 < B.size + c'.s.size + 1 + r.size) := by have := HSS.out; omega
                      have n6 : ¬ (9223372036854775807 < B.size + c'.s.size + 1 + r.size + 1) := by have := HSS.out; omega
                      have hsi := HC1.out ht0 r hr
                      rw [if_neg HJ0.out] at hsi
                      have HN := Lib.hid (show PTC p H y W0 (.string (B ++ c'.s ++ ⟨#[40]⟩ ++ r ++ ⟨#[41]⟩)) (.int .i64 ((j : Int) + 1)) w7 from ⟨j + 1, _, by go_num, rfl, by omega, hsi.1, hsi.2, below_step HB3.out hb7⟩)
                      clear hr hr1 hsi hb7 HL HC0 HC1 c0 c1 z0 z1 x1 q0
                      go_wp2
                      go_roundw
                      case rel => exact HN.out
                      case measure => simp [intOf]; omega
                    · have g3 : decide ((0 : Int) < (c'.ts.length : Int)) = false := decide_eq_false (by omega)
                      have g4 : decide (0 < c'.ts.length) = false := decide_eq_false ht0
                      have hsi := HC0.out ht0
                      rw [if_neg hj0] at hsi
                      have HN := Lib.hid (show PTC p H y W0 (.string (B ++ c'.s)) (.int .i64 ((j : Int) + 1)) w3 from ⟨j + 1, _, by go_num, rfl, by omega, hsi.1, hsi.2, HB3.out⟩)
                      have HJ0 := Lib.hid hj0
                      have HT0 := Lib.hid ht0
                      clear hsi HL HC0 HC1 ht0
                      clear hj0
                      go_wp2
                      go_roundw
                      case rel => exact HN.out
                      case measure => simp [intOf]; omega
                · have h1 : decide ((B.size : Int) ≤ 3000) = false := decide_eq_false (by omega)
                  have h2 : decide (B.size ≤ 3000) = false := decide_eq_false hs
                  have HE := Lib.hid (show PC2 p W0 (H ++ consT y.cs) (.string B) wr from ⟨B, rfl, hB.long (HHE.out j hj) hs _, hBz, hb⟩)
                  have HSS := Lib.hid hs
                  clear hB hBz hb K1 hs
                  go_wp2
                  go_meet
                  exact HE.out
              · obtain rfl : j = y.cs.length := by omega
                rw [List.take_length] at hB
                have hd1 : decide ((y.cs.length : Int) < (y.cs.length : Int)) = false := decide_eq_false (by omega)
                have HE := Lib.hid (show PC2 p W0 (H ++ consT y.cs) (.string B) wr from ⟨B, rfl, hB, hBz, hb⟩)
                clear hB hBz hb K1
                go_wp2
                go_meet
                exact HE.out
          case rest =>
            obtain ⟨B, rfl, hB, hs4, hb⟩ := hcut
            have n5 : ¬ (9223372036854775807 < B.size + 2) := by omega
            have HN := Lib.hid (show PT1 p W0 (.string (B ++ ⟨#[46, 10]⟩)) (.int .i64 ((k : Int) + 1)) _ from ⟨k + 1, _, by go_num, rfl, by omega, hB.dot hs4 HLI.out, hb⟩)
            have HS4 := Lib.hid hs4
            clear hB hb hs4 x0 x1 q0 n1 n2 n3
            go_wp2
            go_roundw
            case rel => exact HN.out
            case measure => simp [intOf]; omega
        · have h1 : decide ((A.size : Int) ≤ 3000) = false := decide_eq_false (by omega)
          have h2 : decide (A.size ≤ 3000) = false := decide_eq_false hs
          have HE := Lib.hid (show PC1 p W0 (linesTxt (p.ts.map typeNd)) (.string A) wr from ⟨A, rfl, hA.long (types_part p k) hs _, hb⟩)
          have HSS := Lib.hid hs
          clear hA hb K1 hs
          go_wp2
          go_meet
          exact HE.out
      · obtain rfl : k = p.ts.length := by omega
        rw [List.take_length] at hA
        have hd : decide ((p.ts.length : Int) < (p.ts.length : Int)) = false := decide_eq_false (by omega)
        have HE := Lib.hid (show PC1 p W0 (linesTxt (p.ts.map typeNd)) (.string A) wr from ⟨A, rfl, hA, hb⟩)
        clear hA hb K1
        go_wp2
        go_meet
        exact HE.out
  case rest =>
    obtain ⟨A, rfl, hA, hb⟩ := hcut
    go_upto_block 4 with fail
    go_cut [3] from 4 to 127 (fun v3 wr => PC1 p W0 (linesTxt (p.ts.map typeNd ++ p.rs.map relNd)) v3 wr ∧ ∀ x ∈ p.rs, modeOk x.m = true ∨ 3000 < (progTxt p).size)
    case first =>
      have HST := Lib.hid (show PT2 p W0 (.string A) (.int .i64 0) _ from ⟨0, A, rfl, rfl, Nat.zero_le _, by simpa using hA, fun j h hj => by omega, hb⟩)
      clear hA hb
      go_wp2
      go_loopw [3, 7] (fun v3 v7 wr => PT2 p W0 v3 v7 wr) (fun _ v7 _ => (p.rs.length - (intOf v7).toNat))
      case atStart => exact HST.out
      case round =>
        obtain ⟨k, A, rfl, rfl, hk, hA, hgd, hb⟩ := hrel
        clear HST
        have K1 := (hb.block _ (lt_of_block HK.out)).trans HK.out
        have q1 := cell_of_row _ w.heap.size 1 _ _ _ K1
        simp only [List.getElem?_toArray, List.getElem?_cons_zero, List.getElem?_cons_succ] at q1
        by_cases hlt : k < p.rs.length
        · have hd : decide ((k : Int) < (p.rs.length : Int)) = true := decide_eq_true (by omega)
          have hd0 : decide (k < p.rs.length) = true := decide_eq_true hlt
          by_cases hs : A.size ≤ 3000
          · have h1 : decide ((A.size : Int) ≤ 3000) = true := decide_eq_true (by omega)
            have h2 : decide (A.size ≤ 3000) = true := decide_eq_true hs
            obtain ⟨b, off, vs, ha, hSb, hvl, hcc, hFr⟩ := HR1.out k hlt
            subst ha
            obtain ⟨ats, cts, rfl, htx⟩ := hFr
            have hyw := HRL.out _ (List.getElem_mem hlt)
            have hnone := progAns_mode p k hlt
            have hline := rel_line p k hlt
            have hpart := rel_part p k hlt
            rw [← hA.is hs] at hline
            obtain ⟨y, hy⟩ : ∃ y, p.rs[k] = y := ⟨_, rfl⟩
            rw [hy] at hcc hyw htx hnone hline hpart
            have x0 : wr.cell? ⟨b, off + k * 3, none⟩ = some (.string y.s) := hcc.kept hSb (Same.below HS.out hb) 0 (by simp)
            have x1 : wr.cell? ⟨b, off + k * 3 + 1, none⟩ = some (.slice ats y.ts.length cts) := hcc.kept hSb (Same.below HS.out hb) 1 (by simp)
            have x2 : wr.cell? ⟨b, off + k * 3 + 2, none⟩ = some (.int .i64 y.m) := hcc.kept hSb (Same.below HS.out hb) 2 (by simp)
            have HB := Lib.hid hb
            have HGD := Lib.hid hgd
            have HNO := Lib.hid hnone
            have HLI := Lib.hid hline
            have HPA := Lib.hid hpart
            have HYW := Lib.hid hyw
            have HTX := Lib.hid htx
            have HY := Lib.hid hy
            have HSS := Lib.hid hs
            have HK1 := Lib.hid K1
            have HSB := Lib.hid hSb
            have HCC := Lib.hid hcc
            clear hA hb hgd hnone hline hpart hyw htx hy hs K1 hSb hcc hvl
            have HBE := Lib.hid (between_any y.m 0 3 wr)
            go_wp2_with fail
            refine HBE.out.mono ?_
            rintro e w6 ⟨rfl, rfl⟩
            by_cases hmo : modeOk y.m = false
            · have hm1 : (decide (0 ≤ y.m) && decide (y.m ≤ 3)) = false := hmo
              rw [hm1]
              have HP := Lib.hid (show ProgPost p w (.returned (.string ⟨#[]⟩)) w6 from ⟨by rw [HNO.out hmo], below_step HB0.out HB.out⟩)
              clear HBE hmo hm1 HNO HLI x0 x1 x2
              go_wp2
              go_ret
              exact HP.out
            rw [Bool.not_eq_false] at hmo
            have hm1 : (decide (0 ≤ y.m) && decide (y.m ≤ 3)) = true := hmo
            rw [hm1]
            have hmr : ∃ m : Nat, y.m = (m : Int) ∧ m < 4 := ⟨y.m.toNat, by simp [modeOk] at hmo; omega, by simp [modeOk] at hmo; omega⟩
            obtain ⟨m, hm, hm4⟩ := hmr
            have hys : y.s.size ≤ 1048576 := by have := HYW.out; unfold Rd.wt at this; omega
            have hts : (∀ x ∈ y.ts, x.size ≤ 1048576) ∧ y.ts.length ≤ 1048576 := by
              have := HYW.out
              unfold Rd.wt wtStringS at this
              exact ⟨fun x hx => by have := wsum_mem ByteArray.size hx; omega, by omega⟩
            have HL := Lib.hid (fun (W : World) (hW : Below w6.heap.size w6 W) => specList_any y.ts ats cts S W (HTX.out.kept (Same.below HS.out (below_step HB.out hW))) (fun b h => Nat.lt_of_lt_of_le (HS.out b h) (below_step HB.out hW).size) hts.1 hts.2)
            have HSI := Lib.hid (fun r hr => SI.rel (p := p) (r := r) HLI.out HSS.out hys hr HPA.out)
            have HMO := Lib.hid hmo
            have hg1 : w.heap.size < w6.heap.size := lt_of_block HK1.out
            have hg2 : b < w6.heap.size := Nat.lt_of_lt_of_le (HS.out b HSB.out) HB.out.size
            have hAs := HSS.out
            have n1 : ¬ (9223372036854775807 < A.size + 4) := by omega
            have n2 : ¬ (9223372036854775807 < A.size + 4 + y.s.size) := by omega
            have n3 : ¬ (9223372036854775807 < A.size + 4 + y.s.size + 1) := by omega
            have hrow := modes_at m hm4
            have hmz := modeTxt_size (m : Int)
            rw [hm] at x2 HSI
            obtain ⟨M, hM⟩ : ∃ M, M = modeTxt (m : Int) := ⟨_, rfl⟩
            rw [← hM] at HSI hrow hmz
            have b1 : (0 : Int) ≤ (m : Int) := by omega
            have b2 : (m : Int) < 4 := by omega
            have HM := Lib.hid hm
            have HRO := Lib.hid hrow
            have HB0' := Lib.hid (show Below w6.heap.size w6 w6.drew from (Below.refl _ _).drew)
            clear HBE hmo hm1 HNO HLI hts hm hM hrow hAs
            go_wp2
            refine wp_region_held_drew (S := fun w' => w'.cell? ⟨w.heap.size, 1, none⟩ = some (.slice (some ⟨b, off, none⟩) p.rs.length cr) ∧ w'.cell? ⟨b, off + k * 3, none⟩ = some (.string y.s) ∧ w'.cell? ⟨b, off + k * 3 + 1, none⟩ = some (.slice ats y.ts.length cts) ∧ w'.cell? ⟨b, off + k * 3 + 2, none⟩ = some (.int .i64 (m : Int)) ∧ Below w6.heap.size w6 w') (by kernel_rfl) ?_ (fun hHeld => ?_)
            · exact ⟨q1, x0, x1, x2, HB0'.out⟩
            refine wpAnyH_take (i := 0) (v := ?_) rfl (by kernel_rfl) (by kernel_rfl) (by kernel_rfl) (fun _ _ _ h => h) (Or.inl ⟨by rfl, ?_⟩) (by assumption) ?_
            rotate_left
            · (intro w9 hSw; (try dsimp only at hSw); go_simp; try with_reducible rfl)
            try simp only [Act.put, List.getElem_toArray, List.getElem_cons_zero, List.getElem_cons_succ, List.setIfInBounds_toArray, List.set_cons_zero, List.set_cons_succ]
            refine wpAnyH_take (i := 1) (v := ?_) rfl (by kernel_rfl) (by kernel_rfl) (by kernel_rfl) (fun _ _ _ h => h) (Or.inl ⟨by rfl, ?_⟩) (by assumption) ?_
            rotate_left
            · (intro w9 hSw; (try dsimp only at hSw); go_simp; try with_reducible rfl)
            try simp only [Act.put, List.getElem_toArray, List.getElem_cons_zero, List.getElem_cons_succ, List.setIfInBounds_toArray, List.set_cons_zero, List.set_cons_succ]
            refine wpAnyH_take (i := 2) (v := ?_) rfl (by kernel_rfl) (by kernel_rfl) (by kernel_rfl) (fun _ _ _ h => h) (Or.inl ⟨by rfl, ?_⟩) (by assumption) ?_
            rotate_left
            · (intro w9 hSw; (try dsimp only at hSw); go_simp; try with_reducible rfl)
            try simp only [Act.put, List.getElem_toArray, List.getElem_cons_zero, List.getElem_cons_succ, List.setIfInBounds_toArray, List.set_cons_zero, List.set_cons_succ]
            refine wpAnyH_take (i := 3) (v := ?_) rfl (by kernel_rfl) (by kernel_rfl) (by kernel_rfl) (fun _ _ _ h => h) (Or.inl ⟨by rfl, ?_⟩) (by assumption) ?_
            rotate_left
            · (intro w9 hSw; (try dsimp only at hSw); go_simp; try with_reducible rfl)
            try simp only [Act.put, List.getElem_toArray, List.getElem_cons_zero, List.getElem_cons_succ, List.setIfInBounds_toArray, List.set_cons_zero, List.set_cons_succ]
            refine wpAnyH_take (i := 4) (v := ?_) rfl (by kernel_rfl) (by kernel_rfl) (by kernel_rfl) (fun _ _ _ h => h) (Or.inl ⟨by rfl, ?_⟩) (by assumption) ?_
            rotate_left
            · (intro w9 hSw; (try dsimp only at hSw); go_simp; try with_reducible rfl)
            try simp only [Act.put, List.getElem_toArray, List.getElem_cons_zero, List.getElem_cons_succ, List.setIfInBounds_toArray, List.set_cons_zero, List.set_cons_succ]
            refine wpAnyH_take (i := 5) (v := ?_) rfl (by kernel_rfl) (by kernel_rfl) (by kernel_rfl) (fun _ _ _ h => h) (Or.inl ⟨by rfl, ?_⟩) (by assumption) ?_
            rotate_left
            · (intro w9 hSw; (try dsimp only at hSw); go_simp; try with_reducible rfl)
            try simp only [Act.put, List.getElem_toArray, List.getElem_cons_zero, List.getElem_cons_succ, List.setIfInBounds_toArray, List.set_cons_zero, List.set_cons_succ]
            refine wpAnyH_take (i := 6) (v := ?_) rfl (by kernel_rfl) (by kernel_rfl) (by kernel_rfl) (fun _ _ _ h => h) (Or.inl ⟨by rfl, ?_⟩) (by assumption) ?_
            rotate_left
            · (intro w9 hSw; (try dsimp only at hSw); go_simp; try with_reducible rfl)
            try simp only [Act.put, List.getElem_toArray, List.getElem_cons_zero, List.getElem_cons_succ, List.setIfInBounds_toArray, List.set_cons_zero, List.set_cons_succ]
            refine wpAnyH_take (i := 7) (v := ?_) rfl (by kernel_rfl) (by kernel_rfl) (by kernel_rfl) (fun _ _ _ h => h) (Or.inl ⟨by rfl, ?_⟩) (by assumption) ?_
            rotate_left
            · (intro w9 hSw; (try dsimp only at hSw); go_simp; try with_reducible rfl)
            try simp only [Act.put, List.getElem_toArray, List.getElem_cons_zero, List.getElem_cons_succ, List.setIfInBounds_toArray, List.set_cons_zero, List.set_cons_succ]
            refine wpAnyH_take (i := 8) (v := ?_) rfl (by kernel_rfl) (by kernel_rfl) (by kernel_rfl) (fun _ _ _ h => h) (Or.inl ⟨by rfl, ?_⟩) (by assumption) ?_
            rotate_left
            · (intro w9 hSw; (try dsimp only at hSw); go_simp; try with_reducible rfl)
            try simp only [Act.put, List.getElem_toArray, List.getElem_cons_zero, List.getElem_cons_succ, List.setIfInBounds_toArray, List.set_cons_zero, List.set_cons_succ]
            refine wpAnyH_take (i := 9) (v := ?_) rfl (by kernel_rfl) (by kernel_rfl) (by kernel_rfl) (fun _ _ _ h => h) (Or.inl ⟨by rfl, ?_⟩) (by assumption) ?_
            rotate_left
            · (intro w9 hSw; (try dsimp only at hSw); go_simp; try with_reducible rfl)
            try simp only [Act.put, List.getElem_toArray, List.getElem_cons_zero, List.getElem_cons_succ, List.setIfInBounds_toArray, List.set_cons_zero, List.set_cons_succ]
            refine wpAnyH_take (i := 10) (v := ?_) rfl (by kernel_rfl) (by kernel_rfl) (by kernel_rfl) (fun _ _ _ h => h) (Or.inl ⟨by rfl, ?_⟩) (by assumption) ?_
            rotate_left
            · (intro w9 hSw; (try dsimp only at hSw); go_simp; try with_reducible rfl)
            try simp only [Act.put, List.getElem_toArray, List.getElem_cons_zero, List.getElem_cons_succ, List.setIfInBounds_toArray, List.set_cons_zero, List.set_cons_succ]
            refine wpAnyH_take (i := 11) (v := ?_) rfl (by kernel_rfl) (by kernel_rfl) (by kernel_rfl) (fun _ _ _ h => h) (Or.inl ⟨by rfl, ?_⟩) (by assumption) ?_
            rotate_left
            · (intro w9 hSw; (try dsimp only at hSw); go_simp; try with_reducible rfl)
            try simp only [Act.put, List.getElem_toArray, List.getElem_cons_zero, List.getElem_cons_succ, List.setIfInBounds_toArray, List.set_cons_zero, List.set_cons_succ]
            refine wpAnyH_take (i := 12) (v := ?_) rfl (by kernel_rfl) (by kernel_rfl) (by kernel_rfl) (fun _ _ _ h => h) (Or.inl ⟨by rfl, ?_⟩) (by assumption) ?_
            rotate_left
            · (intro w9 hSw; (try dsimp only at hSw); go_simp; try with_reducible rfl)
            try simp only [Act.put, List.getElem_toArray, List.getElem_cons_zero, List.getElem_cons_succ, List.setIfInBounds_toArray, List.set_cons_zero, List.set_cons_succ]
            refine wpAnyH_take (i := 13) (v := ?_) rfl (by kernel_rfl) (by kernel_rfl) (by kernel_rfl) (fun _ _ _ h => h) (Or.inl ⟨by rfl, ?_⟩) (by assumption) ?_
            rotate_left
            · (intro w9 hSw; (try dsimp only at hSw); go_simp; try with_reducible rfl)
            try simp only [Act.put, List.getElem_toArray, List.getElem_cons_zero, List.getElem_cons_succ, List.setIfInBounds_toArray, List.set_cons_zero, List.set_cons_succ]
            refine wpAnyH_take (i := 14) (v := ?_) rfl (by kernel_rfl) (by kernel_rfl) (by kernel_rfl) (fun _ _ _ h => h) (Or.inl ⟨by rfl, ?_⟩) (by assumption) ?_
            rotate_left
            · (intro w9 hSw; (try dsimp only at hSw); go_simp; try with_reducible rfl)
            try simp only [Act.put, List.getElem_toArray, List.getElem_cons_zero, List.getElem_cons_succ, List.setIfInBounds_toArray, List.set_cons_zero, List.set_cons_succ]
            refine wpAnyH_take (i := 15) (v := ?_) rfl (by kernel_rfl) (by kernel_rfl) (by kernel_rfl) (fun _ _ _ h => h) (Or.inl ⟨by rfl, ?_⟩) (by assumption) ?_
            rotate_left
            · (intro w9 hSw; (try dsimp only at hSw); go_simp; try with_reducible rfl)
            try simp only [Act.put, List.getElem_toArray, List.getElem_cons_zero, List.getElem_cons_succ, List.setIfInBounds_toArray, List.set_cons_zero, List.set_cons_succ]
            refine wpAnyH_take (i := 20) (v := ?_) rfl (by kernel_rfl) (by kernel_rfl) (by kernel_rfl) (fun _ _ _ h => h) (Or.inl ⟨by rfl, ?_⟩) (by assumption) ?_
            rotate_left
            · (intro w9 hSw; (try dsimp only at hSw); go_simp; try with_reducible rfl)
            try simp only [Act.put, List.getElem_toArray, List.getElem_cons_zero, List.getElem_cons_succ, List.setIfInBounds_toArray, List.set_cons_zero, List.set_cons_succ]
            refine wpAnyH_take (i := 21) (v := ?_) rfl (by kernel_rfl) (by kernel_rfl) (by kernel_rfl) (fun _ _ _ h => h) (Or.inl ⟨by rfl, ?_⟩) (by assumption) ?_
            rotate_left
            · (intro w9 hSw; (try dsimp only at hSw); go_simp; try with_reducible rfl)
            try simp only [Act.put, List.getElem_toArray, List.getElem_cons_zero, List.getElem_cons_succ, List.setIfInBounds_toArray, List.set_cons_zero, List.set_cons_succ]
            refine wpAnyH_take (i := 22) (v := ?_) rfl (by kernel_rfl) (by kernel_rfl) (by kernel_rfl) (fun _ _ _ h => h) (Or.inl ⟨by rfl, ?_⟩) (by assumption) ?_
            rotate_left
            · (intro w9 hSw; (try dsimp only at hSw); go_simp; try with_reducible rfl)
            try simp only [Act.put, List.getElem_toArray, List.getElem_cons_zero, List.getElem_cons_succ, List.setIfInBounds_toArray, List.set_cons_zero, List.set_cons_succ]
            refine wpAnyH_take (i := 23) (v := ?_) rfl (by kernel_rfl) (by kernel_rfl) (by kernel_rfl) (fun _ _ _ h => h) (Or.inl ⟨by rfl, ?_⟩) (by assumption) ?_
            rotate_left
            · (intro w9 hSw; (try dsimp only at hSw); go_simp; try with_reducible rfl)
            try simp only [Act.put, List.getElem_toArray, List.getElem_cons_zero, List.getElem_cons_succ, List.setIfInBounds_toArray, List.set_cons_zero, List.set_cons_succ]
            refine wpAnyH_take (i := 24) (v := ?_) rfl (by kernel_rfl) (by kernel_rfl) (by kernel_rfl) (fun _ _ _ h => h) (Or.inl ⟨by rfl, ?_⟩) (by assumption) ?_
            rotate_left
            · (intro w9 hSw; (try dsimp only at hSw); go_simp; try with_reducible rfl)
            try simp only [Act.put, List.getElem_toArray, List.getElem_cons_zero, List.getElem_cons_succ, List.setIfInBounds_toArray, List.set_cons_zero, List.set_cons_succ]
            refine wpAnyH_take (i := 25) (v := ?_) rfl (by kernel_rfl) (by kernel_rfl) (by kernel_rfl) (fun _ _ _ h => h) (Or.inl ⟨by rfl, ?_⟩) (by assumption) ?_
            rotate_left
            · (intro w9 hSw; (try dsimp only at hSw); go_simp; try with_reducible rfl)
            try simp only [Act.put, List.getElem_toArray, List.getElem_cons_zero, List.getElem_cons_succ, List.setIfInBounds_toArray, List.set_cons_zero, List.set_cons_succ]
            refine wpAnyH_ready (rs := [16, 19]) (by kernel_rfl) (by simp) ?_
            refine AllReadyH.cons rfl (fun K hK => ?_) (AllReadyH.cons rfl (fun K hK => ?_) AllReadyH.nil)
            · go_simp
              go_at_call 18
              refine (HL.out _ HB0'.out).mono ?_
              rintro e7 w7 ⟨⟨r, rfl, hr⟩, hb7⟩
              have hb7' : Below w6.heap.size w6 w7 := below_keep HB0'.out hb7
              have hr1 := hr.1
              have n5 : ¬ (9223372036854775807 < A.size + 4 + y.s.size + 1 + r.size) := by have := HSS.out; omega
              have n6 : ¬ (9223372036854775807 < A.size + 4 + y.s.size + 1 + r.size + 1) := by have := HSS.out; omega
              have n7 : ¬ (9223372036854775807 < A.size + 4 + y.s.size + 1 + r.size + 1 + M.size) := by have := HSS.out; omega
              have n8 : ¬ (9223372036854775807 < A.size + 4 + y.s.size + 1 + r.size + 1 + M.size + 2) := by have := HSS.out; omega
              go_wp2_with fail
              refine hK.out _ _ ?_ (fun hHeld2 => ?_)
              · exact ⟨(hb7'.cell (p := ⟨w.heap.size, 1, none⟩) hg1).trans q1, (hb7'.cell (p := ⟨b, off + k * 3, none⟩) hg2).trans x0, (hb7'.cell (p := ⟨b, off + k * 3 + 1, none⟩) hg2).trans x1, (hb7'.cell (p := ⟨b, off + k * 3 + 2, none⟩) hg2).trans x2, hb7'⟩
              clear hK K
              try simp only [Act.put, List.getElem_toArray, List.getElem_cons_zero, List.getElem_cons_succ, List.setIfInBounds_toArray, List.set_cons_zero, List.set_cons_succ]
              refine wpAnyH_take (i := 17) (v := ?_) rfl (by kernel_rfl) (by kernel_rfl) (by kernel_rfl) (fun _ _ _ h => h) (Or.inl ⟨by rfl, ?_⟩) (by assumption) ?_
              rotate_left
              · (intro w9 hSw; (try dsimp only at hSw); go_simp; try with_reducible rfl)
              try simp only [Act.put, List.getElem_toArray, List.getElem_cons_zero, List.getElem_cons_succ, List.setIfInBounds_toArray, List.set_cons_zero, List.set_cons_succ]
              refine wpAnyH_take (i := 18) (v := ?_) rfl (by kernel_rfl) (by kernel_rfl) (by kernel_rfl) (fun _ _ _ h => h) (Or.inl ⟨by rfl, ?_⟩) (by assumption) ?_
              rotate_left
              · (intro w9 hSw; (try dsimp only at hSw); go_simp; try with_reducible rfl)
              try simp only [Act.put, List.getElem_toArray, List.getElem_cons_zero, List.getElem_cons_succ, List.setIfInBounds_toArray, List.set_cons_zero, List.set_cons_succ]
              refine wpAnyH_ready (rs := [19]) (by kernel_rfl) (by simp) ?_
              refine AllReadyH.cons rfl (fun K hK => ?_) AllReadyH.nil
              go_simp
              refine hK.out _ _ ?_ (fun hHeld3 => ?_)
              · exact ⟨cell_keep_alloc hHeld2.1 _, cell_keep_alloc hHeld2.2.1 _, cell_keep_alloc hHeld2.2.2.1 _, cell_keep_alloc hHeld2.2.2.2.1 _, below_alloc hHeld2.2.2.2.2 _⟩
              clear hK K
              try simp only [Act.put, List.getElem_toArray, List.getElem_cons_zero, List.getElem_cons_succ, List.setIfInBounds_toArray, List.set_cons_zero, List.set_cons_succ]
              refine wpAnyH_strong (S' := fun w' => (w'.cell? ⟨w.heap.size, 1, none⟩ = some (.slice (some ⟨b, off, none⟩) p.rs.length cr) ∧ w'.cell? ⟨b, off + k * 3, none⟩ = some (.string y.s) ∧ w'.cell? ⟨b, off + k * 3 + 1, none⟩ = some (.slice ats y.ts.length cts) ∧ w'.cell? ⟨b, off + k * 3 + 2, none⟩ = some (.int .i64 (m : Int)) ∧ Below w6.heap.size w6 w') ∧ w'.cell? ⟨w7.heap.size, m, none⟩ = some (.string M)) (fun _ h => h.1) _ _ _ _ ?_
              have hS4 := And.intro hHeld3 ((cell_of_row (w7.alloc (Obj.cells #[Value.string ⟨#[]⟩, .string ⟨#[32, 105, 110, 112, 117, 116]⟩, .string ⟨#[32, 111, 117, 116, 112, 117, 116]⟩, .string ⟨#[32, 105, 110, 108, 105, 110, 101]⟩] 9)) w7.heap.size m _ _ _ (heap_alloc_new w7 _)).trans HRO.out)
              refine wpAnyH_take (i := 26) (v := ?_) rfl (by kernel_rfl) (by kernel_rfl) (by kernel_rfl) (fun _ _ _ h => h) (Or.inl ⟨by rfl, ?_⟩) (by assumption) ?_
              rotate_left
              · (intro w9 hSw; (try dsimp only at hSw); go_simp; try with_reducible rfl)
              try simp only [Act.put, List.getElem_toArray, List.getElem_cons_zero, List.getElem_cons_succ, List.setIfInBounds_toArray, List.set_cons_zero, List.set_cons_succ]
              refine wpAnyH_take (i := 27) (v := ?_) rfl (by kernel_rfl) (by kernel_rfl) (by kernel_rfl) (fun _ _ _ h => h) (Or.inl ⟨by rfl, ?_⟩) (by assumption) ?_
              rotate_left
              · (intro w9 hSw; (try dsimp only at hSw); go_simp; try with_reducible rfl)
              try simp only [Act.put, List.getElem_toArray, List.getElem_cons_zero, List.getElem_cons_succ, List.setIfInBounds_toArray, List.set_cons_zero, List.set_cons_succ]
              refine wpAnyH_take (i := 28) (v := ?_) rfl (by kernel_rfl) (by kernel_rfl) (by kernel_rfl) (fun _ _ _ h => h) (Or.inl ⟨by rfl, ?_⟩) (by assumption) ?_
              rotate_left
              · (intro w9 hSw; (try dsimp only at hSw); go_simp; try with_reducible rfl)
              try simp only [Act.put, List.getElem_toArray, List.getElem_cons_zero, List.getElem_cons_succ, List.setIfInBounds_toArray, List.set_cons_zero, List.set_cons_succ]
              refine wpAnyH_take (i := 29) (v := ?_) rfl (by kernel_rfl) (by kernel_rfl) (by kernel_rfl) (fun _ _ _ h => h) (Or.inl ⟨by rfl, ?_⟩) (by assumption) ?_
              rotate_left
              · (intro w9 hSw; (try dsimp only at hSw); go_simp; try with_reducible rfl)
              try simp only [Act.put, List.getElem_toArray, List.getElem_cons_zero, List.getElem_cons_succ, List.setIfInBounds_toArray, List.set_cons_zero, List.set_cons_succ]
              refine wpAnyH_take (i := 30) (v := ?_) rfl (by kernel_rfl) (by kernel_rfl) (by kernel_rfl) (fun _ _ _ h => h) (Or.inl ⟨by rfl, ?_⟩) (by assumption) ?_
              rotate_left
              · (intro w9 hSw; (try dsimp only at hSw); go_simp; try with_reducible rfl)
              try simp only [Act.put, List.getElem_toArray, List.getElem_cons_zero, List.getElem_cons_succ, List.setIfInBounds_toArray, List.set_cons_zero, List.set_cons_succ]
              refine wpAnyH_done (by kernel_rfl) ?_ _
              have HN := Lib.hid (show PT2 p W0 (.string (A ++ ⟨#[114, 101, 108, 32]⟩ ++ y.s ++ ⟨#[40]⟩ ++ r ++ ⟨#[41]⟩ ++ M ++ ⟨#[46, 10]⟩)) (.int .i64 ((k : Int) + 1)) (w7.alloc (Obj.cells #[Value.string ⟨#[]⟩, .string ⟨#[32, 105, 110, 112, 117, 116]⟩, .string ⟨#[32, 111, 117, 116, 112, 117, 116]⟩, .string ⟨#[32, 105, 110, 108, 105, 110, 101]⟩] 9)) from ⟨k + 1, _, by go_num, rfl, by omega, HSI.out r hr, (fun j h hj => by
                by_cases hjk : j < k
                · exact HGD.out j h hjk
                · obtain rfl : j = k := by omega
                  rw [HY.out]; exact HMO.out), below_step HB.out (below_alloc hb7' _)⟩)
              clear hr hr1 HL HSI hHeld hHeld2 hHeld3 hS4
              go_wp2
              go_roundw
              case rel => exact HN.out
              case measure => simp [intOf]; omega
            · go_simp
              refine hK.out _ _ ?_ (fun hHeld2 => ?_)
              · exact ⟨cell_keep_alloc hHeld.1 _, cell_keep_alloc hHeld.2.1 _, cell_keep_alloc hHeld.2.2.1 _, cell_keep_alloc hHeld.2.2.2.1 _, below_alloc hHeld.2.2.2.2 _⟩
              clear hK K
              try simp only [Act.put, List.getElem_toArray, List.getElem_cons_zero, List.getElem_cons_succ, List.setIfInBounds_toArray, List.set_cons_zero, List.set_cons_succ]
              refine wpAnyH_strong (S' := fun w' => (w'.cell? ⟨w.heap.size, 1, none⟩ = some (.slice (some ⟨b, off, none⟩) p.rs.length cr) ∧ w'.cell? ⟨b, off + k * 3, none⟩ = some (.string y.s) ∧ w'.cell? ⟨b, off + k * 3 + 1, none⟩ = some (.slice ats y.ts.length cts) ∧ w'.cell? ⟨b, off + k * 3 + 2, none⟩ = some (.int .i64 (m : Int)) ∧ Below w6.heap.size w6 w') ∧ w'.cell? ⟨w6.heap.size, m, none⟩ = some (.string M)) (fun _ h => h.1) _ _ _ _ ?_
              have hS3 := And.intro hHeld2 ((cell_of_row (w6.drew.alloc (Obj.cells #[Value.string ⟨#[]⟩, .string ⟨#[32, 105, 110, 112, 117, 116]⟩, .string ⟨#[32, 111, 117, 116, 112, 117, 116]⟩, .string ⟨#[32, 105, 110, 108, 105, 110, 101]⟩] 9)) w6.heap.size m _ _ _ (heap_alloc_new w6.drew _)).trans HRO.out)
              refine wpAnyH_take (i := 26) (v := ?_) rfl (by kernel_rfl) (by kernel_rfl) (by kernel_rfl) (fun _ _ _ h => h) (Or.inl ⟨by rfl, ?_⟩) (by assumption) ?_
              rotate_left
              · (intro w9 hSw; (try dsimp only at hSw); go_simp; try with_reducible rfl)
              try simp only [Act.put, List.getElem_toArray, List.getElem_cons_zero, List.getElem_cons_succ, List.setIfInBounds_toArray, List.set_cons_zero, List.set_cons_succ]
              refine wpAnyH_take (i := 27) (v := ?_) rfl (by kernel_rfl) (by kernel_rfl) (by kernel_rfl) (fun _ _ _ h => h) (Or.inl ⟨by rfl, ?_⟩) (by assumption) ?_
              rotate_left
              · (intro w9 hSw; (try dsimp only at hSw); go_simp; try with_reducible rfl)
              try simp only [Act.put, List.getElem_toArray, List.getElem_cons_zero, List.getElem_cons_succ, List.setIfInBounds_toArray, List.set_cons_zero, List.set_cons_succ]
              refine wpAnyH_ready (rs := [16]) (by kernel_rfl) (by simp) ?_
              refine AllReadyH.cons rfl (fun K hK => ?_) AllReadyH.nil
              go_simp
              go_at_call 18
              refine (HL.out _ (below_alloc HB0'.out _)).mono ?_
              rintro e7 w7 ⟨⟨r, rfl, hr⟩, hb7⟩
              have hb7' : Below w6.heap.size w6 w7 := below_keep (below_alloc HB0'.out (Obj.cells #[Value.string ⟨#[]⟩, .string ⟨#[32, 105, 110, 112, 117, 116]⟩, .string ⟨#[32, 111, 117, 116, 112, 117, 116]⟩, .string ⟨#[32, 105, 110, 108, 105, 110, 101]⟩] 9)) hb7
              have hr1 := hr.1
              have n5 : ¬ (9223372036854775807 < A.size + 4 + y.s.size + 1 + r.size) := by have := HSS.out; omega
              have n6 : ¬ (9223372036854775807 < A.size + 4 + y.s.size + 1 + r.size + 1) := by have := HSS.out; omega
              have n7 : ¬ (9223372036854775807 < A.size + 4 + y.s.size + 1 + r.size + 1 + M.size) := by have := HSS.out; omega
              have n8 : ¬ (9223372036854775807 < A.size + 4 + y.s.size + 1 + r.size + 1 + M.size + 2) := by have := HSS.out; omega
              go_wp2_with fail
              refine hK.out _ _ ?_ (fun hHeld3 => ?_)
              · exact ⟨⟨(hb7'.cell (p := ⟨w.heap.size, 1, none⟩) hg1).trans q1, (hb7'.cell (p := ⟨b, off + k * 3, none⟩) hg2).trans x0, (hb7'.cell (p := ⟨b, off + k * 3 + 1, none⟩) hg2).trans x1, (hb7'.cell (p := ⟨b, off + k * 3 + 2, none⟩) hg2).trans x2, hb7'⟩, cell_new_kept (w := w6.drew) hb7 m _ HRO.out⟩
              clear hK K
              try simp only [Act.put, List.getElem_toArray, List.getElem_cons_zero, List.getElem_cons_succ, List.setIfInBounds_toArray, List.set_cons_zero, List.set_cons_succ]
              have hS4 := hHeld3
              refine wpAnyH_take (i := 17) (v := ?_) rfl (by kernel_rfl) (by kernel_rfl) (by kernel_rfl) (fun _ _ _ h => h) (Or.inl ⟨by rfl, ?_⟩) (by assumption) ?_
              rotate_left
              · (intro w9 hSw; (try dsimp only at hSw); go_simp; try with_reducible rfl)
              try simp only [Act.put, List.getElem_toArray, List.getElem_cons_zero, List.getElem_cons_succ, List.setIfInBounds_toArray, List.set_cons_zero, List.set_cons_succ]
              refine wpAnyH_take (i := 18) (v := ?_) rfl (by kernel_rfl) (by kernel_rfl) (by kernel_rfl) (fun _ _ _ h => h) (Or.inl ⟨by rfl, ?_⟩) (by assumption) ?_
              rotate_left
              · (intro w9 hSw; (try dsimp only at hSw); go_simp; try with_reducible rfl)
              try simp only [Act.put, List.getElem_toArray, List.getElem_cons_zero, List.getElem_cons_succ, List.setIfInBounds_toArray, List.set_cons_zero, List.set_cons_succ]
              refine wpAnyH_take (i := 28) (v := ?_) rfl (by kernel_rfl) (by kernel_rfl) (by kernel_rfl) (fun _ _ _ h => h) (Or.inl ⟨by rfl, ?_⟩) (by assumption) ?_
              rotate_left
              · (intro w9 hSw; (try dsimp only at hSw); go_simp; try with_reducible rfl)
              try simp only [Act.put, List.getElem_toArray, List.getElem_cons_zero, List.getElem_cons_succ, List.setIfInBounds_toArray, List.set_cons_zero, List.set_cons_succ]
              refine wpAnyH_take (i := 29) (v := ?_) rfl (by kernel_rfl) (by kernel_rfl) (by kernel_rfl) (fun _ _ _ h => h) (Or.inl ⟨by rfl, ?_⟩) (by assumption) ?_
              rotate_left
              · (intro w9 hSw; (try dsimp only at hSw); go_simp; try with_reducible rfl)
              try simp only [Act.put, List.getElem_toArray, List.getElem_cons_zero, List.getElem_cons_succ, List.setIfInBounds_toArray, List.set_cons_zero, List.set_cons_succ]
              refine wpAnyH_take (i := 30) (v := ?_) rfl (by kernel_rfl) (by kernel_rfl) (by kernel_rfl) (fun _ _ _ h => h) (Or.inl ⟨by rfl, ?_⟩) (by assumption) ?_
              rotate_left
              · (intro w9 hSw; (try dsimp only at hSw); go_simp; try with_reducible rfl)
              try simp only [Act.put, List.getElem_toArray, List.getElem_cons_zero, List.getElem_cons_succ, List.setIfInBounds_toArray, List.set_cons_zero, List.set_cons_succ]
              refine wpAnyH_done (by kernel_rfl) ?_ _
              have HN := Lib.hid (show PT2 p W0 (.string (A ++ ⟨#[114, 101, 108, 32]⟩ ++ y.s ++ ⟨#[40]⟩ ++ r ++ ⟨#[41]⟩ ++ M ++ ⟨#[46, 10]⟩)) (.int .i64 ((k : Int) + 1)) w7 from ⟨k + 1, _, by go_num, rfl, by omega, HSI.out r hr, (fun j h hj => by
                by_cases hjk : j < k
                · exact HGD.out j h hjk
                · obtain rfl : j = k := by omega
                  rw [HY.out]; exact HMO.out), below_step HB.out hb7'⟩)
              clear hr hr1 HL HSI hHeld hHeld2 hHeld3 hS4
              go_wp2
              go_roundw
              case rel => exact HN.out
              case measure => simp [intOf]; omega
          · have h1 : decide ((A.size : Int) ≤ 3000) = false := decide_eq_false (by omega)
            have h2 : decide (A.size ≤ 3000) = false := decide_eq_false hs
            have HE := Lib.hid (show PC1 p W0 (linesTxt (p.ts.map typeNd ++ p.rs.map relNd)) (.string A) wr ∧ ∀ x ∈ p.rs, modeOk x.m = true ∨ 3000 < (progTxt p).size from ⟨⟨A, rfl, hA.long (rels_part p k) hs _, hb⟩, fun x _ => .inr (by
              rcases hA.2 with e | e
              · have := rels_part p k; rw [← e] at this; omega
              · exact e.2)⟩)
            have HSS := Lib.hid hs
            clear hA hb hgd K1 hs
            go_wp2
            go_meet
            exact HE.out
        · obtain rfl : k = p.rs.length := by omega
          rw [List.take_length] at hA
          have hd : decide ((p.rs.length : Int) < (p.rs.length : Int)) = false := decide_eq_false (by omega)
          have HE := Lib.hid (show PC1 p W0 (linesTxt (p.ts.map typeNd ++ p.rs.map relNd)) (.string A) wr ∧ ∀ x ∈ p.rs, modeOk x.m = true ∨ 3000 < (progTxt p).size from ⟨⟨A, rfl, hA, hb⟩, fun x hx => by
            obtain ⟨j, hj, rfl⟩ := List.getElem_of_mem hx
            exact .inl (hgd j hj hj)⟩)
          clear hA hb hgd K1
          go_wp2
          go_meet
          exact HE.out
    case rest =>
      obtain ⟨⟨A, rfl, hA, hb⟩, hmo⟩ := hcut
      go_upto_block 6 with fail
      go_cut [3] from 4 to 151 (fun v3 wr => PC1 p W0 (progTxt p) v3 wr ∧ ∀ u ∈ p.us, RuleOk u ∨ 3000 < (progTxt p).size)
      case first =>
        have HST := Lib.hid (show PT3 p W0 (.string A) (.int .i64 0) _ from ⟨0, A, rfl, rfl, Nat.zero_le _, by simpa using hA, fun j h hj => by omega, hb⟩)
        clear hA hb hmo
        go_wp2
        go_loopw [3, 8] (fun v3 v8 wr => PT3 p W0 v3 v8 wr) (fun _ v8 _ => (p.us.length - (intOf v8).toNat))
        case atStart => exact HST.out
        case round =>
          obtain ⟨k, A, rfl, rfl, hk, hA, hgd, hb⟩ := hrel
          clear HST
          have K1 := (hb.block _ (lt_of_block HK.out)).trans HK.out
          have q2 := cell_of_row _ w.heap.size 2 _ _ _ K1
          simp only [List.getElem?_toArray, List.getElem?_cons_zero, List.getElem?_cons_succ] at q2
          by_cases hlt : k < p.us.length
          · have hd : decide ((k : Int) < (p.us.length : Int)) = true := decide_eq_true (by omega)
            have hd0 : decide (k < p.us.length) = true := decide_eq_true hlt
            by_cases hs : A.size ≤ 3000
            · have h1 : decide ((A.size : Int) ≤ 3000) = true := decide_eq_true (by omega)
              have h2 : decide (A.size ≤ 3000) = true := decide_eq_true hs
              obtain ⟨b, off, vs, rfl, hSb, hvl, hcc, hFu⟩ := RowIn.kept FRu_keeps HR2.out (Same.below HS.out hb) k hlt
              have hFu0 := hFu
              obtain ⟨aes, ces, ahd, chd, abd, cbd, rfl, _, _, _⟩ := hFu
              have hyw := HUL.out _ (List.getElem_mem hlt)
              have hnone := rule_none p k hlt
              have hline := rule_line p k hlt
              obtain ⟨y, hy⟩ : ∃ y, p.us[k] = y := ⟨_, rfl⟩
              rw [hy] at hcc hyw hFu0 hnone hline
              have x0 : wr.cell? ⟨b, off + k * 5, none⟩ = some (.slice aes y.es.length ces) := hcc 0 (by simp)
              have x1 : wr.cell? ⟨b, off + k * 5 + 1, none⟩ = some (.int .i64 y.hd.k) := hcc 1 (by simp)
              have x2 : wr.cell? ⟨b, off + k * 5 + 2, none⟩ = some (.string y.hd.s) := hcc 2 (by simp)
              have x3 : wr.cell? ⟨b, off + k * 5 + 3, none⟩ = some (.slice ahd y.hd.xs.length chd) := hcc 3 (by simp)
              have x4 : wr.cell? ⟨b, off + k * 5 + 4, none⟩ = some (.slice abd y.bd.length cbd) := hcc 4 (by simp)
              have HT := Lib.hid (specRule_any y _ S wr hFu0 (fun b h' => Nat.lt_of_lt_of_le (HS.out b h') hb.size) hyw)
              have HA := Lib.hid hA
              have HB := Lib.hid hb
              have HGU := Lib.hid hgd
              have HY := Lib.hid hy
              have HNO := Lib.hid hnone
              have HLI := Lib.hid hline
              clear hA hb hgd hy hnone hline hSb hvl hcc hFu0 hyw K1
              go_wp2_with fail
              refine HT.out.mono ?_
              rintro e w7 ⟨rfl, hb7⟩
              by_cases hro : RuleOk y
              · rw [ruleAns_ok hro]
                have hrs := hro.short
                have hne0 : (ruleTxt y).size ≠ 0 := by unfold ruleTxt; rw [ByteArray.size_append]; show _ + 1 ≠ 0; omega
                have hform := ((ruleOk_iff y).1 hro).1
                have hln := HLI.out hform
                rw [← HA.out.is hs] at hln
                obtain ⟨R, hR⟩ : ∃ R, R = ruleTxt y := ⟨_, rfl⟩
                rw [← hR] at hrs hne0 hln ⊢
                have hnl : (R.toList == []) = false := by
                  rw [beq_eq_false_iff_ne]
                  intro h
                  have h2 := congrArg List.length h
                  rw [ByteArray.toList_eq, Array.length_toList] at h2
                  exact hne0 h2
                have HN := Lib.hid (show PT3 p W0 (.string (A ++ R ++ ⟨#[10]⟩)) (.int .i64 ((k : Int) + 1)) w7 from ⟨k + 1, _, by go_num, rfl, by omega, ⟨by rw [ByteArray.size_append, ByteArray.size_append]; show _ + 1 ≤ _; omega, .inl hln.symm⟩, (fun j h hj => by
                  by_cases hjk : j < k
                  · exact HGU.out j h hjk
                  · obtain rfl : j = k := by omega
                    rw [HY.out]; exact hro), below_step HB.out hb7⟩)
                have n1 : ¬ (9223372036854775807 < A.size + R.size) := by omega
                have n2 : ¬ (9223372036854775807 < A.size + R.size + 1) := by omega
                have HS1 := Lib.hid hs
                clear hb7 HT hro hrs hne0 hform hln hR HLI HNO hs x0 x1 x2 x3 x4
                go_wp2
                go_roundw
                case rel => exact HN.out
                case measure => simp [intOf]; omega
              · rw [ruleAns_no hro]
                have HP := Lib.hid (show ProgPost p w (.returned (.string ⟨#[]⟩)) w7 from ⟨by rw [HNO.out hro], below_step HB0.out (below_step HB.out hb7)⟩)
                clear hb7 HT hro HLI HNO hs x0 x1 x2 x3 x4
                go_wp2
                go_ret
                exact HP.out
            · have h1 : decide ((A.size : Int) ≤ 3000) = false := decide_eq_false (by omega)
              have h2 : decide (A.size ≤ 3000) = false := decide_eq_false hs
              have HE := Lib.hid (show PC1 p W0 (progTxt p) (.string A) wr ∧ ∀ u ∈ p.us, RuleOk u ∨ 3000 < (progTxt p).size from ⟨⟨A, rfl, hA.long (rules_part p k) hs _, hb⟩, fun u _ => .inr (by
                rcases hA.2 with e | e
                · have := rules_part p k; rw [← e] at this; omega
                · exact e.2)⟩)
              clear hA hb hgd K1 hs
              go_wp2
              go_meet
              exact HE.out
          · obtain rfl : k = p.us.length := by omega
            rw [List.take_length] at hA
            have hd : decide ((p.us.length : Int) < (p.us.length : Int)) = false := decide_eq_false (by omega)
            have HE := Lib.hid (show PC1 p W0 (progTxt p) (.string A) wr ∧ ∀ u ∈ p.us, RuleOk u ∨ 3000 < (progTxt p).size from ⟨⟨A, rfl, hA, hb⟩, fun u hu => by
              obtain ⟨j, hj, rfl⟩ := List.getElem_of_mem hu
              exact .inl (hgd j hj hj)⟩)
            clear hA hb hgd K1
            go_wp2
            go_meet
            exact HE.out
      case rest =>
        obtain ⟨⟨A, rfl, hA, hb⟩, hru⟩ := hcut
        by_cases hs : A.size ≤ 3000
        · have e := hA.is hs
          have HP := Lib.hid (show progAns p = A by
            rw [e]
            rw [e] at hs
            refine progAns_ok p (fun x hx => ?_) (fun u hu => ?_) hs
            · rcases hmo x hx with h | h
              · exact h
              · omega
            · rcases hru u hu with h | h
              · exact h
              · omega)
          have h1 : decide ((3000 : Int) < (A.size : Int)) = false := decide_eq_false (by omega)
          have h2 : decide (3000 < A.size) = false := decide_eq_false (by omega)
          have HB := Lib.hid (below_step HB0.out hb)
          clear hA hb hmo hru e hs
          go_wp2
          go_ret
          exact ⟨by rw [HP.out]; rfl, HB.out⟩
        · have HP := Lib.hid (show progAns p = ⟨#[]⟩ from progAns_long p (by
            rcases hA.2 with e | e
            · rw [← e]; omega
            · exact e.2))
          have h1 : decide ((3000 : Int) < (A.size : Int)) = true := decide_eq_true (by omega)
          have h2 : decide (3000 < A.size) = true := decide_eq_true (by omega)
          have HB := Lib.hid (below_step HB0.out hb)
          clear hA hb hmo hru hs
          go_wp2
          go_ret
          exact ⟨by rw [HP.out]; rfl, HB.out⟩

end Go.Proofs.Ytdcfhmbnbfmnbaa.Pr
