/-
  THE WALK over spec.RuleText.
-/
import Derived.Test.YtilijbpbnlnhlaaGreatPM2
namespace Go.Proofs.YtilijbpbnlnhlaaGreat.Pr
open Go Go.RowKit Go.Maps Go.WideMaps

def SRulePost (u : Ru) (w : World) (e : Ending) (w' : World) : Prop := e = .returned (.string (ruleAns u)) ∧ Below w.heap.size w w'

def SBodyRel (u : Ru) (w2 : World) (v5 v6 : Value) (wr : World) : Prop :=
  ∃ k : Nat, Below w2.heap.size w2 wr ∧ v6 = .int .i64 (k : Int) ∧ k ≤ u.bd.length ∧ v5 = .string (bodyTxt (txts u.es u.es.length) (litTxt (txts u.es u.es.length) u.hd) (u.bd.take k)).1 ∧ (∀ l ∈ u.bd.take k, litOk l = true) ∧ (bodyTxt (txts u.es u.es.length) (litTxt (txts u.es u.es.length) u.hd) (u.bd.take k)).1.size ≤ 4000004000

theorem bodyTxt_part (u : Ru) (k : Nat) : (bodyTxt (txts u.es u.es.length) (litTxt (txts u.es u.es.length) u.hd) (u.bd.take k)).1.size < (ruleTxt u).size := by
  have h := bodyTxt_grows (txts u.es u.es.length) (u.bd.drop k) (bodyTxt (txts u.es u.es.length) (litTxt (txts u.es u.es.length) u.hd) (u.bd.take k)).1 (bodyTxt (txts u.es u.es.length) (litTxt (txts u.es u.es.length) u.hd) (u.bd.take k)).2
  have e : bodyTxt (txts u.es u.es.length) (litTxt (txts u.es u.es.length) u.hd) u.bd = (u.bd.drop k).foldl (fun (a : BA × Bool) l => (a.1 ++ (if a.2 then ⟨#[44, 32]⟩ else ⟨#[32, 58, 45, 32]⟩) ++ litTxt (txts u.es u.es.length) l, true)) (bodyTxt (txts u.es u.es.length) (litTxt (txts u.es u.es.length) u.hd) (u.bd.take k)) := by
    conv => lhs; rw [← List.take_append_drop k u.bd]
    unfold bodyTxt
    rw [List.foldl_append]
  unfold ruleTxt
  rw [ByteArray.size_append, e, size1]
  exact Nat.lt_succ_of_le (Nat.le_trans (Nat.le_add_right _ _) h)

set_option maxRecDepth 1000000 in
set_option maxHeartbeats 4000000 in
theorem specRule_any (u : Ru) (vs : List Value) (S : Nat → Prop) (w : World) (hF : FRu S w vs u) (hS : ∀ b, S b → b < w.heap.size) (hw : u.wt ≤ 1048576) : Calls Tryz.prog 22 #[.agg vs.toArray] w (SRulePost u w) := by
  obtain ⟨aes, ces, ahd, chd, abd, cbd, rfl, r0, r1, r2⟩ := hF
  have hbl : u.bd.length ≤ 1048576 := by have := hw; unfold Ru.wt wtLitS at this; omega
  have hhw : u.hd.wt ≤ 1048576 := by have := hw; unfold Ru.wt at this; omega
  have hbw : ∀ l ∈ u.bd, l.wt ≤ 1048576 := fun l hl => by
    have h1 := wsum_mem It.wt hl
    have := hw
    unfold Ru.wt wtLitS at this
    omega
  have hb0 : Below w.heap.size w (w.alloc (.cells #[.slice aes u.es.length ces, .int .i64 u.hd.k, .string u.hd.s, .slice ahd u.hd.xs.length chd, .slice abd u.bd.length cbd] 36)) := (Below.refl _ _).alloc (Nat.le_refl _) _
  have k0 := heap_alloc_new w (.cells #[.slice aes u.es.length ces, .int .i64 u.hd.k, .string u.hd.s, .slice ahd u.hd.xs.length chd, .slice abd u.bd.length cbd] 36)
  obtain ⟨W0, hW0⟩ : ∃ W0, w.alloc (.cells #[.slice aes u.es.length ces, .int .i64 u.hd.k, .string u.hd.s, .slice ahd u.hd.xs.length chd, .slice abd u.bd.length cbd] 36) = W0 := ⟨_, rfl⟩
  rw [hW0] at hb0 k0
  have q0 := cell_of_row _ w.heap.size 0 _ _ _ k0
  have q1 := cell_of_row _ w.heap.size 1 _ _ _ k0
  have q2 := cell_of_row _ w.heap.size 2 _ _ _ k0
  have q3 := cell_of_row _ w.heap.size 3 _ _ _ k0
  have q4 := cell_of_row _ w.heap.size 4 _ _ _ k0
  simp only [List.getElem?_toArray, List.getElem?_cons_zero, List.getElem?_cons_succ] at q0 q1 q2 q3 q4
  by_cases hbig : 3000 < u.bd.length
  · have hd : decide ((3000 : Int) < (u.bd.length : Int)) = true := decide_eq_true (by omega)
    have hd2 : decide (3000 < u.bd.length) = true := decide_eq_true hbig
    have HA := Lib.hid (ruleAns_no (u := u) (fun h => by have := h.bodyLen; omega))
    clear r0 r1 r2 k0
    go_enter Tryz.func22, Tryz.ntmps22
    go_wp2
    go_ret
    exact ⟨by rw [HA.out]; rfl, hb0⟩
  · have hd : decide ((3000 : Int) < (u.bd.length : Int)) = false := decide_eq_false (by omega)
    have hd2 : decide (3000 < u.bd.length) = false := decide_eq_false hbig
    have hsm : Same S w W0 := Same.below hS hb0
    have hS0 : ∀ b, S b → b < W0.heap.size := fun b h => Nat.lt_of_lt_of_le (hS b h) hb0.size
    have HX := Lib.hid (exps_whole u [.slice aes u.es.length ces, .int .i64 u.hd.k, .string u.hd.s, .slice ahd u.hd.xs.length chd, .slice abd u.bd.length cbd] S W0 ⟨aes, ces, ahd, chd, abd, cbd, rfl, RowIn.kept FIt_keeps r0 hsm, r1.kept hsm, RowIn.kept FIt_keeps r2 hsm⟩ hS0 hw)
    have HR1 := Lib.hid (r1.kept hsm)
    have HR2 := Lib.hid (RowIn.kept FIt_keeps r2 hsm)
    have HK0 := Lib.hid k0
    have HB0 := Lib.hid hb0
    have HS0 := Lib.hid hS0
    have HBW := Lib.hid hbw
    clear r0 r1 r2 k0 hsm hS0 hb0 hbw
    go_enter Tryz.func22, Tryz.ntmps22
    go_wp2_with fail
    refine HX.out.mono ?_
    rintro e w1 ⟨v, ok, rfl, hb1, hno, hyes⟩
    have HB1 := Lib.hid (below_step HB0.out hb1)
    cases ok with
    | false =>
      have HA := Lib.hid (ruleAns_no (u := u) (fun h => hno rfl h.goodS))
      clear hb1 hno hyes HX q0 q1 q2 q3 q4
      go_wp2
      go_ret
      exact ⟨by rw [HA.out]; rfl, HB1.out⟩
    | true =>
      obtain ⟨⟨hg, hsh⟩, g, rfl, hT⟩ := hyes rfl
      have K1 := (hb1.block _ (lt_of_block HK0.out)).trans HK0.out
      have p0 := cell_of_row _ w.heap.size 0 _ _ _ K1
      have p1 := cell_of_row _ w.heap.size 1 _ _ _ K1
      have p2 := cell_of_row _ w.heap.size 2 _ _ _ K1
      have p3 := cell_of_row _ w.heap.size 3 _ _ _ K1
      have p4 := cell_of_row _ w.heap.size 4 _ _ _ K1
      simp only [List.getElem?_toArray, List.getElem?_cons_zero, List.getElem?_cons_succ] at p0 p1 p2 p3 p4
      have hsm1 : Same S W0 w1 := Same.below HS0.out hb1
      have hol : (txts u.es u.es.length).length = u.es.length := txts_length _ _
      have hfew := hg.few
      have HL := Lib.hid (fun (l : It) (vs : List Value) (W : World) (hW : Below w1.heap.size w1 W) (hF : FIt S W vs l) (hx : ∀ x ∈ l.xs, 0 ≤ x ∧ x < (u.es.length : Int)) (hlw : l.wt ≤ 1048576) => by
        have := lit_any l vs S (Seg W0.heap.size w1.heap.size) (some ⟨g, 0, none⟩) u.es.length (txts u.es u.es.length) W hF (fun b h => Nat.lt_of_lt_of_le (Nat.lt_of_lt_of_le (HS0.out b h) hb1.size) hW.size) (hT.kept (Same.below (fun b h => h.2) hW)) (fun b h => Nat.lt_of_lt_of_le h.2 hW.size) (by rw [hol]; exact hx) hsh (by rw [hol]; exact hfew) hlw
        rw [hol] at this
        exact this)
      have HHD := Lib.hid (HL.out u.hd [.int .i64 u.hd.k, .string u.hd.s, .slice ahd u.hd.xs.length chd] w1 (Below.refl _ _) ⟨ahd, chd, rfl, HR1.out.kept hsm1⟩ (hg.arg u.hd (by simp)) hhw)
      have HG := Lib.hid hg
      have HK1 := Lib.hid K1
      have HR21 := Lib.hid (RowIn.kept FIt_keeps HR2.out hsm1)
      have HSW1 := Lib.hid (fun b (h : S b) => Nat.lt_of_lt_of_le (HS0.out b h) hb1.size)
      clear hb1 hno hyes hT hsh hg K1 hsm1 HX q0 q1 q2 q3 q4 HR1 HR2 hol
      go_wp2_with fail
      refine HHD.out.mono ?_
      rintro e w2 ⟨⟨s, rfl, hs, hsz⟩, hb2⟩
      have HB2 := Lib.hid (below_step HB1.out hb2)
      have K2 := (hb2.block _ (lt_of_block HK1.out)).trans HK1.out
      have t0 := cell_of_row _ w.heap.size 0 _ _ _ K2
      have t1 := cell_of_row _ w.heap.size 1 _ _ _ K2
      have t2 := cell_of_row _ w.heap.size 2 _ _ _ K2
      have t3 := cell_of_row _ w.heap.size 3 _ _ _ K2
      have t4 := cell_of_row _ w.heap.size 4 _ _ _ K2
      simp only [List.getElem?_toArray, List.getElem?_cons_zero, List.getElem?_cons_succ] at t0 t1 t2 t3 t4
      by_cases hh : u.hd.k = 1
      · have hlo : litOk u.hd = true := by simp [litOk, hh]
        have hse := hs hlo
        subst hse
        rw [hlo]
        have hne : (u.hd.k != 1) = false := by simp [hh]
        have HHH := Lib.hid hh
        have HK2 := Lib.hid K2
        have HB21 := Lib.hid hb2
        have hst : SBodyRel u w2 (.string (litTxt (txts u.es u.es.length) u.hd)) (.int .i64 0) w2 := ⟨0, Below.refl _ _, rfl, Nat.zero_le _, rfl, by simp, by show (litTxt (txts u.es u.es.length) u.hd).size ≤ _; omega⟩
        have HSTT := Lib.hid hst
        clear hs hlo hh K2 hb2 HHD p0 p1 p2 p3 p4 hst
        go_wp2
        go_loopw [5, 6] (fun v5 v6 wr => SBodyRel u w2 v5 v6 wr) (fun _ v6 _ => (u.bd.length - (intOf v6).toNat))
        case atStart => exact HSTT.out
        case round =>
          clear t0 t1 t2 t3 t4
          obtain ⟨k, hb, rfl, hk, rfl, hall, hszk⟩ := hrel
          have K3 := (hb.block _ (lt_of_block HK2.out)).trans HK2.out
          have s0 := cell_of_row _ w.heap.size 0 _ _ _ K3
          have s1 := cell_of_row _ w.heap.size 1 _ _ _ K3
          have s2 := cell_of_row _ w.heap.size 2 _ _ _ K3
          have s3 := cell_of_row _ w.heap.size 3 _ _ _ K3
          have s4 := cell_of_row _ w.heap.size 4 _ _ _ K3
          simp only [List.getElem?_toArray, List.getElem?_cons_zero, List.getElem?_cons_succ] at s0 s1 s2 s3 s4
          have HB3 := Lib.hid (below_step HB2.out hb)
          have HALL := Lib.hid hall
          have HB := Lib.hid hb
          have hpart := bodyTxt_part u k
          clear K3 hall
          by_cases hlt : k < u.bd.length
          · by_cases h3 : (bodyTxt (txts u.es u.es.length) (litTxt (txts u.es u.es.length) u.hd) (u.bd.take k)).1.size ≤ 3000
            · have hsm3 : Same S w1 wr := Same.below HSW1.out (HB21.out.trans (hb.mono HB21.out.size))
              obtain ⟨b, off, vs, rfl, hSb, hvl, hcc, ka, kc, rfl, hI⟩ := RowIn.kept FIt_keeps HR21.out hsm3 k hlt
              have x0 : wr.cell? ⟨b, off + k * 3, none⟩ = some (.int .i64 u.bd[k].k) := hcc 0 (by simp)
              have x1 : wr.cell? ⟨b, off + k * 3 + 1, none⟩ = some (.string u.bd[k].s) := hcc 1 (by simp)
              have x2 : wr.cell? ⟨b, off + k * 3 + 2, none⟩ = some (.slice ka u.bd[k].xs.length kc) := hcc 2 (by simp)
              have HLK := Lib.hid (HL.out u.bd[k] [.int .i64 u.bd[k].k, .string u.bd[k].s, .slice ka u.bd[k].xs.length kc] wr (HB21.out.trans (hb.mono HB21.out.size)) ⟨ka, kc, rfl, hI⟩ (HG.out.arg u.bd[k] (by simp)) (HBW.out _ (List.getElem_mem hlt)))
              have hsnd := bodyTxt_snd (txts u.es u.es.length) (litTxt (txts u.es u.es.length) u.hd) u.bd k hk
              have hnx := bodyTxt_snoc (txts u.es u.es.length) (litTxt (txts u.es u.es.length) u.hd) (u.bd.take k) u.bd[k]
              rw [← List.take_succ_eq_append_getElem hlt] at hnx
              have hnok : litOk u.bd[k] = false → ruleAns u = ⟨#[]⟩ := fun hl => ruleAns_no (fun h => by have := h.body _ (List.getElem_mem hlt); rw [hl] at this; cases this)
              have hnext : ∀ (s s' : BA) (w4 : World), Below wr.heap.size wr w4 → litOk u.bd[k] = true → s = litTxt (txts u.es u.es.length) u.bd[k] → s' = (bodyTxt (txts u.es u.es.length) (litTxt (txts u.es u.es.length) u.hd) (u.bd.take (k + 1))).1 → s'.size ≤ 4000004000 → SBodyRel u w2 (.string s') (.int .i64 ((k : Int) + 1)) w4 := by
                intro s s' w4 hb4 hl _ hs' hz
                refine ⟨k + 1, below_step hb hb4, by go_num, by omega, by rw [hs'], ?_, by rw [← hs']; exact hz⟩
                intro l hlm
                rw [List.take_succ_eq_append_getElem hlt] at hlm
                rcases List.mem_append.1 hlm with h | h
                · exact HALL.out l h
                · rw [List.mem_singleton.1 h]; exact hl
              have HNX := Lib.hid hnx
              have HSND := Lib.hid hsnd
              have HNOK := Lib.hid hnok
              have HNEXT := Lib.hid hnext
              obtain ⟨A, hA⟩ : ∃ A, A = (bodyTxt (txts u.es u.es.length) (litTxt (txts u.es u.es.length) u.hd) (u.bd.take k)).1 := ⟨_, rfl⟩
              rw [← hA] at h3 HNX hszk ⊢
              have HAA := Lib.hid hA
              have hdd : decide ((A.size : Int) ≤ 3000) = true := decide_eq_true (by omega)
              have hdd2 : decide (A.size ≤ 3000) = true := decide_eq_true h3
              clear hnx hsnd hnok hnext hA hb hpart hcc hvl hSb hI hsm3
              have hl4 : (ByteArray.size ⟨#[32, 58, 45, 32]⟩) = 4 := rfl
              by_cases hk0 : 0 < k
              · have hdk : ((k : Int) == 0) = false := by simp; omega
                go_wp2_with fail
                refine HLK.out.mono ?_
                rintro e w4 ⟨⟨s, rfl, hs, hsz4⟩, hb4⟩
                cases hlo : litOk u.bd[k] with
                | false =>
                  have HA := Lib.hid (HNOK.out hlo)
                  have HB4 := Lib.hid (below_step HB3.out hb4)
                  clear hb4 hs HNEXT HNX HSND HLK HAA HNOK hlo
                  go_wp2
                  go_ret
                  exact ⟨by rw [HA.out]; rfl, HB4.out⟩
                | true =>
                  have hse := hs hlo
                  have HE := Lib.hid (show A ++ ⟨#[44, 32]⟩ ++ s = (bodyTxt (txts u.es u.es.length) (litTxt (txts u.es u.es.length) u.hd) (u.bd.take (k + 1))).1 by
                    rw [HNX.out, HSND.out, decide_eq_true hk0, hse]
                    rfl)
                  have HRR := Lib.hid (HNEXT.out s _ w4 hb4 hlo hse HE.out (by simp only [ByteArray.size_append, size2]; omega))
                  clear HNEXT HE HNX HSND hb4 hs hse HLK HAA HNOK hlo
                  go_wp2
                  go_roundw
                  case rel => exact HRR.out
                  case measure => simp [intOf]; omega
              · have hdk : ((k : Int) == 0) = true := by simp; omega
                have HK00 := Lib.hid hk0
                clear hk0
                go_wp2_with fail
                refine HLK.out.mono ?_
                rintro e w4 ⟨⟨s, rfl, hs, hsz4⟩, hb4⟩
                cases hlo : litOk u.bd[k] with
                | false =>
                  have HA := Lib.hid (HNOK.out hlo)
                  have HB4 := Lib.hid (below_step HB3.out hb4)
                  clear hb4 hs HNEXT HNX HSND HLK HAA HNOK hlo
                  go_wp2
                  go_ret
                  exact ⟨by rw [HA.out]; rfl, HB4.out⟩
                | true =>
                  have hse := hs hlo
                  have HE := Lib.hid (show A ++ ⟨#[32, 58, 45, 32]⟩ ++ s = (bodyTxt (txts u.es u.es.length) (litTxt (txts u.es u.es.length) u.hd) (u.bd.take (k + 1))).1 by
                    rw [HNX.out, HSND.out, decide_eq_false HK00.out, hse]
                    rfl)
                  have HRR := Lib.hid (HNEXT.out s _ w4 hb4 hlo hse HE.out (by simp only [ByteArray.size_append, hl4]; omega))
                  clear HNEXT HE HNX HSND hb4 hs hse HLK HAA HNOK hlo
                  go_wp2
                  go_roundw
                  case rel => exact HRR.out
                  case measure => simp [intOf]; omega
            · have HA := Lib.hid (ruleAns_no (u := u) (fun h => by have := h.short; omega))
              obtain ⟨A, hA⟩ : ∃ A, A = (bodyTxt (txts u.es u.es.length) (litTxt (txts u.es u.es.length) u.hd) (u.bd.take k)).1 := ⟨_, rfl⟩
              rw [← hA] at h3 hszk ⊢
              have hdd : decide ((A.size : Int) ≤ 3000) = false := decide_eq_false (by omega)
              have hdd2 : decide (A.size ≤ 3000) = false := decide_eq_false h3
              have hde : decide ((3000 : Int) < (A.size : Int) + 1) = true := decide_eq_true (by omega)
              have hde2 : decide (3000 < A.size + 1) = true := decide_eq_true (by omega)
              clear hA hpart hb
              go_wp2
              go_ret
              exact ⟨by rw [HA.out]; rfl, HB3.out⟩
          · obtain rfl : k = u.bd.length := by omega
            rw [List.take_length] at hszk ⊢
            have hrt : ruleTxt u = (bodyTxt (txts u.es u.es.length) (litTxt (txts u.es u.es.length) u.hd) u.bd).1 ++ ⟨#[46]⟩ := rfl
            have hrs : (ruleTxt u).size = (bodyTxt (txts u.es u.es.length) (litTxt (txts u.es u.es.length) u.hd) u.bd).1.size + 1 := by rw [hrt, ByteArray.size_append, size1]
            have hokk : (ruleTxt u).size ≤ 3000 → ruleAns u = ruleTxt u := fun h => ruleAns_ok ⟨HG.out, HHH.out, by have := HALL.out; rw [List.take_length] at this; exact this, h⟩
            have hnok : ¬ (ruleTxt u).size ≤ 3000 → ruleAns u = ⟨#[]⟩ := fun h => ruleAns_no (fun h' => h h'.short)
            obtain ⟨A, hA⟩ : ∃ A, A = (bodyTxt (txts u.es u.es.length) (litTxt (txts u.es u.es.length) u.hd) u.bd).1 := ⟨_, rfl⟩
            rw [← hA] at hszk hrt hrs ⊢
            by_cases h3 : A.size + 1 ≤ 3000
            · have HA := Lib.hid ((hokk (by omega)).trans hrt)
              have hde : decide ((3000 : Int) < (A.size : Int) + 1) = false := decide_eq_false (by omega)
              have hde2 : decide (3000 < A.size + 1) = false := decide_eq_false (by omega)
              clear hA hpart hb hokk hnok hrt hrs
              go_wp2
              go_ret
              exact ⟨by rw [HA.out]; rfl, HB3.out⟩
            · have HA := Lib.hid (hnok (by omega))
              have hde : decide ((3000 : Int) < (A.size : Int) + 1) = true := decide_eq_true (by omega)
              have hde2 : decide (3000 < A.size + 1) = true := decide_eq_true (by omega)
              clear hA hpart hb hokk hnok hrt hrs
              go_wp2
              go_ret
              exact ⟨by rw [HA.out]; rfl, HB3.out⟩
      · have hne : (u.hd.k != 1) = true := by simpa using hh
        have HA := Lib.hid (ruleAns_no (u := u) (fun h => hh h.head))
        clear hs HHD hb2 p0 p1 p2 p3 p4
        cases litOk u.hd with
        | true =>
          go_wp2
          go_ret
          exact ⟨by rw [HA.out]; rfl, HB2.out⟩
        | false =>
          go_wp2
          go_ret
          exact ⟨by rw [HA.out]; rfl, HB2.out⟩

end Go.Proofs.YtilijbpbnlnhlaaGreat.Pr
