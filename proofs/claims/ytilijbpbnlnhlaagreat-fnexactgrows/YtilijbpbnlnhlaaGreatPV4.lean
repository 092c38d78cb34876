/-
  THE WALK of spec.l06Vars and spec.ExpVars.
-/
import Derived.Test.YtilijbpbnlnhlaaGreatPVB
namespace Go.Proofs.YtilijbpbnlnhlaaGreat.Pr
open Go Go.RowKit Go.Maps Go.WideMaps

/-- The names that the reference has, ahead of place i. -/
noncomputable def varsTo (es : List It) (n i : Nat) : List ByteArray := (firsts es (partsTo es n i)).map (txtAt es)
theorem varsTo_all (es : List It) (n : Nat) : varsTo es n (n + 1) = varsIn es n := rfl
theorem varsTo_len (es : List It) (n i : Nat) : (varsTo es n i).length ≤ i := by
  unfold varsTo partsTo
  rw [List.length_map]
  refine Nat.le_trans (firsts_len es _) (Nat.le_trans (List.length_filter_le _ _) (by simp))
theorem varsTo_skip {es : List It} {n i : Nat} (h : ¬ In es allE n i ∨ (expAt es i).k ≠ 1 ∨ txtAt es i ∈ varsTo es n i) : varsTo es n (i + 1) = varsTo es n i := by
  by_cases hi : In es allE n i
  · unfold varsTo
    rw [partsTo_in hi, firsts_snoc, pick, if_neg]
    rintro ⟨h1, h2⟩
    rcases h with h | h | h
    · exact h hi
    · exact h h1
    · obtain ⟨a, ha, e⟩ := List.mem_map.1 h
      exact h2 a ha e
  · unfold varsTo
    rw [partsTo_out hi]
theorem varsTo_put {es : List It} {n i : Nat} (h1 : In es allE n i) (h2 : (expAt es i).k = 1) (h3 : txtAt es i ∉ varsTo es n i) : varsTo es n (i + 1) = varsTo es n i ++ [txtAt es i] := by
  unfold varsTo at *
  rw [partsTo_in h1, firsts_snoc, pick, if_pos ⟨h2, fun a ha e => h3 (List.mem_map.2 ⟨a, ha, e⟩)⟩, List.map_append]
  rfl

def VRel (w0 : World) (es : List It) (n g : Nat) (bs : List Bool) (v5 v7 : Value) (wr : World) : Prop :=
  ∃ i : Nat, v7 = .int .i64 (i : Int) ∧ i ≤ n + 1 ∧ wr.ownsRow w0.heap.size 9 1 v5 (varsTo es n i).length (txtCells (varsTo es n i)) ∧ wr.ownsRow w0.heap.size 4 1 (.slice (some ⟨g, 0, none⟩) es.length es.length) es.length (flagCells bs) ∧ Below w0.heap.size w0 wr

set_option maxRecDepth 100000 in
set_option maxHeartbeats 2000000 in
theorem specVars_any (u : Ru) (n : Nat) (vs : List Value) (S : Nat → Prop) (w : World) (hF : FRu S w vs u) (hS : ∀ b, S b → b < w.heap.size) (T : TreeOk u.es) (hn : n < u.es.length) :
    Calls Tryz.prog 42 #[.agg vs.toArray, .int .i64 (n : Int)] w fun e w' => (∃ (v : Value), e = .returned v ∧ w'.ownsRow w.heap.size 9 1 v (varsIn u.es n).length (txtCells (varsIn u.es n))) ∧ Below w.heap.size w w' := by
  have hF0 := hF
  obtain ⟨aes, ces, ahd, chd, abd, cbd, rfl, r0, r1, r2⟩ := hF
  have hfew := T.few
  have hb0 : Below w.heap.size w (w.alloc (.cells #[.slice aes u.es.length ces, .int .i64 u.hd.k, .string u.hd.s, .slice ahd u.hd.xs.length chd, .slice abd u.bd.length cbd] 36)) := (Below.refl _ _).alloc (Nat.le_refl _) _
  have k0 := heap_alloc_new w (.cells #[.slice aes u.es.length ces, .int .i64 u.hd.k, .string u.hd.s, .slice ahd u.hd.xs.length chd, .slice abd u.bd.length cbd] 36)
  obtain ⟨w0, hw0⟩ : ∃ w0, w.alloc (.cells #[.slice aes u.es.length ces, .int .i64 u.hd.k, .string u.hd.s, .slice ahd u.hd.xs.length chd, .slice abd u.bd.length cbd] 36) = w0 := ⟨_, rfl⟩
  have hsz0 : w0.heap.size = w.heap.size + 1 := by rw [← hw0]; simp
  rw [hw0] at hb0 k0
  have q0 := cell_of_row _ w.heap.size 0 _ _ _ k0
  have q1 := cell_of_row _ w.heap.size 1 _ _ _ k0
  have q2 := cell_of_row _ w.heap.size 2 _ _ _ k0
  have q3 := cell_of_row _ w.heap.size 3 _ _ _ k0
  have q4 := cell_of_row _ w.heap.size 4 _ _ _ k0
  simp only [List.getElem?_toArray, List.getElem?_cons_zero, List.getElem?_cons_succ] at q0 q1 q2 q3 q4
  have hbW : Below w0.heap.size w0 (w0.alloc (.cells #[] 9)) := (Below.refl _ _).alloc (Nat.le_refl _) _
  have hoW : (w0.alloc (.cells #[] 9)).ownsRow (w.heap.size + 1) 9 1 (.slice (some ⟨w.heap.size + 1, 0, none⟩) 0 0) (varsTo u.es n 0).length (txtCells (varsTo u.es n 0)) := by
    rw [← hsz0]
    exact ⟨rfl, .inr ⟨w0.heap.size, 0, #[], rfl, Nat.le_refl _, heap_alloc_new w0 _, Nat.le_refl _, by unfold maxLen; omega, rfl, rfl⟩⟩
  have HWI := Lib.hid (specWithin_any u n _ S _ (FRu_keeps.1 _ _ _ _ _ hF0 (Same.below hS (below_step hb0 hbW))) (fun b h => Nat.lt_of_lt_of_le (hS b h) (below_step hb0 hbW).size) T hn)
  have HR0 := Lib.hid r0
  have HS := Lib.hid hS
  have HB0 := Lib.hid hb0
  have HK0 := Lib.hid k0
  have HBW := Lib.hid hbW
  have HOW := Lib.hid hoW
  have HFEW := Lib.hid hfew
  have HSZ := Lib.hid hsz0
  clear hF0 r0 r1 r2 hS hb0 k0 hbW hoW T
  go_enter Tryz.func42, Tryz.ntmps42
  go_wp2_with fail
  refine HWI.out.mono ?_
  rintro e w1 ⟨⟨g, bs, rfl, hW, hown⟩, hb1⟩
  have HST := Lib.hid (show VRel w0 u.es n g bs (.slice (some ⟨w.heap.size + 1, 0, none⟩) 0 0) (.int .i64 0) w1 from ⟨0, rfl, Nat.zero_le _, by
      have := HSZ.out
      exact owns_mono (by omega) (row_kept HOW.out hb1), owns_mono HBW.out.size hown, below_step HBW.out hb1⟩)
  have HFIN := Lib.hid (fun j => hW.fin j)
  have HWL := Lib.hid hW.len
  clear hW hown hb1 HWI HOW HBW q0 q1 q2 q3 q4 hsz0
  go_wp2
  go_loopw [5, 7] (fun v5 v7 wr => VRel w0 u.es n g bs v5 v7 wr) (fun _ v7 _ => (n + 1 - (intOf v7).toNat))
  case atStart => exact HST.out
  case round =>
    obtain ⟨i, rfl, hi, hown, hflg, hb⟩ := hrel
    obtain ⟨ao, co, rfl⟩ := owns_shape hown
    clear HST
    have hvl := varsTo_len u.es n i
    have hfl := HFEW.out
    by_cases hlt : i ≤ n
    · have hil : i < u.es.length := by omega
      have hd : decide ((i : Int) ≤ (n : Int)) = true := decide_eq_true (by omega)
      have K1 := (hb.block _ (lt_of_block HK0.out)).trans HK0.out
      have q0 := cell_of_row _ w.heap.size 0 _ _ _ K1
      simp only [List.getElem?_toArray, List.getElem?_cons_zero] at q0
      obtain ⟨b, off, vs, ha, hSb, hvn, hcc, axs, cxs, rfl, hI⟩ := RowIn.kept FIt_keeps HR0.out (Same.below HS.out (below_step HB0.out hb)) i hil
      subst ha
      have x0 : wr.cell? ⟨b, off + i * 3, none⟩ = some (.int .i64 u.es[i].k) := hcc 0 (by simp)
      have x1 : wr.cell? ⟨b, off + i * 3 + 1, none⟩ = some (.string u.es[i].s) := hcc 1 (by simp)
      rw [← expAt_lt hil] at x0 x1
      have cm := boolAt hflg HWL.out i hil
      have hin : bs.getD i false = true ↔ In u.es allE n i := by
        rw [← HFIN.out i, List.getD_eq_getElem?_getD]
        cases bs[i]? with
        | none => simp
        | some v => simp
      have HSKIP := Lib.hid (fun (w3 : World) (hb3 : Below wr.heap.size wr w3) (h : ¬ In u.es allE n i ∨ (expAt u.es i).k ≠ 1 ∨ txtAt u.es i ∈ varsTo u.es n i) => (⟨i + 1, by go_num, by omega, by rw [varsTo_skip h]; exact row_kept hown hb3, row_kept hflg hb3, below_step hb hb3⟩ : VRel w0 u.es n g bs (.slice ao (varsTo u.es n i).length co) (.int .i64 ((i : Int) + 1)) w3))
      have hgb : b < wr.heap.size := cell_lt x0
      have hgw : w.heap.size < wr.heap.size := lt_of_block K1
      have HIN := Lib.hid hin
      clear hI hcc hSb hvn hin
      by_cases hbi : bs.getD i false = true
      · rw [hbi] at cm
        by_cases hk : (expAt u.es i).k = 1
        · have hke : ((expAt u.es i).k == 1) = true := by simp [hk]
          have hTx : TxtsIn (Seg w0.heap.size wr.heap.size) wr ao (varsTo u.es n i) := by
            intro j hj
            obtain ⟨g', c', hv, h1, h2⟩ := hown.form (by omega)
            simp only [Value.slice.injEq, true_and] at hv
            obtain ⟨rfl, rfl⟩ := hv
            refine ⟨g', 0, rfl, ⟨h1, h2⟩, ?_⟩
            rw [Nat.zero_add, hown.cellAt j (by omega)]
            simp [txtCells, hj]
          have HIS := Lib.hid (specIn_any (varsTo u.es n i) (txtAt u.es i) ao co _ wr hTx (fun b h => h.2) (by omega))
          have HKK := Lib.hid hk
          have HOWN := Lib.hid hown
          have HFLG := Lib.hid hflg
          have HB := Lib.hid hb
          have HK1 := Lib.hid K1
          have HIF := Lib.hid (HIN.out.1 hbi)
          have ht : (expAt u.es i).s = txtAt u.es i := rfl
          rw [ht] at x1
          clear hTx hown hflg hb K1 hbi hk HIN ht
          obtain ⟨kk, hkk⟩ : ∃ kk, (expAt u.es i).k = kk := ⟨_, rfl⟩
          rw [hkk] at x0 hke
          clear hkk
          obtain ⟨tx, htx⟩ : ∃ tx, txtAt u.es i = tx := ⟨_, rfl⟩
          rw [htx] at x1 HIS HSKIP
          have HTX := Lib.hid htx
          clear htx
          go_wp2_with fail
          refine HIS.out.mono ?_
          rintro e w3 ⟨⟨r, rfl, hr⟩, hb3⟩
          cases r with
          | true =>
            have HR := Lib.hid (HSKIP.out w3 hb3 (.inr (.inr (hr.1 rfl))))
            clear HSKIP hr hb3 HIS
            go_wp2
            go_roundw
            case rel => exact HR.out
            case measure => (simp [intOf] <;> omega)
          | false =>
            have hno : tx ∉ varsTo u.es n i := fun h => by have := hr.2 h; cases this
            have ho3 := row_kept HOWN.out hb3
            have hb03 := below_step HB.out hb3
            obtain ⟨g', cap, w4, hrun, ho4, hb4, hk4, hat⟩ := push_txt ho3 tx (by omega) hb03 hb03.size
            have hfl4 : w4.ownsRow w0.heap.size 4 1 (.slice (some ⟨g, 0, none⟩) u.es.length u.es.length) u.es.length (flagCells bs) := by
              have hf3 := row_kept HFLG.out hb3
              rcases hf3.2 with ⟨h', _⟩ | ⟨g2, c2, cur2, hv2, hg2, hh2, r2⟩
              · cases h'
              · simp only [Value.slice.injEq, Option.some.injEq, Addr.mk.injEq, true_and, and_true] at hv2
                obtain ⟨rfl, rfl⟩ := hv2
                refine ⟨hf3.1, .inr ⟨g, u.es.length, cur2, rfl, hg2, ?_, r2⟩⟩
                rw [hk4 g hg2 (lt_of_block hh2) ?_]
                · exact hh2
                · rcases own_ne ho3 hh2 (by decide) with h | h
                  · rw [h]; simp
                  · exact h
            have HR := Lib.hid (show VRel w0 u.es n g bs (.slice (some ⟨g', 0, none⟩) ((varsTo u.es n i).length + 1) cap) (.int .i64 ((i : Int) + 1)) w4 from ⟨i + 1, by go_num, by omega, by
                rw [varsTo_put HIF.out HKK.out (by rw [HTX.out]; exact hno), HTX.out]
                exact ho4, hfl4, hb4⟩)
            have c3 := (hb3.cell (p := ⟨w.heap.size, 0, none⟩) hgw).trans q0
            have c4 := (hb3.cell (p := ⟨b, off + i * 3 + 1, none⟩) hgb).trans x1
            have HRUN := Lib.hid hrun
            clear hr hno ho3 hb03 hrun ho4 hb4 hk4 hat hfl4 hb3 HIS HSKIP HOWN HFLG HB HK1 x0 x1 q0 cm
            go_wp2_with (first
              | (at_builtin
                 refine wpList_append_run rfl (.tmp 41) (.tmp 48) _ rfl rfl rfl HRUN.out ?_))
            go_roundw
            case rel => exact HR.out
            case measure => (simp [intOf] <;> omega)
        · have hke : ((expAt u.es i).k == 1) = false := by simp [hk]
          have HR := Lib.hid (HSKIP.out wr (Below.refl _ _) (.inr (.inl hk)))
          clear HSKIP hown hflg hb K1 hbi hk HIN
          generalize (expAt u.es i).k = kk at *
          go_wp2
          go_roundw
          case rel => exact HR.out
          case measure => (simp [intOf] <;> omega)
      · have e : bs.getD i false = false := by simpa using hbi
        rw [e] at cm
        have HR := Lib.hid (HSKIP.out wr (Below.refl _ _) (.inl (fun h => hbi (HIN.out.2 h))))
        clear HSKIP hown hflg hb K1 hbi HIN e
        go_wp2
        go_roundw
        case rel => exact HR.out
        case measure => (simp [intOf] <;> omega)
    · obtain rfl : i = n + 1 := by omega
      have hd : decide (((n + 1 : Nat) : Int) ≤ (n : Int)) = false := decide_eq_false (by omega)
      have hd2 : decide ((n : Int) + 1 ≤ (n : Int)) = false := decide_eq_false (by omega)
      have HO := Lib.hid hown
      have HB := Lib.hid hb
      clear hown hflg hb
      go_wp2
      go_ret
      exact ⟨⟨_, rfl, owns_mono HB0.out.size HO.out⟩, below_step HB0.out HB.out⟩

end Go.Proofs.YtilijbpbnlnhlaaGreat.Pr
