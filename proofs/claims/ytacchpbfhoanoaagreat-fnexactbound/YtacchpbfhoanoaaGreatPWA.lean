/-
  THE WALK of spec.Bound.
-/
import Derived.Test.YtacchpbfhoanoaaGreatPW6
import Derived.Test.YtacchpbfhoanoaaGreatPW9
namespace Go.Proofs.YtacchpbfhoanoaaGreat.Pr
open Go Go.RowKit Go.Maps Go.WideMaps

/-- The bound names ahead of place i, each once, as they first stand. -/
noncomputable def selTo (es : List It) (r : List ByteArray) (i : Nat) : List ByteArray := by
  classical
  exact ((named es (List.range i)).filter fun p => decide (p.1 ∈ r)).map Prod.fst
theorem selTo_all (es : List It) (r : List ByteArray) : selTo es r es.length = (sel es r).map Prod.fst := rfl
theorem mem_selTo {es : List It} {r : List ByteArray} {i : Nat} {x : ByteArray} : x ∈ selTo es r i ↔ x ∈ (named es (List.range i)).map Prod.fst ∧ x ∈ r := by
  classical
  unfold selTo
  rw [List.mem_map, List.mem_map]
  constructor
  · rintro ⟨p, hp, rfl⟩
    rw [List.mem_filter, decide_eq_true_eq] at hp
    exact ⟨⟨p, hp.1, rfl⟩, hp.2⟩
  · rintro ⟨⟨p, hp, rfl⟩, hr⟩
    exact ⟨p, by rw [List.mem_filter, decide_eq_true_eq]; exact ⟨hp, hr⟩, rfl⟩
theorem selTo_len (es : List It) (r : List ByteArray) (i : Nat) : (selTo es r i).length ≤ i := by
  classical
  unfold selTo
  rw [List.length_map]
  refine Nat.le_trans (List.length_filter_le _ _) ?_
  unfold named
  rw [List.length_map]
  exact Nat.le_trans (firsts_len _ _) (by simp)
theorem selTo_skip {es : List It} {r : List ByteArray} {i : Nat} (h : (expAt es i).k ≠ 1 ∨ txtAt es i ∉ r ∨ txtAt es i ∈ selTo es r i) : selTo es r (i + 1) = selTo es r i := by
  classical
  by_cases hk : (expAt es i).k ≠ 1 ∨ ∃ p ∈ named es (List.range i), p.1 = txtAt es i
  · unfold selTo
    rw [List.range_succ, named_snoc_skip hk]
  · have hk1 : (expAt es i).k = 1 := Classical.byContradiction fun h => hk (.inl h)
    have hno : ∀ p ∈ named es (List.range i), p.1 ≠ txtAt es i := fun p hp e => hk (.inr ⟨p, hp, e⟩)
    have hr : txtAt es i ∉ r := by
      rcases h with h | h | h
      · exact absurd hk1 h
      · exact h
      · obtain ⟨p, hp, e⟩ := List.mem_map.1 (mem_selTo.1 h).1
        exact absurd e (hno p hp)
    unfold selTo
    rw [List.range_succ, named_snoc_put hk1 hno, List.filter_append]
    simp [hr]
theorem selTo_put {es : List It} {r : List ByteArray} {i : Nat} (h1 : (expAt es i).k = 1) (h2 : txtAt es i ∈ r) (h3 : txtAt es i ∉ selTo es r i) : selTo es r (i + 1) = selTo es r i ++ [txtAt es i] := by
  classical
  have hno : ∀ p ∈ named es (List.range i), p.1 ≠ txtAt es i := fun p hp e => h3 (mem_selTo.2 ⟨List.mem_map.2 ⟨p, hp, e⟩, h2⟩)
  unfold selTo
  rw [List.range_succ, named_snoc_put h1 hno, List.filter_append, List.map_append]
  simp [h2]

def SBRel (w0 : World) (es : List It) (r : List ByteArray) (vl : Value) (v3 v5 : Value) (wr : World) : Prop :=
  ∃ i : Nat, v5 = .int .i64 (i : Int) ∧ i ≤ es.length ∧ wr.ownsRow w0.heap.size 9 1 v3 (selTo es r i).length (txtCells (selTo es r i)) ∧ wr.ownsRow w0.heap.size 9 1 vl r.length (txtCells r) ∧ (∀ g, v3.ownBlock = some g → vl.ownBlock ≠ some g) ∧ Below w0.heap.size w0 wr

set_option maxRecDepth 100000 in
set_option maxHeartbeats 2000000 in
theorem specBound_any (u : Ru) (vs : List Value) (S : Nat → Prop) (w : World) (hF : FRu S w vs u) (hS : ∀ b, S b → b < w.heap.size) (hw : u.wt ≤ 1048576) : Calls Tryz.prog 7 #[.agg vs.toArray] w (BoundPost u w) := by
  have hF0 := hF
  obtain ⟨aes, ces, ahd, chd, abd, cbd, rfl, r0, r1, r2⟩ := hF
  have hb0 : Below w.heap.size w (w.alloc (.cells #[.slice aes u.es.length ces, .int .i64 u.hd.k, .string u.hd.s, .slice ahd u.hd.xs.length chd, .slice abd u.bd.length cbd] 36)) := (Below.refl _ _).alloc (Nat.le_refl _) _
  have k0 := heap_alloc_new w (.cells #[.slice aes u.es.length ces, .int .i64 u.hd.k, .string u.hd.s, .slice ahd u.hd.xs.length chd, .slice abd u.bd.length cbd] 36)
  obtain ⟨w0, hw0⟩ : ∃ w0, w.alloc (.cells #[.slice aes u.es.length ces, .int .i64 u.hd.k, .string u.hd.s, .slice ahd u.hd.xs.length chd, .slice abd u.bd.length cbd] 36) = w0 := ⟨_, rfl⟩
  have hsz0 : w0.heap.size = w.heap.size + 1 := by rw [← hw0]; simp
  rw [hw0] at hb0 k0
  have q0 := cell_of_row _ w.heap.size 0 _ _ _ k0
  have q1 := cell_of_row _ w.heap.size 1 _ _ _ k0
  have q2 := cell_of_row _ w.heap.size 2 _ _ _ k0
  have q3 := cell_of_row _ w.heap.size 3 _ _ _ k0
  have q4 := cell_of_row _ w.heap.size 4 _ _ _ k0
  simp only [List.getElem?_toArray, List.getElem?_cons_zero, List.getElem?_cons_succ] at q0 q1 q2 q3 q4
  have hbW : Below w0.heap.size w0 (w0.alloc (.cells #[] 9)) := (Below.refl _ _).alloc (Nat.le_refl _) _
  have hoW : (w0.alloc (.cells #[] 9)).ownsRow (w.heap.size + 1) 9 1 (.slice (some ⟨w.heap.size + 1, 0, none⟩) 0 0) 0 (txtCells []) := by
    rw [← hsz0]
    exact nil_row w0 _ rfl
  have hsW : (w0.alloc (.cells #[] 9)).heap.size = w.heap.size + 2 := by simp; omega
  have HF := Lib.hid (fun (W : World) (h : Below w0.heap.size w0 W) => FRu_keeps.1 _ _ _ _ _ hF0 (Same.below hS (below_step hb0 h)))
  have HS0 := Lib.hid (fun (W : World) (h : Below w0.heap.size w0 W) (b : Nat) (hb : S b) => Nat.lt_of_lt_of_le (hS b hb) (below_step hb0 h).size)
  have HSR := Lib.hid (specRule_any u _ S _ (HF.out _ hbW) (HS0.out _ hbW) hw)
  have HR0 := Lib.hid (fun (W : World) (h : Below w0.heap.size w0 W) => RowIn.kept FIt_keeps r0 (Same.below hS (below_step hb0 h)))
  have HSL := Lib.hid (fun (hok : RuleOk u) (W : World) (h : Below w0.heap.size w0 W) => specBoundL_any u hok _ S W (HF.out W h) (HS0.out W h) hw)
  have HB0 := Lib.hid hb0
  have HK0 := Lib.hid k0
  have HBW := Lib.hid hbW
  have HOW := Lib.hid hoW
  have HSZ := Lib.hid hsz0
  have HSW := Lib.hid hsW
  have hel : u.es.length ≤ 1048576 := by unfold Ru.wt wtExpS at hw; omega
  clear hF0 r0 r1 r2 hS hb0 k0 hbW hoW hw hsW
  go_enter Tryz.func7, Tryz.ntmps7
  go_wp2_with fail
  refine HSR.out.mono ?_
  rintro e w1 ⟨rfl, hb1⟩
  have hb01 := below_step HBW.out hb1
  have K1 := (hb01.block _ (lt_of_block HK0.out)).trans HK0.out
  have ho1 := row_kept HOW.out hb1
  have hs1 := hb1.size
  rw [HSW.out] at hs1
  clear q0 q1 q2 q3 q4 HSR hsz0
  by_cases hok : RuleOk u
  · have hne := ruleAns_some hok
    have HOK := Lib.hid hok
    generalize ruleAns u = A at *
    have q0 := cell_of_row _ w.heap.size 0 _ _ _ K1
    have q1 := cell_of_row _ w.heap.size 1 _ _ _ K1
    have q2 := cell_of_row _ w.heap.size 2 _ _ _ K1
    have q3 := cell_of_row _ w.heap.size 3 _ _ _ K1
    have q4 := cell_of_row _ w.heap.size 4 _ _ _ K1
    simp only [List.getElem?_toArray, List.getElem?_cons_zero, List.getElem?_cons_succ] at q0 q1 q2 q3 q4
    have HCL := Lib.hid (HSL.out hok w1 hb01)
    have HB1 := Lib.hid hb01
    have HO1 := Lib.hid ho1
    have HS1 := Lib.hid hs1
    clear hok K1 hb1 hb01 ho1 hs1 HSL
    go_wp2_with fail
    refine HCL.out.mono ?_
    rintro e w2 ⟨⟨r, vl, rfl, hfix, hrl, hown⟩, hb2⟩
    obtain ⟨al, cl, rfl⟩ := owns_shape hown
    have hfew := HOK.out.good.tree.few
    have HST := Lib.hid (show SBRel w0 u.es r (.slice al r.length cl) (.slice (some ⟨w.heap.size + 1, 0, none⟩) 0 0) (.int .i64 0) w2 from ⟨0, rfl, Nat.zero_le _, by
      have := HSZ.out
      exact owns_mono (by omega) (row_kept HO1.out hb2), owns_mono HB1.out.size hown, fun g hg hg2 => by
        have h5 : w.heap.size + 1 = g := Option.some.inj hg
        have h6 := (own_lt hown hg2).1
        have := HS1.out
        omega, below_step HB1.out hb2⟩)
    have HFIX := Lib.hid hfix
    clear hown hb2 HCL HO1 HS1 HB1 hfix q0 q1 q2 q3 q4 hne
    go_wp2
    go_loopw [3, 5] (fun v3 v5 wr => SBRel w0 u.es r (.slice al r.length cl) v3 v5 wr) (fun _ v5 _ => (u.es.length - (intOf v5).toNat))
    case atStart => exact HST.out
    case round =>
      obtain ⟨i, rfl, hi, ho, hl, hap, hb⟩ := hrel
      clear HST
      obtain ⟨ao, co, rfl⟩ := owns_shape ho
      have K1 := (hb.block _ (lt_of_block HK0.out)).trans HK0.out
      have q0 := cell_of_row _ w.heap.size 0 _ _ _ K1
      simp only [List.getElem?_toArray, List.getElem?_cons_zero] at q0
      have hsl := selTo_len u.es r i
      by_cases hlt : i < u.es.length
      · have hd : decide ((i : Int) < (u.es.length : Int)) = true := decide_eq_true (by omega)
        obtain ⟨b5, o5, vs5, ha5, hS5, hv5, hcc5, ax5, cx5, rfl, hI5⟩ := HR0.out wr hb i hlt
        rw [ha5] at q0
        have x0 : wr.cell? ⟨b5, o5 + i * 3, none⟩ = some (.int .i64 u.es[i].k) := hcc5 0 (by simp)
        have x1 : wr.cell? ⟨b5, o5 + i * 3 + 1, none⟩ = some (.string u.es[i].s) := hcc5 1 (by simp)
        rw [← expAt_lt hlt] at x0 x1
        have ht : (expAt u.es i).s = txtAt u.es i := rfl
        rw [ht] at x1
        have HSKIP := Lib.hid (fun (W : World) (hW : Below wr.heap.size wr W) (h : (expAt u.es i).k ≠ 1 ∨ txtAt u.es i ∉ r ∨ txtAt u.es i ∈ selTo u.es r i) => (⟨i + 1, by go_num, by omega, by rw [selTo_skip h]; exact row_kept ho hW, row_kept hl hW, hap, below_step hb hW⟩ : SBRel w0 u.es r (.slice al r.length cl) (.slice ao (selTo u.es r i).length co) (.int .i64 ((i : Int) + 1)) W))
        have hgb5 : b5 < wr.heap.size := cell_lt x0
        have hgw : w.heap.size < wr.heap.size := cell_lt q0
        by_cases hk1 : (expAt u.es i).k = 1
        · have ek : ((expAt u.es i).k == 1) = true := by simp [hk1]
          have HI1 := Lib.hid (specIn_any r (txtAt u.es i) al cl _ wr (own_txtsB hl) (fun b h => h) (by omega))
          have HI2 := Lib.hid (fun (W : World) (hW : Below wr.heap.size wr W) => specIn_any (selTo u.es r i) (txtAt u.es i) ao co _ W (own_txtsB (row_kept ho hW)) (fun b h => h) (by omega))
          have HPUT := Lib.hid (fun h2 h3 => selTo_put (es := u.es) (r := r) (i := i) hk1 h2 h3)
          have HO := Lib.hid ho
          have HL := Lib.hid hl
          have HAP := Lib.hid hap
          have HBB := Lib.hid hb
          clear ho hl hap hb K1 hcc5 hI5 hS5 hv5 ha5 ht hk1
          obtain ⟨kk, hkk⟩ : ∃ kk, (expAt u.es i).k = kk := ⟨_, rfl⟩
          rw [hkk] at x0 ek HSKIP
          clear hkk
          obtain ⟨tx, htx⟩ : ∃ tx, txtAt u.es i = tx := ⟨_, rfl⟩
          rw [htx] at x1 HI1 HI2 HPUT HSKIP
          clear htx
          obtain ⟨o2, ho2⟩ : ∃ o2, selTo u.es r i = o2 := ⟨_, rfl⟩
          rw [ho2] at HI2 HPUT HO HSKIP HAP hsl ⊢
          clear ho2
          go_wp2_with fail
          refine HI1.out.mono ?_
          rintro e9 wA ⟨⟨r1, rfl, hr1⟩, hbA⟩
          cases r1 with
          | false =>
            have HR := Lib.hid (HSKIP.out wA hbA (.inr (.inl (fun h => by have := hr1.2 h; cases this))))
            clear hr1 hbA HSKIP HI1
            go_wp2
            go_roundw
            case rel => exact HR.out
            case measure => (simp [intOf] <;> omega)
          | true =>
            have HM := Lib.hid (hr1.1 rfl)
            have c3 := (hbA.cell (p := ⟨w.heap.size, 0, none⟩) hgw).trans q0
            have c4 := (hbA.cell (p := ⟨b5, o5 + i * 3 + 1, none⟩) hgb5).trans x1
            have hAs := hbA.size
            have HBA := Lib.hid hbA
            clear hr1 hbA HI1 q0 x0 x1
            go_wp2_with fail
            refine (HI2.out wA HBA.out).mono ?_
            rintro e9 wB ⟨⟨r2, rfl, hr2⟩, hbB⟩
            have hbB' := below_step HBA.out hbB
            cases r2 with
            | true =>
              have HR := Lib.hid (HSKIP.out wB hbB' (.inr (.inr (hr2.1 rfl))))
              clear hr2 hbB hbB' HSKIP HI2
              go_wp2
              go_roundw
              case rel => exact HR.out
              case measure => (simp [intOf] <;> omega)
            | false =>
              have hno : tx ∉ o2 := fun h => by have := hr2.2 h; cases this
              have hoB := row_kept HO.out hbB'
              have hlB := row_kept HL.out hbB'
              have hb0B := below_step HBB.out hbB'
              obtain ⟨g', cap, w4, hrun, ho4, hb4, hk4, hor4⟩ := push_txt hoB tx (by omega) hb0B hb0B.size
              have HR := Lib.hid (show SBRel w0 u.es r (.slice al r.length cl) (.slice (some ⟨g', 0, none⟩) (o2.length + 1) cap) (.int .i64 ((i : Int) + 1)) w4 from ⟨i + 1, by go_num, by omega, by rw [HPUT.out HM.out hno]; exact ho4, row_push hk4 hlB HAP.out, fun g hg hg2 => by
                obtain rfl : g' = g := Option.some.inj hg
                rcases hor4 with h | h
                · exact HAP.out _ h hg2
                · have := (own_lt hlB hg2).2
                  omega, hb4⟩)
              have d3 := (hbB.cell (p := ⟨w.heap.size, 0, none⟩) (Nat.lt_of_lt_of_le hgw hAs)).trans c3
              have d4 := (hbB.cell (p := ⟨b5, o5 + i * 3 + 1, none⟩) (Nat.lt_of_lt_of_le hgb5 hAs)).trans c4
              have HRUN := Lib.hid hrun
              clear hr2 hno hrun ho4 hb4 hk4 hor4 hbB hbB' hoB hlB hb0B HI2 c3 c4 HSKIP
              go_wp2_with (first
                | (at_builtin
                   refine wpList_append_run rfl _ _ _ rfl rfl rfl HRUN.out ?_))
              go_roundw
              case rel => exact HR.out
              case measure => (simp [intOf] <;> omega)
        · have ek : ((expAt u.es i).k == 1) = false := by simp [hk1]
          have HR := Lib.hid (HSKIP.out wr (Below.refl _ _) (.inl hk1))
          clear HSKIP hk1 ho hl hap hb K1 hcc5 hI5 hS5 hv5 ha5
          generalize (expAt u.es i).k = kk at *
          go_wp2
          go_roundw
          case rel => exact HR.out
          case measure => (simp [intOf] <;> omega)
      · obtain rfl : i = u.es.length := by omega
        have hd : decide ((u.es.length : Int) < (u.es.length : Int)) = false := by simp
        have HP := Lib.hid (show BoundPost u w (.returned (.slice ao (selTo u.es r u.es.length).length co)) wr from ⟨⟨_, rfl, by
          rw [boundAns_ok HOK.out HFIX.out, ← selTo_all]
          exact owns_mono (by have := HSZ.out; omega) ho⟩, below_step HB0.out hb⟩)
        clear ho hl hap hb K1
        go_wp2
        go_ret
        exact HP.out
  · have hne := ruleAns_none hok
    have HP := Lib.hid (show BoundPost u w (.returned (.slice (some ⟨w.heap.size + 1, 0, none⟩) 0 0)) w1 from ⟨⟨_, rfl, by rw [boundAns_no hok]; exact owns_mono (by omega) ho1⟩, below_step HB0.out hb01⟩)
    generalize ruleAns u = A at *
    clear hok K1 hb1 hb01 ho1 HSL
    go_wp2
    go_ret
    exact HP.out

end Go.Proofs.YtacchpbfhoanoaaGreat.Pr
