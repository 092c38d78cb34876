/-
  What is proved: laws.FnExactOld answers true at every rule and leaves it as it was: impl.Old answers as the reference (the old names, each once, in the order of the Exps), writes into no argument, and its answer owns its memory.
  Conditions: none.
-/
import Derived.Test.YtacchpbfhoanoaaGreatPOp
import Derived.Test.YtacchpbfhoanoaaGreatRows
import Derived.Test.YtacchpbfhoanoaaGreatPW6
import Derived.Test.YtacchpbfhoanoaaGreatPWB
import Derived.Test.YtacchpbfhoanoaaGreatPLV
import Derived.ProofKit
import Derived.HandedShaped
import Derived.SizedLaws
import Derived.ChangeOld
import Derived.Carry
import Derived.ChangeSlices
import Derived.SliceStrings
namespace Go.Proofs.YtacchpbfhoanoaaGreat.Pr
open Go Go.RowKit Go.Maps Go.WideMaps

/-- The bound names ahead of place i, each once, as they first stand. -/
noncomputable def selTo (es : List It) (r : List ByteArray) (i : Nat) : List ByteArray := by
  classical
  exact ((named es (List.range i)).filter fun p => decide (p.1 ∈ r)).map Prod.fst
theorem selTo_all (es : List It) (r : List ByteArray) : selTo es r es.length = (sel es r).map Prod.fst := rfl
theorem mem_selTo {es : List It} {r : List ByteArray} {i : Nat} {x : ByteArray} : x ∈ selTo es r i ↔ x ∈ (named es (List.range i)).map Prod.fst ∧ x ∈ r := by
  classical
  unfold selTo
  rw [List.mem_map, List.mem_map]
  constructor
  · rintro ⟨p, hp, rfl⟩
    rw [List.mem_filter, decide_eq_true_eq] at hp
    exact ⟨⟨p, hp.1, rfl⟩, hp.2⟩
  · rintro ⟨⟨p, hp, rfl⟩, hr⟩
    exact ⟨p, by rw [List.mem_filter, decide_eq_true_eq]; exact ⟨hp, hr⟩, rfl⟩
theorem selTo_len (es : List It) (r : List ByteArray) (i : Nat) : (selTo es r i).length ≤ i := by
  classical
  unfold selTo
  rw [List.length_map]
  refine Nat.le_trans (List.length_filter_le _ _) ?_
  unfold named
  rw [List.length_map]
  exact Nat.le_trans (firsts_len _ _) (by simp)
theorem selTo_skip {es : List It} {r : List ByteArray} {i : Nat} (h : (expAt es i).k ≠ 1 ∨ txtAt es i ∉ r ∨ txtAt es i ∈ selTo es r i) : selTo es r (i + 1) = selTo es r i := by
  classical
  by_cases hk : (expAt es i).k ≠ 1 ∨ ∃ p ∈ named es (List.range i), p.1 = txtAt es i
  · unfold selTo
    rw [List.range_succ, named_snoc_skip hk]
  · have hk1 : (expAt es i).k = 1 := Classical.byContradiction fun h => hk (.inl h)
    have hno : ∀ p ∈ named es (List.range i), p.1 ≠ txtAt es i := fun p hp e => hk (.inr ⟨p, hp, e⟩)
    have hr : txtAt es i ∉ r := by
      rcases h with h | h | h
      · exact absurd hk1 h
      · exact h
      · obtain ⟨p, hp, e⟩ := List.mem_map.1 (mem_selTo.1 h).1
        exact absurd e (hno p hp)
    unfold selTo
    rw [List.range_succ, named_snoc_put hk1 hno, List.filter_append]
    simp [hr]
theorem selTo_put {es : List It} {r : List ByteArray} {i : Nat} (h1 : (expAt es i).k = 1) (h2 : txtAt es i ∈ r) (h3 : txtAt es i ∉ selTo es r i) : selTo es r (i + 1) = selTo es r i ++ [txtAt es i] := by
  classical
  have hno : ∀ p ∈ named es (List.range i), p.1 ≠ txtAt es i := fun p hp e => h3 (mem_selTo.2 ⟨List.mem_map.2 ⟨p, hp, e⟩, h2⟩)
  unfold selTo
  rw [List.range_succ, named_snoc_put h1 hno, List.filter_append, List.map_append]
  simp [h2]

def SORel (w0 : World) (es : List It) (r li : List ByteArray) (vl : Value) (v3 v5 : Value) (wr : World) : Prop :=
  ∃ i : Nat, v5 = .int .i64 (i : Int) ∧ i ≤ es.length ∧ wr.ownsRow w0.heap.size 9 1 v3 (selTo es r i).length (txtCells (selTo es r i)) ∧ wr.ownsRow w0.heap.size 9 1 vl li.length (txtCells li) ∧ (∀ g, v3.ownBlock = some g → vl.ownBlock ≠ some g) ∧ Below w0.heap.size w0 wr

set_option maxRecDepth 100000 in
set_option maxHeartbeats 2000000 in
theorem specOld_any (u : Ru) (vs : List Value) (S : Nat → Prop) (w : World) (hF : FRu S w vs u) (hS : ∀ b, S b → b < w.heap.size) (hw : u.wt ≤ 1048576) : Calls Tryz.prog 15 #[.agg vs.toArray] w (NamesPost true u w) := by
  have hF0 := hF
  obtain ⟨aes, ces, ahd, chd, abd, cbd, rfl, r0, r1, r2⟩ := hF
  have hb0 : Below w.heap.size w (w.alloc (.cells #[.slice aes u.es.length ces, .int .i64 u.hd.k, .string u.hd.s, .slice ahd u.hd.xs.length chd, .slice abd u.bd.length cbd] 36)) := (Below.refl _ _).alloc (Nat.le_refl _) _
  have k0 := heap_alloc_new w (.cells #[.slice aes u.es.length ces, .int .i64 u.hd.k, .string u.hd.s, .slice ahd u.hd.xs.length chd, .slice abd u.bd.length cbd] 36)
  obtain ⟨w0, hw0⟩ : ∃ w0, w.alloc (.cells #[.slice aes u.es.length ces, .int .i64 u.hd.k, .string u.hd.s, .slice ahd u.hd.xs.length chd, .slice abd u.bd.length cbd] 36) = w0 := ⟨_, rfl⟩
  have hsz0 : w0.heap.size = w.heap.size + 1 := by rw [← hw0]; simp
  rw [hw0] at hb0 k0
  have q0 := cell_of_row _ w.heap.size 0 _ _ _ k0
  have q1 := cell_of_row _ w.heap.size 1 _ _ _ k0
  have q2 := cell_of_row _ w.heap.size 2 _ _ _ k0
  have q3 := cell_of_row _ w.heap.size 3 _ _ _ k0
  have q4 := cell_of_row _ w.heap.size 4 _ _ _ k0
  simp only [List.getElem?_toArray, List.getElem?_cons_zero, List.getElem?_cons_succ] at q0 q1 q2 q3 q4
  have hbW : Below w0.heap.size w0 (w0.alloc (.cells #[] 9)) := (Below.refl _ _).alloc (Nat.le_refl _) _
  have hoW : (w0.alloc (.cells #[] 9)).ownsRow (w.heap.size + 1) 9 1 (.slice (some ⟨w.heap.size + 1, 0, none⟩) 0 0) 0 (txtCells []) := by
    rw [← hsz0]
    exact nil_row w0 _ rfl
  have hsW : (w0.alloc (.cells #[] 9)).heap.size = w.heap.size + 2 := by simp; omega
  have HF := Lib.hid (fun (W : World) (h : Below w0.heap.size w0 W) => FRu_keeps.1 _ _ _ _ _ hF0 (Same.below hS (below_step hb0 h)))
  have HS0 := Lib.hid (fun (W : World) (h : Below w0.heap.size w0 W) (b : Nat) (hb : S b) => Nat.lt_of_lt_of_le (hS b hb) (below_step hb0 h).size)
  have HSR := Lib.hid (specRule_any u _ S _ (HF.out _ hbW) (HS0.out _ hbW) hw)
  have HR0 := Lib.hid (fun (W : World) (h : Below w0.heap.size w0 W) => RowIn.kept FIt_keeps r0 (Same.below hS (below_step hb0 h)))
  have HSL := Lib.hid (fun (hok : RuleOk u) (W : World) (h : Below w0.heap.size w0 W) => specOldL_any u hok _ S W (HF.out W h) (HS0.out W h) hw)
  have HB0 := Lib.hid hb0
  have HK0 := Lib.hid k0
  have HBW := Lib.hid hbW
  have HOW := Lib.hid hoW
  have HSZ := Lib.hid hsz0
  have HSW := Lib.hid hsW
  have hel : u.es.length ≤ 1048576 := by unfold Ru.wt wtExpS at hw; omega
  clear hF0 r0 r1 r2 hS hb0 k0 hbW hoW hw hsW
  go_enter Tryz.func15, Tryz.ntmps15
  go_wp2_with fail
  refine HSR.out.mono ?_
  rintro e w1 ⟨rfl, hb1⟩
  have hb01 := below_step HBW.out hb1
  have K1 := (hb01.block _ (lt_of_block HK0.out)).trans HK0.out
  have ho1 := row_kept HOW.out hb1
  have hs1 := hb1.size
  rw [HSW.out] at hs1
  clear q0 q1 q2 q3 q4 HSR hsz0
  by_cases hok : RuleOk u
  · have hne := ruleAns_some hok
    have HOK := Lib.hid hok
    generalize ruleAns u = A at *
    have q0 := cell_of_row _ w.heap.size 0 _ _ _ K1
    have q1 := cell_of_row _ w.heap.size 1 _ _ _ K1
    have q2 := cell_of_row _ w.heap.size 2 _ _ _ K1
    have q3 := cell_of_row _ w.heap.size 3 _ _ _ K1
    have q4 := cell_of_row _ w.heap.size 4 _ _ _ K1
    simp only [List.getElem?_toArray, List.getElem?_cons_zero, List.getElem?_cons_succ] at q0 q1 q2 q3 q4
    have HCL := Lib.hid (HSL.out hok w1 hb01)
    have HB1 := Lib.hid hb01
    have HO1 := Lib.hid ho1
    have HS1 := Lib.hid hs1
    clear hok K1 hb1 hb01 ho1 hs1 HSL
    go_wp2_with fail
    refine HCL.out.mono ?_
    rintro e w2 ⟨⟨r, li, vl, rfl, hfix, hsame, hrl, hown⟩, hb2⟩
    obtain ⟨al, cl, rfl⟩ := owns_shape hown
    have hfew := HOK.out.good.tree.few
    have HST := Lib.hid (show SORel w0 u.es r li (.slice al li.length cl) (.slice (some ⟨w.heap.size + 1, 0, none⟩) 0 0) (.int .i64 0) w2 from ⟨0, rfl, Nat.zero_le _, by
      have := HSZ.out
      exact owns_mono (by omega) (row_kept HO1.out hb2), owns_mono HB1.out.size hown, fun g hg hg2 => by
        have h5 : w.heap.size + 1 = g := Option.some.inj hg
        have h6 := (own_lt hown hg2).1
        have := HS1.out
        omega, below_step HB1.out hb2⟩)
    have HFIX := Lib.hid hfix
    have HSAME := Lib.hid hsame
    clear hown hb2 HCL HO1 HS1 HB1 hfix hsame q0 q1 q2 q3 q4 hne
    go_wp2
    go_loopw [3, 5] (fun v3 v5 wr => SORel w0 u.es r li (.slice al li.length cl) v3 v5 wr) (fun _ v5 _ => (u.es.length - (intOf v5).toNat))
    case atStart => exact HST.out
    case round =>
      obtain ⟨i, rfl, hi, ho, hl, hap, hb⟩ := hrel
      clear HST
      obtain ⟨ao, co, rfl⟩ := owns_shape ho
      have K1 := (hb.block _ (lt_of_block HK0.out)).trans HK0.out
      have q0 := cell_of_row _ w.heap.size 0 _ _ _ K1
      simp only [List.getElem?_toArray, List.getElem?_cons_zero] at q0
      have hsl := selTo_len u.es r i
      by_cases hlt : i < u.es.length
      · have hd : decide ((i : Int) < (u.es.length : Int)) = true := decide_eq_true (by omega)
        obtain ⟨b5, o5, vs5, ha5, hS5, hv5, hcc5, ax5, cx5, rfl, hI5⟩ := HR0.out wr hb i hlt
        rw [ha5] at q0
        have x0 : wr.cell? ⟨b5, o5 + i * 3, none⟩ = some (.int .i64 u.es[i].k) := hcc5 0 (by simp)
        have x1 : wr.cell? ⟨b5, o5 + i * 3 + 1, none⟩ = some (.string u.es[i].s) := hcc5 1 (by simp)
        rw [← expAt_lt hlt] at x0 x1
        have ht : (expAt u.es i).s = txtAt u.es i := rfl
        rw [ht] at x1
        have HSKIP := Lib.hid (fun (W : World) (hW : Below wr.heap.size wr W) (h : (expAt u.es i).k ≠ 1 ∨ txtAt u.es i ∉ r ∨ txtAt u.es i ∈ selTo u.es r i) => (⟨i + 1, by go_num, by omega, by rw [selTo_skip h]; exact row_kept ho hW, row_kept hl hW, hap, below_step hb hW⟩ : SORel w0 u.es r li (.slice al li.length cl) (.slice ao (selTo u.es r i).length co) (.int .i64 ((i : Int) + 1)) W))
        have hgb5 : b5 < wr.heap.size := cell_lt x0
        have hgw : w.heap.size < wr.heap.size := cell_lt q0
        by_cases hk1 : (expAt u.es i).k = 1
        · have ek : ((expAt u.es i).k == 1) = true := by simp [hk1]
          have HI1 := Lib.hid (specIn_any li (txtAt u.es i) al cl _ wr (own_txtsB hl) (fun b h => h) (by omega))
          have HI2 := Lib.hid (fun (W : World) (hW : Below wr.heap.size wr W) => specIn_any (selTo u.es r i) (txtAt u.es i) ao co _ W (own_txtsB (row_kept ho hW)) (fun b h => h) (by omega))
          have HPUT := Lib.hid (fun h2 h3 => selTo_put (es := u.es) (r := r) (i := i) hk1 h2 h3)
          have HO := Lib.hid ho
          have HL := Lib.hid hl
          have HAP := Lib.hid hap
          have HBB := Lib.hid hb
          clear ho hl hap hb K1 hcc5 hI5 hS5 hv5 ha5 ht hk1
          obtain ⟨kk, hkk⟩ : ∃ kk, (expAt u.es i).k = kk := ⟨_, rfl⟩
          rw [hkk] at x0 ek HSKIP
          clear hkk
          obtain ⟨tx, htx⟩ : ∃ tx, txtAt u.es i = tx := ⟨_, rfl⟩
          rw [htx] at x1 HI1 HI2 HPUT HSKIP
          clear htx
          obtain ⟨o2, ho2⟩ : ∃ o2, selTo u.es r i = o2 := ⟨_, rfl⟩
          rw [ho2] at HI2 HPUT HO HSKIP HAP hsl ⊢
          clear ho2
          go_wp2_with fail
          refine HI1.out.mono ?_
          rintro e9 wA ⟨⟨r1, rfl, hr1⟩, hbA⟩
          cases r1 with
          | false =>
            have HR := Lib.hid (HSKIP.out wA hbA (.inr (.inl (fun h => by have := hr1.2 ((HSAME.out _).2 h); cases this))))
            clear hr1 hbA HSKIP HI1
            go_wp2
            go_roundw
            case rel => exact HR.out
            case measure => (simp [intOf] <;> omega)
          | true =>
            have HM := Lib.hid ((HSAME.out _).1 (hr1.1 rfl))
            have c3 := (hbA.cell (p := ⟨w.heap.size, 0, none⟩) hgw).trans q0
            have c4 := (hbA.cell (p := ⟨b5, o5 + i * 3 + 1, none⟩) hgb5).trans x1
            have hAs := hbA.size
            have HBA := Lib.hid hbA
            clear hr1 hbA HI1 q0 x0 x1
            go_wp2_with fail
            refine (HI2.out wA HBA.out).mono ?_
            rintro e9 wB ⟨⟨r2, rfl, hr2⟩, hbB⟩
            have hbB' := below_step HBA.out hbB
            cases r2 with
            | true =>
              have HR := Lib.hid (HSKIP.out wB hbB' (.inr (.inr (hr2.1 rfl))))
              clear hr2 hbB hbB' HSKIP HI2
              go_wp2
              go_roundw
              case rel => exact HR.out
              case measure => (simp [intOf] <;> omega)
            | false =>
              have hno : tx ∉ o2 := fun h => by have := hr2.2 h; cases this
              have hoB := row_kept HO.out hbB'
              have hlB := row_kept HL.out hbB'
              have hb0B := below_step HBB.out hbB'
              obtain ⟨g', cap, w4, hrun, ho4, hb4, hk4, hor4⟩ := push_txt hoB tx (by omega) hb0B hb0B.size
              have HR := Lib.hid (show SORel w0 u.es r li (.slice al li.length cl) (.slice (some ⟨g', 0, none⟩) (o2.length + 1) cap) (.int .i64 ((i : Int) + 1)) w4 from ⟨i + 1, by go_num, by omega, by rw [HPUT.out HM.out hno]; exact ho4, row_push hk4 hlB HAP.out, fun g hg hg2 => by
                obtain rfl : g' = g := Option.some.inj hg
                rcases hor4 with h | h
                · exact HAP.out _ h hg2
                · have := (own_lt hlB hg2).2
                  omega, hb4⟩)
              have d3 := (hbB.cell (p := ⟨w.heap.size, 0, none⟩) (Nat.lt_of_lt_of_le hgw hAs)).trans c3
              have d4 := (hbB.cell (p := ⟨b5, o5 + i * 3 + 1, none⟩) (Nat.lt_of_lt_of_le hgb5 hAs)).trans c4
              have HRUN := Lib.hid hrun
              clear hr2 hno hrun ho4 hb4 hk4 hor4 hbB hbB' hoB hlB hb0B HI2 c3 c4 HSKIP
              go_wp2_with (first
                | (at_builtin
                   refine wpList_append_run rfl _ _ _ rfl rfl rfl HRUN.out ?_))
              go_roundw
              case rel => exact HR.out
              case measure => (simp [intOf] <;> omega)
        · have ek : ((expAt u.es i).k == 1) = false := by simp [hk1]
          have HR := Lib.hid (HSKIP.out wr (Below.refl _ _) (.inl hk1))
          clear HSKIP hk1 ho hl hap hb K1 hcc5 hI5 hS5 hv5 ha5
          generalize (expAt u.es i).k = kk at *
          go_wp2
          go_roundw
          case rel => exact HR.out
          case measure => (simp [intOf] <;> omega)
      · obtain rfl : i = u.es.length := by omega
        have hd : decide ((u.es.length : Int) < (u.es.length : Int)) = false := by simp
        have HP := Lib.hid (show NamesPost true u w (.returned (.slice ao (selTo u.es r u.es.length).length co)) wr from ⟨⟨_, rfl, by
          rw [boundAns_ok HOK.out HFIX.out, ← selTo_all]
          exact owns_mono (by have := HSZ.out; omega) ho⟩, below_step HB0.out hb⟩)
        clear ho hl hap hb K1
        go_wp2
        go_ret
        exact HP.out
  · have hne := ruleAns_none hok
    have HP := Lib.hid (show NamesPost true u w (.returned (.slice (some ⟨w.heap.size + 1, 0, none⟩) 0 0)) w1 from ⟨⟨_, rfl, by rw [boundAns_no hok]; exact owns_mono (by omega) ho1⟩, below_step HB0.out hb01⟩)
    generalize ruleAns u = A at *
    clear hok K1 hb1 hb01 ho1 HSL
    go_wp2
    go_ret
    exact HP.out

end Go.Proofs.YtacchpbfhoanoaaGreat.Pr

namespace Go.Proofs.YtacchpbfhoanoaaGreat.Pr
open Go Go.RowKit Go.Maps Go.WideMaps

set_option maxRecDepth 100000 in
set_option maxHeartbeats 8000000 in
theorem law_FnExactOld (u : Ru) (vs : List Value) (W : World) (hF : FRu (fun b => b < W.heap.size) W vs u) (hf : u.fits) :
    Calls Tryz.prog 4 #[.agg vs.toArray] W fun e w' => e = .returned (.bool true) ∧ Below W.heap.size W w' := by
  have hF1 := hF
  obtain ⟨aes, ces, ahd, chd, abd, cbd, rfl, r0, r1, r2⟩ := hF
  have hb0 : Below W.heap.size W (W.alloc (.cells #[.slice aes u.es.length ces, .int .i64 u.hd.k, .string u.hd.s, .slice ahd u.hd.xs.length chd, .slice abd u.bd.length cbd] 28)) := (Below.refl _ _).alloc (Nat.le_refl _) _
  have k0 := heap_alloc_new W (.cells #[.slice aes u.es.length ces, .int .i64 u.hd.k, .string u.hd.s, .slice ahd u.hd.xs.length chd, .slice abd u.bd.length cbd] 28)
  obtain ⟨W0, hW0⟩ : ∃ W0, W.alloc (.cells #[.slice aes u.es.length ces, .int .i64 u.hd.k, .string u.hd.s, .slice ahd u.hd.xs.length chd, .slice abd u.bd.length cbd] 28) = W0 := ⟨_, rfl⟩
  rw [hW0] at hb0 k0
  have HARG := Lib.hid (fun (w1 : World) (h : Below W.heap.size W w1) => (FRu_keeps.1 _ _ _ _ _ hF1 (Same.below (fun _ h => h) h) : FRu (fun b => b < W.heap.size) w1 _ u))
  have HLT := Lib.hid (fun (w1 : World) (h : Below W.heap.size W w1) (b : Nat) (hb : b < W.heap.size) => Nat.lt_of_lt_of_le hb h.size)
  have HSZ := Lib.hid (szRule_any u _ 1048576 _ W0 (HARG.out W0 hb0) (HLT.out W0 hb0) hf (by omega) (by omega))
  have q0 := cell_of_row _ W.heap.size 0 _ _ _ k0
  have q1 := cell_of_row _ W.heap.size 1 _ _ _ k0
  have q2 := cell_of_row _ W.heap.size 2 _ _ _ k0
  have q3 := cell_of_row _ W.heap.size 3 _ _ _ k0
  have q4 := cell_of_row _ W.heap.size 4 _ _ _ k0
  simp only [List.getElem?_toArray, List.getElem?_cons_zero, List.getElem?_cons_succ] at q0 q1 q2 q3 q4
  have HB0 := Lib.hid hb0
  have HK0 := Lib.hid k0
  clear r0 r1 r2 hF1 hf hb0 k0
  go_enter Tryz.func4, Tryz.ntmps4
  go_wp2_with fail
  refine HSZ.out.mono ?_
  rintro e w1 ⟨⟨r, rfl, hr⟩, hb1⟩
  have HB1 := Lib.hid (below_step HB0.out hb1)
  rcases hr with ⟨hr, _⟩ | ⟨rfl, hwt⟩
  · have hd : decide (r < 0) = true := decide_eq_true hr
    clear HSZ hb1 q0 q1 q2 q3 q4
    go_wp2
    go_ret
    exact ⟨rfl, HB1.out⟩
  have hd : decide ((1048576 : Int) - (u.wt : Int) < 0) = false := decide_eq_false (by omega)
  have HWT := Lib.hid (show u.wt ≤ 1048576 by omega)
  have K1 := (hb1.block _ (lt_of_block HK0.out)).trans HK0.out
  clear q0 q1 q2 q3 q4
  have q0 := cell_of_row _ W.heap.size 0 _ _ _ K1
  have q1 := cell_of_row _ W.heap.size 1 _ _ _ K1
  have q2 := cell_of_row _ W.heap.size 2 _ _ _ K1
  have q3 := cell_of_row _ W.heap.size 3 _ _ _ K1
  have q4 := cell_of_row _ W.heap.size 4 _ _ _ K1
  simp only [List.getElem?_toArray, List.getElem?_cons_zero, List.getElem?_cons_succ] at q0 q1 q2 q3 q4
  have HT1 := Lib.hid (toRule_any u _ _ w1 (HARG.out w1 HB1.out) (HLT.out w1 HB1.out) HWT.out)
  have HK1 := Lib.hid K1
  clear HSZ hb1 K1 hwt
  generalize u.wt = uw at hd
  -- the reference's answer
  go_wp2_with fail
  refine HT1.out.mono ?_
  rintro e w2 ⟨us, rfl, hF2, hb2⟩
  have HB2 := Lib.hid (below_step HB1.out hb2)
  have HK2 := Lib.hid ((hb2.block _ (lt_of_block HK1.out)).trans HK1.out)
  have HSP := Lib.hid (specOld_any u us _ w2 hF2 (fun b h => h.2) HWT.out)
  obtain ⟨a1, d1, a2, d2, a3, d3, rfl, _, _, _⟩ := hF2
  clear hb2 HT1 q0 q1 q2 q3 q4 HK1
  go_wp2_with fail
  refine HSP.out.mono ?_
  rintro e w3 ⟨⟨v3, rfl, ho3⟩, hb3⟩
  obtain ⟨ax, cx, rfl⟩ := owns_shape ho3
  have HO3 := Lib.hid ho3
  have HB3 := Lib.hid (below_step HB2.out hb3)
  have K3 := (hb3.block _ (lt_of_block HK2.out)).trans HK2.out
  have q0 := cell_of_row _ W.heap.size 0 _ _ _ K3
  have q1 := cell_of_row _ W.heap.size 1 _ _ _ K3
  have q2 := cell_of_row _ W.heap.size 2 _ _ _ K3
  have q3 := cell_of_row _ W.heap.size 3 _ _ _ K3
  have q4 := cell_of_row _ W.heap.size 4 _ _ _ K3
  simp only [List.getElem?_toArray, List.getElem?_cons_zero, List.getElem?_cons_succ] at q0 q1 q2 q3 q4
  have HG3 := Lib.hid (lt_of_block K3)
  have HT2 := Lib.hid (tpRule_any u _ _ w3 (HARG.out w3 HB3.out) (HLT.out w3 HB3.out) HWT.out)
  have HK3 := Lib.hid K3
  clear hb3 HSP HK2 K3 ho3
  -- the argument of the program, copied
  go_wp2_with fail
  refine HT2.out.mono ?_
  rintro e w4 ⟨us, rfl, hF4, hb4, hp4⟩
  have hb5 : Below w4.heap.size w4 (w4.alloc (.cells us.toArray 36)) := (Below.refl _ _).alloc (Nat.le_refl _) _
  have hF5 := FRu_keeps.1 _ _ _ _ _ hF4 (Same.below (fun b h => h.2) hb5)
  have k5 := heap_alloc_new w4 (.cells us.toArray 36)
  have HIM := Lib.hid (implOld_any u us _ _ hF5 (fun b h => Nat.lt_of_lt_of_le h.2 hb5.size) HWT.out)
  have hp5 : ∀ b o, Seg w3.heap.size w4.heap.size b → (w4.alloc (.cells us.toArray 36)).frozen? ⟨b, o, none⟩ = false := fun b o h => (hp4.alloc _ _).frozen h.1 (Nat.lt_of_lt_of_le h.2 hb5.size) o
  obtain ⟨b1, e1, b2, e2, b3, e3, rfl, g1, g2, g3⟩ := hF4
  obtain ⟨w5, hw5⟩ : ∃ w5, w4.alloc (.cells #[.slice b1 u.es.length e1, .int .i64 u.hd.k, .string u.hd.s, .slice b2 u.hd.xs.length e2, .slice b3 u.bd.length e3] 36) = w5 := ⟨_, rfl⟩
  rw [hw5] at HIM hF5 k5 hb5 hp5
  have hs5 : w4.heap.size < w5.heap.size := lt_of_block k5
  have HF5 := Lib.hid hF5
  have HP5 := Lib.hid hp5
  have HB35 := Lib.hid (below_step hb4 hb5)
  have HB5 := Lib.hid (below_step HB3.out HB35.out)
  have HS34 := Lib.hid hb4.size
  have K5 := (HB35.out.block _ (lt_of_block HK3.out)).trans HK3.out
  have t0 := cell_of_row _ w4.heap.size 0 _ _ _ k5
  have t1 := cell_of_row _ w4.heap.size 1 _ _ _ k5
  have t2 := cell_of_row _ w4.heap.size 2 _ _ _ k5
  have t3 := cell_of_row _ w4.heap.size 3 _ _ _ k5
  have t4 := cell_of_row _ w4.heap.size 4 _ _ _ k5
  simp only [List.getElem?_toArray, List.getElem?_cons_zero, List.getElem?_cons_succ] at t0 t1 t2 t3 t4
  have HK5 := Lib.hid K5
  have Hk5 := Lib.hid k5
  clear hb4 hb5 hF5 k5 K5 g1 g2 g3 HT2 HK3 q0 q1 q2 q3 q4 hp4 hp5
  -- the program's answer
  go_wp2_with fail
  refine HIM.out.mono ?_
  rintro e w6 ⟨⟨v6, rfl, ho6⟩, hb6⟩
  obtain ⟨ag, cg, rfl⟩ := owns_shape ho6
  have HO6 := Lib.hid ho6
  have HO36 := Lib.hid (row_kept (row_kept HO3.out HB35.out) hb6)
  have HO3L := HO3
  have HN60 := Lib.hid (boundAns_len true u)
  have HE1 := Lib.hid (eqTxts HO6.out HO36.out HN60.out)
  have HB6 := Lib.hid (below_step HB5.out hb6)
  have HB56 := Lib.hid hb6
  clear ho6 hb6 HIM t0 t1 t2 t3 t4
  go_wp2_with fail
  refine HE1.out.mono ?_
  rintro e w7 ⟨rfl, hb7⟩
  have HB7 := Lib.hid (below_step HB6.out hb7)
  have HB57 := Lib.hid (below_step HB56.out hb7)
  have HO67 := Lib.hid (row_kept HO6.out hb7)
  have HO37 := Lib.hid (row_kept HO36.out hb7)
  have K7 := (HB57.out.block _ (lt_of_block HK5.out)).trans HK5.out
  have k7 := (HB57.out.block _ (lt_of_block Hk5.out)).trans Hk5.out
  have y0 := cell_of_row _ W.heap.size 0 _ _ _ K7
  have y1 := cell_of_row _ W.heap.size 1 _ _ _ K7
  have y2 := cell_of_row _ W.heap.size 2 _ _ _ K7
  have y3 := cell_of_row _ W.heap.size 3 _ _ _ K7
  have y4 := cell_of_row _ W.heap.size 4 _ _ _ K7
  simp only [List.getElem?_toArray, List.getElem?_cons_zero, List.getElem?_cons_succ] at y0 y1 y2 y3 y4
  have t0 := cell_of_row _ w4.heap.size 0 _ _ _ k7
  have t1 := cell_of_row _ w4.heap.size 1 _ _ _ k7
  have t2 := cell_of_row _ w4.heap.size 2 _ _ _ k7
  have t3 := cell_of_row _ w4.heap.size 3 _ _ _ k7
  have t4 := cell_of_row _ w4.heap.size 4 _ _ _ k7
  simp only [List.getElem?_toArray, List.getElem?_cons_zero, List.getElem?_cons_succ] at t0 t1 t2 t3 t4
  have hg1 : W.heap.size < w7.heap.size := lt_of_block K7
  have hg2 : w4.heap.size < w7.heap.size := lt_of_block k7
  have HF7 := Lib.hid (FRu_keeps.1 _ _ _ _ _ HF5.out (Same.below (fun b h => Nat.lt_trans h.2 hs5) HB57.out))
  have HSL := Lib.hid (show ∀ b, Seg w3.heap.size w4.heap.size b → b < w7.heap.size from fun b h => by have := h.2; omega)
  have HT3 := Lib.hid (fun (w' : World) (h : Below w7.heap.size w7 w') => toRule_any u _ _ w' (HARG.out w' (below_step HB7.out h)) (HLT.out w' (below_step HB7.out h)) HWT.out)
  have HEQ := Lib.hid (fun (w8 w' : World) (h : Below w7.heap.size w7 w8) (h2 : Below w8.heap.size w8 w') (lo : Nat) (us : List Value) (hF : FRu (Seg lo w8.heap.size) w8 us u) =>
    eqRule_any u _ us _ _ w' (FRu_keeps.1 _ _ _ _ _ HF7.out (Same.below HSL.out (below_step h h2))) (FRu_keeps.1 _ _ _ _ _ hF (Same.below (fun b h => h.2) h2)) (fun b hb => Nat.lt_of_lt_of_le (HSL.out b hb) (below_step h h2).size) (fun b hb => Nat.lt_of_lt_of_le hb.2 h2.size) (by have := HWT.out; omega))
  have hB0 : Below w7.heap.size w7 w7 := Below.refl _ _
  have HK7 := Lib.hid K7
  have Hk7 := Lib.hid k7
  clear hb7 K7 k7 HE1 HK5 Hk5 HF5 hd
  go_wp2
  go_region_held3 (fun w' => w'.cell? ⟨W.heap.size, 0, none⟩ = some (.slice aes u.es.length ces) ∧ w'.cell? ⟨W.heap.size, 1, none⟩ = some (.int .i64 u.hd.k) ∧ w'.cell? ⟨W.heap.size, 2, none⟩ = some (.string u.hd.s) ∧ w'.cell? ⟨W.heap.size, 3, none⟩ = some (.slice ahd u.hd.xs.length chd) ∧ w'.cell? ⟨W.heap.size, 4, none⟩ = some (.slice abd u.bd.length cbd) ∧ w'.cell? ⟨w4.heap.size, 0, none⟩ = some (.slice b1 u.es.length e1) ∧ w'.cell? ⟨w4.heap.size, 1, none⟩ = some (.int .i64 u.hd.k) ∧ w'.cell? ⟨w4.heap.size, 2, none⟩ = some (.string u.hd.s) ∧ w'.cell? ⟨w4.heap.size, 3, none⟩ = some (.slice b2 u.hd.xs.length e2) ∧ w'.cell? ⟨w4.heap.size, 4, none⟩ = some (.slice b3 u.bd.length e3) ∧ Below w7.heap.size w7 w')
        (refine ⟨?_, ?_, ?_, ?_, ?_, ?_, ?_, ?_, ?_, ?_, ?_⟩ <;> (first | assumption | (simp [*]; done) | (apply Below.drew; assumption)))
        (first
          | (go_at_call 8
             refine (HT3.out _ (by first | assumption | (apply Below.drew; assumption))).mono ?_
             rintro e8 w8 ⟨us8, rfl, hF8, hb8⟩
             have hb8' : Below w7.heap.size w7 w8 := below_keep (by first | assumption | (apply Below.drew; assumption)) hb8
             have HF8 := Lib.hid hF8
             obtain ⟨m1, n1, m2, n2, m3, n3, rfl, _, _, _⟩ := hF8
             have z80 := (hb8'.cell (p := ⟨W.heap.size, 0, none⟩) hg1).trans y0
             have z81 := (hb8'.cell (p := ⟨W.heap.size, 1, none⟩) hg1).trans y1
             have z82 := (hb8'.cell (p := ⟨W.heap.size, 2, none⟩) hg1).trans y2
             have z83 := (hb8'.cell (p := ⟨W.heap.size, 3, none⟩) hg1).trans y3
             have z84 := (hb8'.cell (p := ⟨W.heap.size, 4, none⟩) hg1).trans y4
             have x80 := (hb8'.cell (p := ⟨w4.heap.size, 0, none⟩) hg2).trans t0
             have x81 := (hb8'.cell (p := ⟨w4.heap.size, 1, none⟩) hg2).trans t1
             have x82 := (hb8'.cell (p := ⟨w4.heap.size, 2, none⟩) hg2).trans t2
             have x83 := (hb8'.cell (p := ⟨w4.heap.size, 3, none⟩) hg2).trans t3
             have x84 := (hb8'.cell (p := ⟨w4.heap.size, 4, none⟩) hg2).trans t4
             clear hb8)
          | (go_at_call 11
             refine (HEQ.out w8 _ hb8' (by first | exact Below.refl _ _ | exact (Below.refl _ _).drew) _ _ HF8.out).mono ?_
             rintro e9 w9 ⟨rfl, hb9⟩
             have hb9' : Below w7.heap.size w7 w9 := below_keep hb8' (by first | exact hb9 | exact hb9)
             have z90 := (hb9'.cell (p := ⟨W.heap.size, 0, none⟩) hg1).trans y0
             have z91 := (hb9'.cell (p := ⟨W.heap.size, 1, none⟩) hg1).trans y1
             have z92 := (hb9'.cell (p := ⟨W.heap.size, 2, none⟩) hg1).trans y2
             have z93 := (hb9'.cell (p := ⟨W.heap.size, 3, none⟩) hg1).trans y3
             have z94 := (hb9'.cell (p := ⟨W.heap.size, 4, none⟩) hg1).trans y4
             have x90 := (hb9'.cell (p := ⟨w4.heap.size, 0, none⟩) hg2).trans t0
             have x91 := (hb9'.cell (p := ⟨w4.heap.size, 1, none⟩) hg2).trans t1
             have x92 := (hb9'.cell (p := ⟨w4.heap.size, 2, none⟩) hg2).trans t2
             have x93 := (hb9'.cell (p := ⟨w4.heap.size, 3, none⟩) hg2).trans t3
             have x94 := (hb9'.cell (p := ⟨w4.heap.size, 4, none⟩) hg2).trans t4
             clear hb9)
          | fail)
  -- the copy is marked
  have HB79 := Lib.hid hb9'
  have HB59 := Lib.hid (below_step HB57.out hb9')
  have HF9 := Lib.hid (FRu_keeps.1 _ _ _ _ _ HF7.out (Same.below HSL.out hb9'))
  have HO69 := Lib.hid (row_kept HO67.out hb9')
  have HO39 := Lib.hid (row_kept HO37.out hb9')
  have hs9 := HB79.out.size
  have HMR := Lib.hid (markRule_any u _ _ w9 HF9.out HWT.out (fun b h => by have := HSL.out b h; omega) (fun b o h => by
    have h1 := HP5.out b o h
    unfold World.frozen? at h1 ⊢
    rw [show (⟨b, o, none⟩ : Addr).block = b from rfl, HB59.out.block b (Nat.lt_trans h.2 hs5)]
    exact h1))
  have HK9 := Lib.hid ((HB79.out.block _ hg1).trans HK7.out)
  have HB9 := Lib.hid (below_step HB7.out hb9')
  clear HT3 HEQ hB0 hb8' hb9' HF8 HF7 HK7 Hk7 HO67 HO37 y0 y1 y2 y3 y4 t0 t1 t2 t3 t4 z80 z81 z82 z83 z84 x80 x81 x82 x83 x84 z90 z91 z92 z93 z94
  go_wp2_with fail
  refine HMR.out.mono ?_
  rintro e w10 ⟨⟨z, rfl, hz⟩, hm10⟩
  have hdz : decide (z < 0) = false := decide_eq_false (by omega)
  have HM910 := Lib.hid hm10.size
  have HO610 := Lib.hid (row_mkd HO69.out hm10 (fun g hg h => by have h1 := (own_lt2 HO69.out hg).1; have h2 := h.2; omega))
  have HO310 := Lib.hid (row_mkd HO39.out hm10 (fun g hg h => by
    have h1 := (own_lt2 HO3L.out hg).2
    have h2 := h.1
    omega))
  have HB10 := Lib.hid (HB9.out.trans (hm10.toBelow (B := W.heap.size) (by have := HB9.out.size; omega) (fun b h => by have h1 := h.1; have h2 := HG3.out; omega)))
  have HK10 := Lib.hid ((hm10.block _ (lt_of_block HK9.out) (fun h => by have h1 := h.1; have h2 := HG3.out; omega)).trans HK9.out)
  have HE2 := Lib.hid (eqTxts HO610.out HO310.out HN60.out)
  clear hm10 hz HMR HF9 x90 x91 x92 x93 x94
  go_wp2_with fail
  refine HE2.out.mono ?_
  rintro e w11 ⟨rfl, hb11⟩
  have HB11 := Lib.hid (below_step HB10.out hb11)
  have HO611 := Lib.hid (row_kept HO610.out hb11)
  have HO311 := Lib.hid (row_kept HO310.out hb11)
  have HK11 := Lib.hid ((hb11.block _ (lt_of_block HK10.out)).trans HK10.out)
  have HW511 := Lib.hid (show w5.heap.size ≤ w11.heap.size by have h1 := HB59.out.size; have h2 := HM910.out; have h3 := hb11.size; omega)
  have HMS := Lib.hid (markStringS_any (namesAns true u) w5.heap.size _ w11 HW511.out HO611.out (by have := HN60.out; omega))
  clear hb11 HE2 hdz HO610 HO310 HO69 HO39
  -- the answer is marked, and looked at again
  go_wp2_with fail
  refine HMS.out.mono ?_
  rintro e w12 ⟨rfl, ⟨ms, hml, hmk, hom⟩, hb12⟩
  have HOM := Lib.hid hom
  have HMK := Lib.hid hmk
  have HML := Lib.hid hml
  have HG5 := Lib.hid (show W.heap.size < w5.heap.size by have h1 := HG3.out; have h2 := HB35.out.size; omega)
  have HB12 := Lib.hid (HB11.out.trans (hb12.mono (Nat.le_of_lt HG5.out)))
  have HK12 := Lib.hid ((hb12.block _ HG5.out).trans HK11.out)
  have HO312 := Lib.hid (show w12.ownsRow w2.heap.size 9 1 (.slice ax (namesAns true u).length cx) (namesAns true u).length (txtCells (namesAns true u)) from by
    have h := HO311.out
    refine ⟨h.1, ?_⟩
    rcases h.2 with h' | ⟨g, cap, cur, hv, hg, hh, r⟩
    · exact .inl h'
    · refine .inr ⟨g, cap, cur, hv, hg, (hb12.block g ?_).trans hh, r⟩
      have h1 := (own_lt2 HO3L.out (g := g) (by rw [hv]; rfl)).2
      have h2 := HB35.out.size
      omega)
  have HH1 := Lib.hid (heldStringS_any ms w5.heap.size _ w12 (by rw [hml]; rw [hml] at hom; exact hom) hmk (by rw [hml]; have := HN60.out; omega))
  rw [hml] at HH1
  clear hb12 hom hmk hml HMS HO611 HO311 HK11
  have hd1 : decide (1 + ((namesAns true u).length : Int) < 0) = false := decide_eq_false (by omega)
  have hne1 : (1 + ((namesAns true u).length : Int) != 1 + ((namesAns true u).length : Int)) = false := by simp
  go_wp2_with fail
  refine HH1.out.mono ?_
  rintro e w13 ⟨rfl, hb13⟩
  have HB13 := Lib.hid (below_step HB12.out hb13)
  have HOM13 := Lib.hid (row_kept HOM.out hb13)
  have HO313 := Lib.hid (row_kept HO312.out hb13)
  have K13 := (hb13.block _ (lt_of_block HK12.out)).trans HK12.out
  have q0 := cell_of_row _ W.heap.size 0 _ _ _ K13
  have q1 := cell_of_row _ W.heap.size 1 _ _ _ K13
  have q2 := cell_of_row _ W.heap.size 2 _ _ _ K13
  have q3 := cell_of_row _ W.heap.size 3 _ _ _ K13
  have q4 := cell_of_row _ W.heap.size 4 _ _ _ K13
  simp only [List.getElem?_toArray, List.getElem?_cons_zero, List.getElem?_cons_succ] at q0 q1 q2 q3 q4
  have HT4 := Lib.hid (toRule_any u _ _ w13 (HARG.out w13 HB13.out) (HLT.out w13 HB13.out) HWT.out)
  clear hb13 HH1 K13 HK12 HOM HO312
  -- the program once more
  go_wp2_with fail
  refine HT4.out.mono ?_
  rintro e w14 ⟨us, rfl, hF14, hb14⟩
  have HB14 := Lib.hid (below_step HB13.out hb14)
  have HIM2 := Lib.hid (implOld_any u us _ w14 hF14 (fun b h => h.2) HWT.out)
  have HOM14 := Lib.hid (row_kept HOM13.out hb14)
  have HO314 := Lib.hid (row_kept HO313.out hb14)
  obtain ⟨s1, j1, s2, j2, s3, j3, rfl, _, _, _⟩ := hF14
  clear hb14 HT4 q0 q1 q2 q3 q4 HOM13 HO313
  go_wp2_with fail
  refine HIM2.out.mono ?_
  rintro e w15 ⟨⟨v15, rfl, ho15⟩, hb15⟩
  obtain ⟨ah, ch, rfl⟩ := owns_shape ho15
  have HB15 := Lib.hid (below_step HB14.out hb15)
  have HOM15 := Lib.hid (row_kept HOM14.out hb15)
  have HE3 := Lib.hid (eqTxts ho15 (row_kept HO314.out hb15) HN60.out)
  clear hb15 HIM2 HOM14 HO314 ho15
  go_wp2_with fail
  refine HE3.out.mono ?_
  rintro e w16 ⟨rfl, hb16⟩
  have HB16 := Lib.hid (below_step HB15.out hb16)
  have HH2 := Lib.hid (heldStringS_any ms w5.heap.size _ w16 (by have h := row_kept HOM15.out hb16; rw [HML.out] at h ⊢; exact h) HMK.out (by rw [HML.out]; have := HN60.out; omega))
  rw [HML.out] at HH2
  clear hb16 HE3 HOM15
  go_wp2_with fail
  refine HH2.out.mono ?_
  rintro e w17 ⟨rfl, hb17⟩
  have HB17 := Lib.hid (below_step HB16.out hb17)
  clear hb17 HH2
  go_wp2
  go_ret
  exact ⟨rfl, HB17.out⟩

end Go.Proofs.YtacchpbfhoanoaaGreat.Pr

namespace Go.Proofs.YtacchpbfhoanoaaGreat
open Go Go.ChangeShapes Go.WideShapes Go.ChangeAt Go.WideMaps Go.WideElems Go.RowKit

theorem old_own : ownKnob Tryz.prog.godebug = none := by kernel_rfl

set_option maxRecDepth 100000 in
set_option maxHeartbeats 2000000 in
theorem fnExactOld_lifted (os : Os) (started : os.Started) (H : Type) (enc : TypeId × Value → H) :
    ReturnsInHanded {} Tryz.checked os 4 .any (Rows.fnExactOldSpec.pre6 enc Tryz.prog Tryz.f4 Rows.fnExactOldRow.domain false) (Rows.fnExactOldSpec.post enc Tryz.prog Tryz.f4 false true false false) := by
  refine returnsInHanded_of_change (C := Tryz.checked) old_own started (by kernel_rfl) Tryz.func4
    (ChangeSpec.witness6 (enc := enc) (C := Tryz.checked) false ⟨#[], #[.agg #[.slice none 0 0, .int .i64 0, .string ⟨#[]⟩, .slice none 0 0, .slice none 0 0]], []⟩ 16 (by kernel_rfl) (by kernel_rfl) (by kernel_rfl) (by kernel_rfl)) ?_
  intro W base args ds gs before hval0 hW _ _
  have hval : ∀ (j : Nat) t v, Tryz.f4.params[j]? = some t → args[j]? = some v → Value.okWide Tryz.prog W .any base t v := hval0
  have hW' := hW
  obtain ⟨p, q, hA0, hV, rfl, hfz, hnd⟩ := hW
  have hA : DataW.TrodAll enc Tryz.prog W 0 (fun _ => true) true Tryz.f4.params.toList args.toList ds p := hA0
  rw [Tryz.params4] at hA hval
  obtain ⟨v0, d0, rfl, rfl, h0⟩ := trodAll_one hA
  obtain ⟨rfl, rfl⟩ := trodVars_none hV
  obtain ⟨cs0, rfl, hcs0⟩ := okWide_struct Tryz.underlying28 (hval 0 28 v0 rfl rfl)
  have k0 := h0
  have lt0 : ∀ x ∈ p, x.block < W.heap.size := by obtain ⟨m, hm⟩ := k0; exact DataW.trod_lt m _ _ _ hm
  obtain ⟨u, hu, hfit⟩ : ∃ u : Pr.Ru, Pr.FRu (fun b => b < W.heap.size) W cs0.toList u ∧ u.fits := by
    obtain ⟨fuel, hf⟩ := h0
    exact Pr.open_Rule fuel _ _ hf
  clear hA0 hval0
  simp only [List.append_nil] at hW'
  refine (Pr.law_FnExactOld u cs0.toList W hu hfit).mono fun e W' ⟨he, hnx⟩ => ?_
  subst he
  refine ⟨_, rfl, _, _, _, [], p, [], hW', ?_, ?_, rfl, hnx.frame _, fun h => by cases h⟩
  · exact trodAll_mk1 (shut_bool Tryz.underlying4 _)
  · exact trodAll_mk1 (Below.trod (by kernel_rfl) (by kernel_rfl) (of_decide_eq_true (by kernel_rfl)) k0 hnx lt0)

theorem fnExactOld_row : Rows.FnExactOldSaid :=
  OpenClaim.holds_of_wide 4 Tryz.f4 rfl rfl rfl rfl rfl rfl rfl ⟨rfl, rfl, rfl, rfl, rfl⟩ rfl rfl rfl rfl rfl (by kernel_rfl) Tryz.func4 (by kernel_rfl)
    (of_decide_eq_true (by kernel_rfl)) (by unfold Func.isWrapper; first | (rw [if_pos (by decide +kernel)]; kernel_rfl) | (rw [if_neg (by decide +kernel)]; exact ⟨rfl, rfl⟩))
    (fun os started H enc _ => fnExactOld_lifted os started H enc)
#print axioms fnExactOld_row

end Go.Proofs.YtacchpbfhoanoaaGreat
