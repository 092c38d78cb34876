/-
  THE WALKS over impl.expValue and impl.ExpValue.
-/
import Derived.Test.YtcohjmbbanjjeaaGreatDoorPY1
import Derived.Test.YtcohjmbbanjjeaaGreatDoorPVB
namespace Go.Proofs.YtcohjmbbanjjeaaGreatDoor.Pr
open Go Go.RowKit Go.Maps Go.WideMaps

/-- Texts made anew, all empty. -/
theorem make_txts (w0 : World) (N : Nat) (z : Int) (hz : z = (N : Int)) (hN : N ≤ 1048576) :
    (Instr.makeSlice 29 (.int .i64 z) (.int .i64 z)).run Tryz.prog w0 = .ok (.slice (some ⟨w0.heap.size, 0, none⟩) N N) (w0.alloc (.cells (madeCells #[.string ⟨#[]⟩] N) 9)) ∧
    (w0.alloc (.cells (madeCells #[.string ⟨#[]⟩] N) 9)).ownsRow w0.heap.size 9 1 (.slice (some ⟨w0.heap.size, 0, none⟩) N N) N (outCells (fun _ => ⟨#[]⟩) N) := by
  subst hz
  obtain ⟨i0, hi0, hz0, hz1, hz2⟩ := info_parts infoStringS
  refine ⟨?_, ?_⟩
  · rw [run_make w0 29 9 i0 _ Tryz.underlying29 hi0 hz0 .i64 .i64 _ _ (by omega) (by omega) (by rw [hz2]; omega) (by omega), hz1, Int.toNat_natCast, Nat.mul_one]
    rfl
  · refine ⟨by simp [outCells], .inr ⟨w0.heap.size, N, _, rfl, Nat.le_refl _, heap_alloc_new w0 _, Nat.le_refl _, by unfold maxLen; omega, by rw [size_madeCells, Nat.mul_one], ?_⟩⟩
    rw [toList_madeCells_one, Nat.mul_one, List.take_of_length_le (by simp)]
    apply List.ext_getElem
    · simp [outCells]
    · intro i h1 h2
      simp [outCells]

/-- A row of another type is as it was when a cell of a row of texts is set. -/
theorem set_other {w : World} {b1 b2 g1 g2 n1 c1 : Nat} {t : TypeId} {xs : List Value} {N c2 : Nat} {ys : List Value} (h1 : w.ownsRow b1 t 1 (.slice (some ⟨g1, 0, none⟩) n1 c1) n1 xs) (h2 : w.ownsRow b2 9 1 (.slice (some ⟨g2, 0, none⟩) N c2) N ys) (ht : t ≠ 9) (i : Nat) (v : Value) :
    (w.setCell ⟨g2, i, none⟩ v).ownsRow b1 t 1 (.slice (some ⟨g1, 0, none⟩) n1 c1) n1 xs := by
  have hne : g1 ≠ g2 := by
    obtain ⟨cur1, _, hh1, _⟩ := own_block h1
    obtain ⟨cur2, _, hh2, _⟩ := own_block h2
    intro e
    rw [e, hh2] at hh1
    simp at hh1
    exact ht hh1.2.symm
  exact h1.kept (grown_set w g2 i v) (by simp [Value.ownBlock, hne])

def EVRel (w0 : World) (es : List It) (n G gp cp : Nat) (names vals : List ByteArray) (P : List Nat) (v : Value) (wr : World) : Prop :=
  ∃ (k : Nat) (out : Nat → ByteArray), v = .int .i64 (k : Int) ∧ k ≤ P.length ∧ runV es names vals (P.take k) = .ok out ∧ Small out ∧ wr.ownsRow w0.heap.size 9 1 (.slice (some ⟨G, 0, none⟩) (n + 1) (n + 1)) (n + 1) (outCells out (n + 1)) ∧ wr.ownsRow w0.heap.size 3 1 (.slice (some ⟨gp, 0, none⟩) P.length cp) P.length (intCells (ints P)) ∧ Below w0.heap.size w0 wr

set_option maxRecDepth 100000 in
set_option maxHeartbeats 2000000 in
theorem expValue_any (u : Ru) (n : Nat) (names vals : List ByteArray) (a1 a2 : Option Addr) (c1 c2 : Nat) (vs : List Value) (S : Nat → Prop) (w : World) (hE : Env w.heap.size w) (hF : FRu S w vs u) (hS : ∀ b, S b → b < w.heap.size) (T : TreeOk u.es) (hK : ∀ e ∈ u.es, kindOk e = true) (hn : n < u.es.length) (hw : u.wt ≤ 1048576)
    (h1 : TxtsIn S w a1 names) (h2 : TxtsIn S w a2 vals) (hnl : names.length ≤ 1048576) (hvl : vals.length ≤ 1048576) (hvs : ∀ v ∈ vals, v.size ≤ 1048576) :
    Calls Tryz.prog 23 #[.agg vs.toArray, .int .i64 (n : Int), .slice a1 names.length c1, .slice a2 vals.length c2] w (ValPost (finV u.es n names vals) w) := by
  have hF0 := hF
  obtain ⟨aes, ces, ahd, chd, abd, cbd, rfl, r0, r1, r2⟩ := hF
  have hfew := T.few
  have hb0 : Below w.heap.size w (w.alloc (.cells #[.slice aes u.es.length ces, .int .i64 u.hd.k, .string u.hd.s, .slice ahd u.hd.xs.length chd, .slice abd u.bd.length cbd] 38)) := (Below.refl _ _).alloc (Nat.le_refl _) _
  have k0 := heap_alloc_new w (.cells #[.slice aes u.es.length ces, .int .i64 u.hd.k, .string u.hd.s, .slice ahd u.hd.xs.length chd, .slice abd u.bd.length cbd] 38)
  obtain ⟨w0, hw0⟩ : ∃ w0, w.alloc (.cells #[.slice aes u.es.length ces, .int .i64 u.hd.k, .string u.hd.s, .slice ahd u.hd.xs.length chd, .slice abd u.bd.length cbd] 38) = w0 := ⟨_, rfl⟩
  rw [hw0] at hb0 k0
  obtain ⟨hmk, hown0⟩ := make_txts w0 (n + 1) ((n : Int) + 1) (by omega) (by omega)
  have hb1 := (Below.refl w0.heap.size w0).alloc (Nat.le_refl _) (Obj.cells (madeCells #[.string ⟨#[]⟩] (n + 1)) 9)
  obtain ⟨G, hG⟩ : ∃ G, w0.heap.size = G := ⟨_, rfl⟩
  obtain ⟨w1, hw1⟩ : ∃ w1, w0.alloc (.cells (madeCells #[.string ⟨#[]⟩] (n + 1)) 9) = w1 := ⟨_, rfl⟩
  rw [hw1] at hmk hown0 hb1
  have K1 := (hb1.block _ (lt_of_block k0)).trans k0
  have q0 := cell_of_row _ w.heap.size 0 _ _ _ K1
  have q1 := cell_of_row _ w.heap.size 1 _ _ _ K1
  have q2 := cell_of_row _ w.heap.size 2 _ _ _ K1
  have q3 := cell_of_row _ w.heap.size 3 _ _ _ K1
  have q4 := cell_of_row _ w.heap.size 4 _ _ _ K1
  simp only [List.getElem?_toArray, List.getElem?_cons_zero, List.getElem?_cons_succ] at q0 q1 q2 q3 q4
  have hb01 := below_step hb0 hb1
  have HPO := Lib.hid (partsOf_any u n _ S w1 (FRu_keeps.1 _ _ _ _ _ hF0 (Same.below hS hb01)) (fun b h => Nat.lt_of_lt_of_le (hS b h) hb01.size) T hn)
  have HIN := Lib.hid (fun (m : Nat) (hm : m ∈ parts u.es allE n) => ((mem_parts T hn).1 hm).le T hn)
  rw [hG] at hmk
  rw [show (⟨w0.heap.size, 0, none⟩ : Addr) = ⟨G, 0, none⟩ from by rw [hG]] at hown0
  have hlw : ∀ x ∈ u.es, x.s.size ≤ 1048576 := fun x hx => by
    have h1 := wsum_mem It.wt hx
    unfold Ru.wt wtExpS at hw
    have h2 : x.s.size ≤ x.wt := by unfold It.wt; omega
    omega
  have HOW0 := Lib.hid hown0
  have HBW1 := Lib.hid hb1
  have HE := Lib.hid hE
  have HR0 := Lib.hid r0
  have HS := Lib.hid hS
  have HT := Lib.hid T
  have HK := Lib.hid hK
  have H1 := Lib.hid h1
  have H2 := Lib.hid h2
  have HVS := Lib.hid hvs
  have HB0 := Lib.hid hb0
  have HK0 := Lib.hid k0
  have HLW := Lib.hid hlw
  have HGG := Lib.hid hG
  clear hF0 r0 r1 r2 hS hb0 k0 K1 hb01 T hK h1 h2 hvs hE hown0 hb1 hw hlw hG
  go_enter Tryz.func23, Tryz.ntmps23
  go_wp2_with fail
  refine HPO.out.mono ?_
  rintro e w2 ⟨⟨gp, cp, rfl, hrow⟩, hb2⟩
  clear HPO q0 q1 q2 q3 q4 hmk
  have HST := Lib.hid (show EVRel w0 u.es n G gp cp names vals (parts u.es allE n) (.int .i64 0) w2 from ⟨0, fun _ => ⟨#[]⟩, rfl, Nat.zero_le _, by rfl, small_start, row_kept HOW0.out hb2, owns_mono HBW1.out.size hrow, below_step HBW1.out hb2⟩)
  obtain ⟨P, hP⟩ : ∃ P, parts u.es allE n = P := ⟨_, rfl⟩
  rw [hP] at HST HIN ⊢
  have hPl : P.length ≤ 60 := by
    rw [← hP]
    unfold parts
    refine Nat.le_trans (List.length_filter_le _ _) ?_
    have := HT.out.few
    simp; omega
  have HPP := Lib.hid hP
  clear hrow hb2 HOW0 HBW1 hP
  go_wp2
  go_loopw [22] (fun v wr => EVRel w0 u.es n G gp cp names vals P v wr) (fun v _ => (P.length - (intOf v).toNat))
  case atStart => exact HST.out
  case round =>
    obtain ⟨k, out, rfl, hk, hrun, hsm, hown, hpr, hb⟩ := hrel
    clear HST
    have hbb := below_step HB0.out hb
    by_cases hlt : k < P.length
    · have hmn := HIN.out P[k] (List.getElem_mem hlt)
      have y0 : wr.cell? ⟨gp, k, none⟩ = some (.int .i64 (P[k] : Int)) := by
        rw [hpr.cellAt k (by omega)]
        simp [intCells, ints, hlt]
      have htk : P.take (k + 1) = P.take k ++ [P[k]] := List.take_succ_eq_append_getElem hlt
      have hdr : P.take (k + 1) ++ P.drop (k + 1) = P := List.take_append_drop _ _
      obtain ⟨m, hmm⟩ : ∃ m, P[k] = m := ⟨_, rfl⟩
      rw [hmm] at hmn y0 htk
      have hml : m < u.es.length := by omega
      have K1 := (hb.block _ (lt_of_block HK0.out)).trans HK0.out
      have q0 := cell_of_row _ w.heap.size 0 _ _ _ K1
      simp only [List.getElem?_toArray, List.getElem?_cons_zero] at q0
      obtain ⟨b, off, vs, ha, hSb, hvn, hcc, axs, cxs, rfl, hI⟩ := RowIn.kept FIt_keeps HR0.out (Same.below HS.out hbb) m hml
      subst ha
      have x0 : wr.cell? ⟨b, off + m * 3, none⟩ = some (.int .i64 u.es[m].k) := hcc 0 (by simp)
      have x1 : wr.cell? ⟨b, off + m * 3 + 1, none⟩ = some (.string u.es[m].s) := hcc 1 (by simp)
      have x2 : wr.cell? ⟨b, off + m * 3 + 2, none⟩ = some (.slice axs u.es[m].xs.length cxs) := hcc 2 (by simp)
      have hkd := HK.out _ (List.getElem_mem hml)
      have hkids := HT.out.kid m hml
      have hkl := kids_len HT.out hml
      have hxs := HLW.out _ (List.getElem_mem hml)
      rw [← expAt_lt hml] at x0 x1 x2 hxs hkd hI
      have HPV := Lib.hid (partValue_any (expAt u.es m) out names vals (n + 1) G w0.heap.size axs a1 a2 cxs c1 c2 S wr (HE.out.stays hbb).top hI (H1.out.kept (Same.below HS.out hbb)) (H2.out.kept (Same.below HS.out hbb)) (fun b h => Nat.lt_of_lt_of_le (HS.out b h) hbb.size) hown (by omega) hsm hkd (fun y hy => by have := hkids y hy; omega) hkl hxs hnl hvl)
      have hps := partV_size (names := names) (kids := kidsV out (expAt u.es m)) HVS.out hxs
      have HSTEP := Lib.hid (fun (w3 : World) (h3 : Below wr.heap.size wr w3) (v : ByteArray) (hp : partV names vals (expAt u.es m) (kidsV out (expAt u.es m)) = (v, 0)) => (⟨k + 1, upd out m v, by go_num, by omega, by rw [htk]; exact runV_ok hrun hp, hsm.upd m (by have := hps (by rw [hp]); rw [hp] at this; exact this), by
          have := owns_set (row_kept hown h3) (show m < n + 1 by omega) (.string v)
          rw [outCells_set] at this
          exact this, set_other (row_kept hpr h3) (row_kept hown h3) (by decide) m _, below_set (below_step hb h3) m _ (by have := HGG.out; omega)⟩ : EVRel w0 u.es n G gp cp names vals P (.int .i64 ((k : Int) + 1)) (w3.setCell ⟨G, m, none⟩ (.string v))))
      have HCELL := Lib.hid (fun (w3 : World) (h3 : Below wr.heap.size wr w3) => And.intro (outCell (row_kept hown h3) (show m < n + 1 by omega)) (row_frozen (row_kept hown h3) m))
      have HRET := Lib.hid (fun (w3 : World) (h3 : Below wr.heap.size wr w3) (c : Int) (hp : (partV names vals (expAt u.es m) (kidsV out (expAt u.es m))).2 = c) (hc : c ≠ 0) => (⟨by
          have e1 := runV_stop (Q := P.drop (k + 1)) (by rw [htk]; exact runV_bad hrun hp hc : runV u.es names vals (P.take (k + 1)) = .error c)
          rw [hdr, ← HPP.out] at e1
          rw [finV_error e1], below_step hbb h3⟩ : ValPost (finV u.es n names vals) w (.returned (.tuple #[.string ⟨#[]⟩, .int .i64 c])) w3))
      clear hrun hsm hown hpr hb hbb htk hdr hmm K1 hSb hvn hcc hI hkd hkids hkl hps
      obtain ⟨A, hA⟩ : ∃ A, partV names vals (expAt u.es m) (kidsV out (expAt u.es m)) = A := ⟨_, rfl⟩
      rw [hA] at HPV HSTEP HRET
      clear hA
      obtain ⟨A1, A2⟩ := A
      obtain ⟨x, hx⟩ : ∃ x, expAt u.es m = x := ⟨_, rfl⟩
      rw [hx] at x0 x1 x2 HPV
      clear hx hxs
      go_wp2_with fail
      refine HPV.out.mono ?_
      rintro e w3 ⟨rfl, hb3⟩
      obtain ⟨cc, cf⟩ := HCELL.out w3 hb3
      by_cases hc : A2 = 0
      · subst hc
        have HR := Lib.hid (HSTEP.out w3 hb3 A1 rfl)
        clear HPV HSTEP HRET HCELL hb3 x0 x1 x2 q0 y0
        go_wp2
        go_roundw
        case rel => exact HR.out
        case measure => (simp [intOf] <;> omega)
      · have HR := Lib.hid (HRET.out w3 hb3 A2 rfl hc)
        have hcb : (A2 != 0) = true := by simpa using hc
        clear HPV HSTEP HRET HCELL hb3 x0 x1 x2 q0 y0 hc
        go_wp2
        go_ret2
        exact HR.out
    · obtain rfl : k = P.length := by omega
      have hd : decide ((P.length : Int) < (P.length : Int)) = false := by simp
      rw [List.take_length, ← HPP.out] at hrun
      have c0 := outCell hown (show n < n + 1 by omega)
      have HRUN := Lib.hid hrun
      have HBB := Lib.hid hbb
      have HTK := Lib.hid (implTermKind (out n) (by have := hsm n; omega) wr (HE.out.stays hbb).top)
      have hon := outCell hown (show n < n + 1 by omega)
      have hgl : G < wr.heap.size := cell_lt c0
      clear hrun hsm hown hpr hb hbb
      obtain ⟨o, ho⟩ : ∃ o, out n = o := ⟨_, rfl⟩
      rw [ho] at c0 HTK
      go_wp2_with fail
      refine HTK.out.mono ?_
      rintro e w3 ⟨rfl, hb3⟩
      have c3 := (hb3.cell (p := ⟨G, n, none⟩) hgl).trans c0
      by_cases hz : iKind (bts o) = 0
      · have HR := Lib.hid (show ValPost (finV u.es n names vals) w (.returned (.tuple #[.string ⟨#[]⟩, .int .i64 2])) w3 from ⟨by rw [finV_over HRUN.out (by rw [ho]; exact hz)], below_step HBB.out hb3⟩)
        have hz2 : iKind (Go.Proofs.YtcohjmbbanjjeaaGreatDoor.lst o) = 0 := hz
        rw [hz2]
        clear hz hz2 hb3 HTK HRUN ho c0 hon
        go_wp2
        go_ret2
        exact HR.out
      · have HR := Lib.hid (show ValPost (finV u.es n names vals) w (.returned (.tuple #[.string o, .int .i64 0])) w3 from ⟨by rw [finV_ok HRUN.out (by rw [ho]; exact hz), ho], below_step HBB.out hb3⟩)
        have hzb : (iKind (Go.Proofs.YtcohjmbbanjjeaaGreatDoor.lst o) == 0) = false := beq_eq_false_iff_ne.2 hz
        clear hz hb3 HTK HRUN ho c0 hon
        generalize iKind (Go.Proofs.YtcohjmbbanjjeaaGreatDoor.lst o) = kd at *
        go_wp2
        go_ret2
        exact HR.out

end Go.Proofs.YtcohjmbbanjjeaaGreatDoor.Pr
