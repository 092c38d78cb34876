/-
  THE WALKS over spec.l06Value, spec.ExpValue, impl.ExpValue.
-/
import Derived.Test.YtcohjmbbanjjeaaGreatDoorPY4
namespace Go.Proofs.YtcohjmbbanjjeaaGreatDoor.Pr
open Go Go.RowKit Go.Maps Go.WideMaps

def LVRel (w0 : World) (es : List It) (n go gf : Nat) (names vals : List ByteArray) (bs : List Bool) (v : Value) (wr : World) : Prop :=
  ∃ (i : Nat) (out : Nat → ByteArray), v = .int .i64 (i : Int) ∧ i ≤ n + 1 ∧ runV es names vals (partsTo es n i) = .ok out ∧ Small out ∧ wr.ownsRow w0.heap.size 9 1 (.slice (some ⟨go, 0, none⟩) es.length es.length) es.length (outCells out es.length) ∧ wr.ownsRow w0.heap.size 4 1 (.slice (some ⟨gf, 0, none⟩) es.length es.length) es.length (flagCells bs) ∧ Below w0.heap.size w0 wr

/-- The least place that has this name and a value, of those from k on. -/
def AtRel (w1 : World) (names vals : List ByteArray) (s : ByteArray) (v10 v11 : Value) (wr : World) : Prop :=
  ∃ (k : Nat) (r z : Int), v11 = .int .i64 z ∧ z + 1 = (k : Int) ∧ v10 = .int .i64 r ∧ k ≤ names.length ∧ ((r = -1 ∧ ∀ j, k ≤ j → j < vals.length → names[j]? ≠ some s) ∨ ∃ q : Nat, r = (q : Int) ∧ q < vals.length ∧ names[q]? = some s ∧ ∀ j, k ≤ j → j < q → names[j]? ≠ some s) ∧ Below w1.heap.size w1 wr

theorem partsTo_error {es : List It} {names vals : List ByteArray} {n i : Nat} {c : Int} (hi : i ≤ n) (h : runV es names vals (partsTo es n (i + 1)) = .error c) : runV es names vals (parts es allE n) = .error c := by
  have key : ∀ d, runV es names vals (partsTo es n (i + 1 + d)) = .error c := by
    intro d
    induction d with
    | zero => exact h
    | succ d ih =>
      by_cases hin : In es allE n (i + 1 + d)
      · rw [← Nat.add_assoc, partsTo_in hin]; exact runV_stop ih
      · rw [← Nat.add_assoc, partsTo_out hin]; exact ih
  have := key (n - i)
  rw [show i + 1 + (n - i) = n + 1 by omega] at this
  exact this

theorem numAns_cases (l : List UInt8) : ∃ (p : Int) (ok : Bool), numAns l = .returned (.tuple #[.int .i64 p, .bool ok]) ∧ ((ok = true ∧ numOf l = some p) ∨ (ok = false ∧ numOf l = none)) := by
  unfold numAns
  cases h : numOf l with
  | none => exact ⟨0, false, rfl, .inr ⟨rfl, rfl⟩⟩
  | some n => exact ⟨n, true, rfl, .inl ⟨rfl, rfl⟩⟩

set_option maxRecDepth 100000 in
set_option maxHeartbeats 8000000 in
theorem specValue_any (u : Ru) (n : Nat) (names vals : List ByteArray) (a1 a2 : Option Addr) (c1 c2 : Nat) (vs : List Value) (S : Nat → Prop) (w : World) (hF : FRu S w vs u) (hS : ∀ b, S b → b < w.heap.size) (T : TreeOk u.es) (hK : ∀ e ∈ u.es, kindOk e = true) (hn : n < u.es.length) (hw : u.wt ≤ 1048576)
    (h1 : TxtsIn S w a1 names) (h2 : TxtsIn S w a2 vals) (hnl : names.length ≤ 1048576) (hvl : vals.length ≤ 1048576) (hvs : ∀ v ∈ vals, v.size ≤ 1048576) :
    Calls Tryz.prog 17 #[.agg vs.toArray, .int .i64 (n : Int), .slice a1 names.length c1, .slice a2 vals.length c2] w (ValPost (finV u.es n names vals) w) := by
  have hF0 := hF
  obtain ⟨aes, ces, ahd, chd, abd, cbd, rfl, r0, r1, r2⟩ := hF
  have hfew := T.few
  have hb0 : Below w.heap.size w (w.alloc (.cells #[.slice aes u.es.length ces, .int .i64 u.hd.k, .string u.hd.s, .slice ahd u.hd.xs.length chd, .slice abd u.bd.length cbd] 38)) := (Below.refl _ _).alloc (Nat.le_refl _) _
  have k0 := heap_alloc_new w (.cells #[.slice aes u.es.length ces, .int .i64 u.hd.k, .string u.hd.s, .slice ahd u.hd.xs.length chd, .slice abd u.bd.length cbd] 38)
  obtain ⟨w0, hw0⟩ : ∃ w0, w.alloc (.cells #[.slice aes u.es.length ces, .int .i64 u.hd.k, .string u.hd.s, .slice ahd u.hd.xs.length chd, .slice abd u.bd.length cbd] 38) = w0 := ⟨_, rfl⟩
  rw [hw0] at hb0 k0
  have q0 := cell_of_row _ w.heap.size 0 _ _ _ k0
  have q1 := cell_of_row _ w.heap.size 1 _ _ _ k0
  have q2 := cell_of_row _ w.heap.size 2 _ _ _ k0
  have q3 := cell_of_row _ w.heap.size 3 _ _ _ k0
  have q4 := cell_of_row _ w.heap.size 4 _ _ _ k0
  simp only [List.getElem?_toArray, List.getElem?_cons_zero, List.getElem?_cons_succ] at q0 q1 q2 q3 q4
  have HWI := Lib.hid (specWithin_any u n _ S _ (FRu_keeps.1 _ _ _ _ _ hF0 (Same.below hS hb0)) (fun b h => Nat.lt_of_lt_of_le (hS b h) hb0.size) T hn)
  have hlw : ∀ x ∈ u.es, x.s.size ≤ 1048576 := fun x hx => by
    have h1 := wsum_mem It.wt hx
    unfold Ru.wt wtExpS at hw
    have h2 : x.s.size ≤ x.wt := by unfold It.wt; omega
    omega
  have HR0 := Lib.hid r0
  have HS := Lib.hid hS
  have HT := Lib.hid T
  have HK := Lib.hid hK
  have H1 := Lib.hid h1
  have H2 := Lib.hid h2
  have HVS := Lib.hid hvs
  have HB0 := Lib.hid hb0
  have HK0 := Lib.hid k0
  have HLW := Lib.hid hlw
  clear hF0 r0 r1 r2 hS hb0 k0 T hK h1 h2 hvs hw hlw
  go_enter Tryz.func17, Tryz.ntmps17
  go_wp2_with fail
  refine HWI.out.mono ?_
  rintro e w1 ⟨⟨gf, bs, rfl, hW, hflg⟩, hb1⟩
  clear HWI q0 q1 q2 q3 q4
  have K1 := (hb1.block _ (lt_of_block HK0.out)).trans HK0.out
  have q0 := cell_of_row _ w.heap.size 0 _ _ _ K1
  simp only [List.getElem?_toArray, List.getElem?_cons_zero] at q0
  obtain ⟨hmk, hown0⟩ := make_txts w1 u.es.length (u.es.length : Int) rfl (by omega)
  have hb2 := (Below.refl w1.heap.size w1).alloc (Nat.le_refl _) (Obj.cells (madeCells #[.string ⟨#[]⟩] u.es.length) 9)
  obtain ⟨G, hG⟩ : ∃ G, w1.heap.size = G := ⟨_, rfl⟩
  obtain ⟨w2, hw2⟩ : ∃ w2, w1.alloc (.cells (madeCells #[.string ⟨#[]⟩] u.es.length) 9) = w2 := ⟨_, rfl⟩
  rw [hw2] at hmk hown0 hb2
  have HFIN := Lib.hid (fun j => hW.fin j)
  have HWL := Lib.hid hW.len
  have hG0 : w0.heap.size ≤ G := by have := hb1.size; omega
  have hst : LVRel w0 u.es n w1.heap.size gf names vals bs (.int .i64 0) w2 := ⟨0, fun _ => ⟨#[]⟩, rfl, Nat.zero_le _, by rfl, small_start, owns_mono hb1.size hown0, row_kept hflg hb2, below_step hb1 hb2⟩
  rw [hG] at hst hmk
  have HST := Lib.hid hst
  have HGG := Lib.hid hG0
  clear hst hown0 hb2 hW hflg hb1 K1 hG0
  go_wp2
  go_loopw [12] (fun v wr => LVRel w0 u.es n G gf names vals bs v wr) (fun v _ => (n + 1 - (intOf v).toNat))
  case atStart => exact HST.out
  case round =>
    obtain ⟨i, out, rfl, hi, hrun, hsm, hown, hflg, hb⟩ := hrel
    clear HST q0 hmk
    have hbb := below_step HB0.out hb
    by_cases hlt : i ≤ n
    · have hil : i < u.es.length := by omega
      have hd : decide ((i : Int) ≤ (n : Int)) = true := decide_eq_true (by omega)
      have K1 := (hb.block _ (lt_of_block HK0.out)).trans HK0.out
      have q0 := cell_of_row _ w.heap.size 0 _ _ _ K1
      simp only [List.getElem?_toArray, List.getElem?_cons_zero] at q0
      obtain ⟨b, off, vs, ha, hSb, hvn, hcc, axs, cxs, rfl, hI⟩ := RowIn.kept FIt_keeps HR0.out (Same.below HS.out hbb) i hil
      subst ha
      have x0 : wr.cell? ⟨b, off + i * 3, none⟩ = some (.int .i64 u.es[i].k) := hcc 0 (by simp)
      have x1 : wr.cell? ⟨b, off + i * 3 + 1, none⟩ = some (.string u.es[i].s) := hcc 1 (by simp)
      have x2 : wr.cell? ⟨b, off + i * 3 + 2, none⟩ = some (.slice axs u.es[i].xs.length cxs) := hcc 2 (by simp)
      have hkd := HK.out _ (List.getElem_mem hil)
      have hkids := HT.out.kid i hil
      have hkl := kids_len HT.out hil
      have hxs := HLW.out _ (List.getElem_mem hil)
      rw [← expAt_lt hil] at x0 x1 x2 hxs hkd hI
      have cm := boolAt hflg HWL.out i hil
      have hin : bs.getD i false = true ↔ In u.es allE n i := by
        rw [← HFIN.out i, List.getD_eq_getElem?_getD]
        cases bs[i]? with
        | none => simp
        | some v => simp
      have hps := partV_size (names := names) (kids := kidsV out (expAt u.es i)) HVS.out hxs
      have HSKIP := Lib.hid (fun (w3 : World) (h3 : Below wr.heap.size wr w3) (h : ¬ In u.es allE n i) => (⟨i + 1, out, by go_num, by omega, by rw [partsTo_out h]; exact hrun, hsm, row_kept hown h3, row_kept hflg h3, below_step hb h3⟩ : LVRel w0 u.es n G gf names vals bs (.int .i64 ((i : Int) + 1)) w3))
      have HSTEP := Lib.hid (fun (hI : In u.es allE n i) (w3 : World) (h3 : Below wr.heap.size wr w3) (v : ByteArray) (hp : partV names vals (expAt u.es i) (kidsV out (expAt u.es i)) = (v, 0)) => (⟨i + 1, upd out i v, by go_num, by omega, by rw [partsTo_in hI]; exact runV_ok hrun hp, hsm.upd i (by have := hps (by rw [hp]); rw [hp] at this; exact this), by
          have := owns_set (row_kept hown h3) hil (.string v)
          rw [outCells_set] at this
          exact this, set_other (row_kept hflg h3) (row_kept hown h3) (by decide) i _, below_set (below_step hb h3) i _ HGG.out⟩ : LVRel w0 u.es n G gf names vals bs (.int .i64 ((i : Int) + 1)) (w3.setCell ⟨G, i, none⟩ (.string v))))
      have HRET := Lib.hid (fun (hI : In u.es allE n i) (w3 : World) (h3 : Below wr.heap.size wr w3) (c : Int) (hp : (partV names vals (expAt u.es i) (kidsV out (expAt u.es i))).2 = c) (hc : c ≠ 0) => (⟨by
          rw [finV_error (partsTo_error hlt (by rw [partsTo_in hI]; exact runV_bad hrun hp hc))], below_step hbb h3⟩ : ValPost (finV u.es n names vals) w (.returned (.tuple #[.string ⟨#[]⟩, .int .i64 c])) w3))
      have HCELL := Lib.hid (fun (w3 : World) (h3 : Below wr.heap.size wr w3) => And.intro (outCell (row_kept hown h3) hil) (row_frozen (row_kept hown h3) i))
      have HOC := Lib.hid (fun (w3 : World) (h3 : Below wr.heap.size wr w3) (y : Nat) (hy : y < u.es.length) => outCell (row_kept hown h3) hy)
      have HNA := Lib.hid (fun (w3 : World) (h3 : Below wr.heap.size wr w3) => And.intro (H1.out.kept (Same.below HS.out (below_step hbb h3))) (H2.out.kept (Same.below HS.out (below_step hbb h3))))
      have HIK := Lib.hid (fun (w3 : World) (h3 : Below wr.heap.size wr w3) => hI.kept (Same.below (fun b h => Nat.lt_of_lt_of_le (HS.out b h) hbb.size) h3))
      have HKC := Lib.hid (fun (w3 : World) (h3 : Below wr.heap.size wr w3) => (h3.cell (p := ⟨w.heap.size, 0, none⟩) (lt_of_block K1)).trans q0)
      have HKIDS := Lib.hid (fun (j : Nat) (h : j < (expAt u.es i).xs.length) => (by
          have e := hkids (expAt u.es i).xs[j] (List.getElem_mem h)
          refine ⟨(expAt u.es i).xs[j].toNat, by omega, by omega, ?_⟩
          simp [kidsV, h] : ∃ y : Nat, (expAt u.es i).xs[j] = (y : Int) ∧ y < u.es.length ∧ (kidsV out (expAt u.es i))[j]? = some (out y)))
      have HKVL := Lib.hid (kidsV_len out (expAt u.es i))
      have HSM := Lib.hid hsm
      have HIN := Lib.hid hin
      have HKD := Lib.hid (kind_cases hkd)
      clear hrun hsm hown hflg hb K1 hSb hvn hcc hI hkd hkids hps hin
      obtain ⟨x, hx⟩ : ∃ x, expAt u.es i = x := ⟨_, rfl⟩
      rw [hx] at x0 x1 x2 HSTEP HRET HIK HKIDS HKVL HKD hxs hkl
      clear hx
      have hbE : Below wr.heap.size wr (wr.alloc (.cells #[.int .i64 x.k, .string x.s, .slice axs x.xs.length cxs] 67)) := (Below.refl _ _).alloc (Nat.le_refl _) _
      have kE := heap_alloc_new wr (.cells #[.int .i64 x.k, .string x.s, .slice axs x.xs.length cxs] 67)
      have cmE := (hbE.cell (p := ⟨gf, i, none⟩) (cell_lt cm)).trans cm
      obtain ⟨wE, hwE⟩ : ∃ wE, wr.alloc (.cells #[.int .i64 x.k, .string x.s, .slice axs x.xs.length cxs] 67) = wE := ⟨_, rfl⟩
      rw [hwE] at hbE kE cmE
      have HBE := Lib.hid hbE
      have HKE := Lib.hid kE
      clear hbE kE cm
      by_cases hbi : bs.getD i false = true
      · rw [hbi] at cmE
        have HII := Lib.hid (HIN.out.1 hbi)
        clear HIN hbi
        obtain ⟨N1, N2⟩ := HNA.out _ HBE.out
        have HN1 := Lib.hid N1
        have HN2 := Lib.hid N2
        obtain ⟨cc, cf⟩ := HCELL.out _ HBE.out
        have HSE := Lib.hid (show ∀ b, S b → b < wE.heap.size from fun b h => Nat.lt_of_lt_of_le (HS.out b h) (below_step hbb HBE.out).size)
        clear N1 N2 HSKIP
        rcases HKD.out with h | h | h | h | ⟨h5, h7, h2⟩
        · -- a name
          have HP := Lib.hid (partV_1 (names := names) (vals := vals) (kids := kidsV out x) h)
          obtain ⟨EB, hEB⟩ : ∃ EB, wr.heap.size = EB := ⟨_, rfl⟩
          have HEL := Lib.hid (show EB < wE.heap.size from hEB ▸ lt_of_block HKE.out)
          have e0 := cell_of_row _ wr.heap.size 0 _ _ _ HKE.out
          have e1 := cell_of_row _ wr.heap.size 1 _ _ _ HKE.out
          rw [hEB] at e0 e1
          simp only [List.getElem?_toArray, List.getElem?_cons_zero, List.getElem?_cons_succ] at e0 e1
          clear HKD HKIDS HKVL hkl
          generalize x.k = xk at *
          subst h
          go_wp2
          go_loopw [14, 15] (fun v10 v11 wq => AtRel wE names vals x.s v10 v11 wq) (fun _ v11 _ => (intOf v11 + 1).toNat)
          case atStart => exact ⟨names.length, -1, (names.length : Int) - 1, rfl, by omega, rfl, Nat.le_refl _, .inl ⟨rfl, fun j h1 h2 => by rw [List.getElem?_eq_none (by omega)]; simp⟩, Below.refl _ _⟩
          case round =>
            obtain ⟨k, r, z, rfl, hz, rfl, hk, hor, hbq⟩ := hrel
            have d0 := (hbq.cell (p := ⟨EB, 0, none⟩) HEL.out).trans e0
            have d1 := (hbq.cell (p := ⟨EB, 1, none⟩) HEL.out).trans e1
            have HBQ := Lib.hid hbq
            clear e0 e1 cc cf
            by_cases hz0 : 0 ≤ z
            · obtain ⟨j, rfl⟩ := Int.eq_ofNat_of_zero_le hz0
              obtain rfl : k = j + 1 := by omega
              obtain ⟨b1, o1, ha1, hSb1, cn⟩ := HN1.out.kept (Same.below HSE.out hbq) j (by omega)
              have hgj : names[j]? = some names[j] := by simp [show j < names.length by omega]
              obtain ⟨nm, hnm⟩ : ∃ nm, names[j] = nm := ⟨_, rfl⟩
              rw [hnm] at cn hgj
              subst ha1
              have HOR := Lib.hid hor
              have HGJ := Lib.hid hgj
              clear hor hgj hnm hSb1 hbq HSTEP HRET HCELL HOC HNA HIK HKC
              by_cases he : nm = x.s
              · have hee : (nm.toList == x.s.toList) = true := by rw [he]; simp
                have HHE := Lib.hid he
                clear he
                by_cases hv : j < vals.length
                · have hd2 : decide ((j : Int) < (vals.length : Int)) = true := decide_eq_true (by omega)
                  have hd3 : decide (j < vals.length) = true := decide_eq_true hv
                  have HRR := Lib.hid (fun (W : World) (hW : Below wE.heap.size wE W) => (⟨j, (j : Int), (j : Int) - 1, by first | rfl | go_num, by omega, rfl, by omega, .inr ⟨j, rfl, hv, by rw [HGJ.out, HHE.out], fun i h1 h2 => by omega⟩, hW⟩ : AtRel wE names vals x.s (.int .i64 (j : Int)) (.int .i64 ((j : Int) - 1)) W))
                  go_wp2
                  go_quiet (fail)
                  go_wp2
                  go_roundw
                  case rel => exact HRR.out _ (below_drewN HBQ.out _)
                  case measure => (simp [intOf] <;> omega)
                · have hd2 : decide ((j : Int) < (vals.length : Int)) = false := decide_eq_false (by omega)
                  have hd3 : decide (j < vals.length) = false := decide_eq_false hv
                  have HRR := Lib.hid (fun (W : World) (hW : Below wE.heap.size wE W) => (⟨j, r, (j : Int) - 1, by first | rfl | go_num, by omega, rfl, by omega, (by
                    rcases HOR.out with ⟨h1, h2⟩ | ⟨q, h1, h2, h3, h4⟩
                    · exact .inl ⟨h1, fun i h5 h6 => h2 i (by omega) h6⟩
                    · exact .inr ⟨q, h1, h2, h3, fun i h5 h6 => h4 i (by omega) h6⟩), hW⟩ : AtRel wE names vals x.s (.int .i64 r) (.int .i64 ((j : Int) - 1)) W))
                  go_wp2
                  go_quiet (fail)
                  go_wp2
                  go_roundw
                  case rel => exact HRR.out _ (below_drewN HBQ.out _)
                  case measure => (simp [intOf] <;> omega)
              · have hee : (nm.toList == x.s.toList) = false := txt_ne he
                have HRR := Lib.hid (fun (W : World) (hW : Below wE.heap.size wE W) => (⟨j, r, (j : Int) - 1, by first | rfl | go_num, by omega, rfl, by omega, (by
                    have hj : names[j]? ≠ some x.s := by rw [HGJ.out]; simpa using he
                    rcases HOR.out with ⟨h1, h2⟩ | ⟨q, h1, h2, h3, h4⟩
                    · exact .inl ⟨h1, fun i h5 h6 => by
                        by_cases hij : i = j
                        · rw [hij]; exact hj
                        · exact h2 i (by omega) h6⟩
                    · exact .inr ⟨q, h1, h2, h3, fun i h5 h6 => by
                        by_cases hij : i = j
                        · rw [hij]; exact hj
                        · exact h4 i (by omega) h6⟩), hW⟩ : AtRel wE names vals x.s (.int .i64 r) (.int .i64 ((j : Int) - 1)) W))
                clear he
                go_wp2
                go_quiet (fail)
                go_wp2
                go_roundw
                case rel => exact HRR.out _ (below_drewN HBQ.out _)
                case measure => (simp [intOf] <;> omega)
            · obtain rfl : k = 0 := by omega
              obtain rfl : z = -1 := by omega
              have hB := below_keep HBE.out hbq
              rcases hor with ⟨rfl, hno⟩ | ⟨q, rfl, hql, hqn, hqa⟩
              · have HR := Lib.hid (HRET.out HII.out wr hB 1 (by rw [HP.out]; unfold nameV; rw [lookV_none (fun k hk => hno k (by omega) hk)]) (by decide))
                clear HSTEP HRET HCELL HOC HNA HIK HKC hno hB hbq
                go_wp2
                go_ret2
                exact HR.out
              · have hvq : vals[q]? = some vals[q] := by simp [hql]
                have HR := Lib.hid (HSTEP.out HII.out wr hB vals[q] (by rw [HP.out]; unfold nameV; rw [lookV_some hqn (fun j hj => hqa j (by omega) hj), hvq]))
                obtain ⟨b2, o2, ha2, hSb2, cv⟩ := HN2.out.kept (Same.below HSE.out hbq) q hql
                obtain ⟨cc, cf⟩ := HCELL.out _ hB
                obtain ⟨vq, hvv⟩ : ∃ vq, vals[q] = vq := ⟨_, rfl⟩
                rw [hvv] at cv HR
                subst ha2
                clear HSTEP HRET HCELL HOC HNA HIK HKC hB hbq hvv hvq hqa hqn hSb2
                go_wp2
                go_roundw
                case rel => exact HR.out
                case measure => (simp [intOf] <;> omega)
        · -- any
          have HP := Lib.hid (partV_2 (names := names) (vals := vals) (kids := kidsV out x) h)
          have e0 := cell_of_row _ wr.heap.size 0 _ _ _ HKE.out
          simp only [List.getElem?_toArray, List.getElem?_cons_zero, List.getElem?_cons_succ] at e0
          have HR := Lib.hid (HRET.out HII.out wE HBE.out 1 (by rw [HP.out]) (by decide))
          clear HKD HKIDS HKVL hkl HSTEP HRET HCELL HOC HNA HIK HKC
          generalize x.k = xk at *
          subst h
          go_wp2
          go_ret2
          exact HR.out
        · -- a term
          have HP := Lib.hid (partV_3 (names := names) (vals := vals) (kids := kidsV out x) h)
          have e0 := cell_of_row _ wr.heap.size 0 _ _ _ HKE.out
          have e1 := cell_of_row _ wr.heap.size 1 _ _ _ HKE.out
          simp only [List.getElem?_toArray, List.getElem?_cons_zero, List.getElem?_cons_succ] at e0 e1
          have HR := Lib.hid (HSTEP.out HII.out wE HBE.out x.s HP.out)
          clear HKD HKIDS HKVL hkl HSTEP HRET HCELL HOC HNA HIK HKC
          generalize x.k = xk at *
          subst h
          go_wp2
          go_roundw
          case rel => exact HR.out
          case measure => (simp [intOf] <;> omega)
        · -- a constructor
          have HP := Lib.hid (partV_4 (names := names) (vals := vals) (kids := kidsV out x) h)
          obtain ⟨EB, hEB⟩ : ∃ EB, wr.heap.size = EB := ⟨_, rfl⟩
          have HEL := Lib.hid (show EB < wE.heap.size from hEB ▸ lt_of_block HKE.out)
          have e0 := cell_of_row _ wr.heap.size 0 _ _ _ HKE.out
          have e1 := cell_of_row _ wr.heap.size 1 _ _ _ HKE.out
          have e2 := cell_of_row _ wr.heap.size 2 _ _ _ HKE.out
          rw [hEB] at e0 e1 e2
          simp only [List.getElem?_toArray, List.getElem?_cons_zero, List.getElem?_cons_succ] at e0 e1 e2
          have hnr := nil_row wE _ rfl
          have HNR := Lib.hid (show KidsRel wE (kidsV out x) (.slice (some ⟨wE.heap.size, 0, none⟩) 0 0) (.int .i64 0) (wE.alloc (.cells #[] 9)) from ⟨0, rfl, Nat.zero_le _, hnr, (Below.refl _ _).alloc (Nat.le_refl _) _⟩)
          clear hnr HKD
          generalize x.k = xk at *
          subst h
          have HKW := Lib.hid (fun y (hy : y ∈ kidsV out x) => (by obtain ⟨z, _, rfl⟩ := List.mem_map.1 hy; exact HSM.out _ : y.size ≤ 1048576))
          go_wp2
          go_loopw [16, 17] (fun v16 v17 wq => KidsRel wE (kidsV out x) v16 v17 wq) (fun _ v17 _ => (x.xs.length - (intOf v17).toNat))
          case atStart => exact HNR.out
          case round =>
            obtain ⟨k, rfl, hk, hown, hbq⟩ := hrel
            obtain ⟨av, cv, rfl⟩ := owns_shape hown
            have hB := below_keep HBE.out hbq
            have d1 := (hbq.cell (p := ⟨EB, 1, none⟩) HEL.out).trans e1
            have d2 := (hbq.cell (p := ⟨EB, 2, none⟩) HEL.out).trans e2
            have hkv := HKVL.out
            clear e0 e1 e2 cc cf HNR
            by_cases hlt : k < x.xs.length
            · have hdl : decide ((k : Int) < (x.xs.length : Int)) = true := decide_eq_true (by omega)
              obtain ⟨y, hy, hyl, hgy⟩ := HKIDS.out k hlt
              obtain ⟨b3, o3, rfl, hSb3, hx3⟩ := HIK.out wr hB k hlt
              have c3 := HOC.out wr hB y hyl
              rw [hy] at hx3
              have htk : (kidsV out x).take (k + 1) = (kidsV out x).take k ++ [out y] := by rw [List.take_add_one, hgy]; rfl
              have htl : ((kidsV out x).take k).length ≤ 60 := by rw [List.length_take]; omega
              obtain ⟨g', cap, w4, hrun, ho4, hb4, hk4, hat⟩ := push_txt hown (out y) (by omega) hbq hbq.size
              have HR := Lib.hid (show KidsRel wE (kidsV out x) (.slice (some ⟨g', 0, none⟩) (((kidsV out x).take k).length + 1) cap) (.int .i64 ((k : Int) + 1)) w4 from ⟨k + 1, by go_num, by omega, by rw [htk]; exact ho4, hb4⟩)
              have HRUN := Lib.hid hrun
              generalize ((kidsV out x).take k).length = tl at *
              generalize out y = oy at *
              clear hrun ho4 hb4 hk4 hat hown hbq hB hSb3 hy htk hgy HSTEP HRET HCELL HOC HNA HIK HKC HKIDS HKVL HKW hkv
              go_wp2_with (first
                | (at_builtin
                   refine wpList_append_run rfl (.tmp 151) (.tmp 160) _ rfl rfl rfl HRUN.out ?_))
              go_roundw
              case rel => exact HR.out
              case measure => (simp [intOf] <;> omega)
            · obtain rfl : k = x.xs.length := by omega
              have hdl : decide ((x.xs.length : Int) < (x.xs.length : Int)) = false := by simp
              have ht : (kidsV out x).take x.xs.length = kidsV out x := List.take_of_length_le (by omega)
              rw [ht] at hown ⊢
              have HTM := Lib.hid (specTermMake x.s (kidsV out x) wE.heap.size _ wr hown hxs (by omega) HKW.out)
              have HST2 := Lib.hid (fun (w3 : World) (h3 : Below wr.heap.size wr w3) => And.intro (HSTEP.out HII.out w3 (below_keep hB h3)) (And.intro (HRET.out HII.out w3 (below_keep hB h3)) (HCELL.out w3 (below_keep hB h3))))
              clear hown hbq hB HSTEP HRET HCELL HOC HNA HIK HKC HKIDS HKVL HKW ht hkv
              generalize kidsV out x = kids at *
              go_wp2_with fail
              refine HTM.out.mono ?_
              rintro e w3 ⟨⟨m, ok, rfl, hok, hm⟩, hb3⟩
              obtain ⟨h1, h2, cc, cf⟩ := HST2.out w3 hb3
              cases ok with
              | true =>
                have HR := Lib.hid (h1 m (by rw [HP.out, conV_ok (hok.1 rfl) hm]))
                clear h1 h2 hok hm hb3 HTM HST2 d1 d2
                go_wp2
                go_roundw
                case rel => exact HR.out
                case measure => (simp [intOf] <;> omega)
              | false =>
                have HR := Lib.hid (h2 2 (by rw [HP.out, conV_no fun h => by have := hok.2 h; cases this]) (by decide))
                clear h1 h2 hok hm hb3 HTM HST2 d1 d2
                go_wp2
                go_ret2
                exact HR.out
        · -- a sum
          obtain ⟨y0, hy0, hyl0, hgy0⟩ := HKIDS.out 0 (by omega)
          obtain ⟨y1, hy1, hyl1, hgy1⟩ := HKIDS.out 1 (by omega)
          have HP := Lib.hid (show partV names vals x (kidsV out x) = sumV x.k (out y0) (out y1) by rw [partV_5 h5, List.getD_eq_getElem?_getD, List.getD_eq_getElem?_getD, hgy0, hgy1]; rfl)
          obtain ⟨EB, hEB⟩ : ∃ EB, wr.heap.size = EB := ⟨_, rfl⟩
          have HEL := Lib.hid (show EB < wE.heap.size from hEB ▸ lt_of_block HKE.out)
          have e0 := cell_of_row _ wr.heap.size 0 _ _ _ HKE.out
          have e2 := cell_of_row _ wr.heap.size 2 _ _ _ HKE.out
          rw [hEB] at e0 e2
          simp only [List.getElem?_toArray, List.getElem?_cons_zero, List.getElem?_cons_succ] at e0 e2
          obtain ⟨b3, o3, rfl, hSb3, hx3⟩ := HIK.out wE HBE.out 0 (by omega)
          obtain ⟨b4, o4, ha4, hSb4, hx4⟩ := HIK.out wE HBE.out 1 (by omega)
          simp only [Option.some.injEq, Addr.mk.injEq, and_true] at ha4
          obtain ⟨rfl, rfl⟩ := ha4
          rw [hy0] at hx3
          rw [hy1] at hx4
          rw [Nat.add_zero] at hx3
          have c3 := HOC.out wE HBE.out y0 hyl0
          have c4 := HOC.out wE HBE.out y1 hyl1
          have HA := Lib.hid (specTermNum (out y0) (by have := HSM.out y0; omega) wE)
          have HB := Lib.hid (fun (W : World) => specTermNum (out y1) (by have := HSM.out y1; omega) W)
          have f1 : (x.k == 1) = false := beq_eq_false_iff_ne.2 (by omega)
          have f2 : (x.k == 2) = false := beq_eq_false_iff_ne.2 (by omega)
          have f3 : (x.k == 3) = false := beq_eq_false_iff_ne.2 (by omega)
          have f4 : (x.k == 4) = false := beq_eq_false_iff_ne.2 (by omega)
          rw [h2] at *
          have hl2 : x.xs.length = 2 := by assumption
          clear HKD HKIDS HKVL hkl HOC HNA HIK HKC hSb3 hSb4 hy0 hy1 hgy0 hgy1
          generalize out y0 = ka at *
          generalize out y1 = kb at *
          generalize x.k = xk at *
          have hg : EB < wE.heap.size := HEL.out
          have hg3 : b3 < wE.heap.size := cell_lt hx3
          have hgG : G < wE.heap.size := cell_lt c3
          go_wp2_with fail
          refine HA.out.mono ?_
          rintro e w3 ⟨rfl, hb3⟩
          have d0 := (hb3.cell (p := ⟨EB, 0, none⟩) hg).trans e0
          have d2 := (hb3.cell (p := ⟨EB, 2, none⟩) hg).trans e2
          have z4 := (hb3.cell (p := ⟨b3, o3 + 1, none⟩) hg3).trans hx4
          have r4 := (hb3.cell (p := ⟨G, y1, none⟩) hgG).trans c4
          obtain ⟨p, ok1, ha1, hor1⟩ := numAns_cases (Go.Proofs.YtcohjmbbanjjeaaGreatDoor.lst ka)
          rw [ha1]
          have HOR1 := Lib.hid hor1
          have HB3 := Lib.hid hb3
          clear ha1 hor1 HA e2 hx3 hx4 c3 c4 cc cf hb3
          go_wp2_with fail
          refine (HB.out w3).mono ?_
          rintro e w4 ⟨rfl, hb4⟩
          have hb34 := below_keep HB3.out hb4
          have f0 := (hb34.cell (p := ⟨EB, 0, none⟩) hg).trans e0
          obtain ⟨q, ok2, ha2, hor2⟩ := numAns_cases (Go.Proofs.YtcohjmbbanjjeaaGreatDoor.lst kb)
          rw [ha2]
          have HB4 := Lib.hid (below_keep HBE.out hb34)
          have HOR2 := Lib.hid hor2
          clear ha2 hor2 HB hb4 hb34 e0 d0 d2 z4 r4
          have HNO := Lib.hid (fun (h : numOf (bts ka) = none ∨ numOf (bts kb) = none) => HRET.out HII.out w4 HB4.out 1 (by rw [HP.out, sumV_no h]) (by decide))
          cases ok1 with
          | false =>
            have HR := Lib.hid (HNO.out (.inl (by rcases HOR1.out with ⟨h, _⟩ | ⟨_, h⟩ <;> first | cases h | exact h)))
            clear HNO HRET HSTEP HCELL HOR1 HOR2
            cases ok2 <;> go_wp2 <;> go_ret2 <;> exact HR.out
          | true =>
          cases ok2 with
          | false =>
            have HR := Lib.hid (HNO.out (.inr (by rcases HOR2.out with ⟨h, _⟩ | ⟨_, h⟩ <;> first | cases h | exact h)))
            clear HNO HRET HSTEP HCELL HOR1 HOR2
            go_wp2
            go_ret2
            exact HR.out
          | true =>
          have hn1 : numOf (bts ka) = some p := by rcases HOR1.out with ⟨_, h⟩ | ⟨h, _⟩ <;> first | cases h | exact h
          have hn2 : numOf (bts kb) = some q := by rcases HOR2.out with ⟨_, h⟩ | ⟨h, _⟩ <;> first | cases h | exact h
          obtain ⟨p1, p2, _⟩ := numOf_iff.1 hn1
          obtain ⟨q1, q2, _⟩ := numOf_iff.1 hn2
          have HBD := Lib.hid (sumI_bound (k := xk) hn1 hn2)
          have hmul : -1000000000000 ≤ p * q ∧ p * q ≤ 1000000000000 := sumI_bound (k := 7) hn1 hn2
          have HOKV := Lib.hid (fun (h : bet (sumI xk p q) (-1000000) 1000000 = true) (w5 : World) (h5 : Below w4.heap.size w4 w5) => (And.intro (HSTEP.out HII.out w5 (below_keep HB4.out h5) _ (by rw [HP.out, sumV_ok hn1 hn2 h])) (HCELL.out w5 (below_keep HB4.out h5))))
          have HNOV := Lib.hid (fun (h : bet (sumI xk p q) (-1000000) 1000000 = false) => HRET.out HII.out w4 HB4.out 2 (by rw [HP.out, sumV_over hn1 hn2 h]) (by decide))
          clear HNO HRET HSTEP HCELL HOR1 HOR2 hn1 hn2 HP
          rcases (show xk = 6 ∨ xk = 7 ∨ (xk ≠ 6 ∧ xk ≠ 7) by omega) with rfl | rfl | ⟨h6, h7'⟩
          · have hs : sumI 6 p q = p - q := rfl
            rw [hs] at HOKV HNOV HBD
            clear hs
            go_wp2_with fail
            refine (between_any (p - q) (-1000000) 1000000 _).mono ?_
            rintro e w5 ⟨rfl, rfl⟩
            rw [show (decide (-1000000 ≤ p - q) && decide (p - q ≤ 1000000)) = bet (p - q) (-1000000) 1000000 from rfl]
            cases hi : bet (p - q) (-1000000) 1000000 with
            | false =>
              have HR := Lib.hid (HNOV.out hi)
              clear HOKV HNOV hi
              go_wp2
              go_ret2
              exact HR.out
            | true =>
              have HNT := Lib.hid (specNumText (p - q) (by have := HBD.out; omega) (by have := HBD.out; omega) w5)
              go_wp2_with fail
              refine HNT.out.mono ?_
              rintro e w6 ⟨rfl, hb5⟩
              obtain ⟨h1, cc, cf⟩ := HOKV.out hi w6 hb5
              have HR := Lib.hid h1
              clear HOKV HNOV hi h1 HNT hb5 HBD f0
              generalize (⟨(Lib.itoa (p - q)).toArray⟩ : ByteArray) = NT at *
              go_wp2
              go_roundw
              case rel => exact HR.out
              case measure => (simp [intOf] <;> omega)
          · have hs : sumI 7 p q = p * q := rfl
            rw [hs] at HOKV HNOV HBD
            clear hs
            go_wp2_with fail
            refine (between_any (p * q) (-1000000) 1000000 _).mono ?_
            rintro e w5 ⟨rfl, rfl⟩
            rw [show (decide (-1000000 ≤ p * q) && decide (p * q ≤ 1000000)) = bet (p * q) (-1000000) 1000000 from rfl]
            cases hi : bet (p * q) (-1000000) 1000000 with
            | false =>
              have HR := Lib.hid (HNOV.out hi)
              clear HOKV HNOV hi
              go_wp2
              go_ret2
              exact HR.out
            | true =>
              have HNT := Lib.hid (specNumText (p * q) (by have := HBD.out; omega) (by have := HBD.out; omega) w5)
              go_wp2_with fail
              refine HNT.out.mono ?_
              rintro e w6 ⟨rfl, hb5⟩
              obtain ⟨h1, cc, cf⟩ := HOKV.out hi w6 hb5
              have HR := Lib.hid h1
              clear HOKV HNOV hi h1 HNT hb5 HBD f0
              generalize (⟨(Lib.itoa (p * q)).toArray⟩ : ByteArray) = NT at *
              go_wp2
              go_roundw
              case rel => exact HR.out
              case measure => (simp [intOf] <;> omega)
          · have g6 : (xk == 6) = false := by simpa using h6
            have g7 : (xk == 7) = false := by simpa using h7'
            have hs : sumI xk p q = p + q := by unfold sumI; rw [if_neg h6, if_neg h7']
            rw [hs] at HOKV HNOV HBD
            clear hs
            go_wp2_with fail
            refine (between_any (p + q) (-1000000) 1000000 _).mono ?_
            rintro e w5 ⟨rfl, rfl⟩
            rw [show (decide (-1000000 ≤ p + q) && decide (p + q ≤ 1000000)) = bet (p + q) (-1000000) 1000000 from rfl]
            cases hi : bet (p + q) (-1000000) 1000000 with
            | false =>
              have HR := Lib.hid (HNOV.out hi)
              clear HOKV HNOV hi
              go_wp2
              go_ret2
              exact HR.out
            | true =>
              have HNT := Lib.hid (specNumText (p + q) (by have := HBD.out; omega) (by have := HBD.out; omega) w5)
              go_wp2_with fail
              refine HNT.out.mono ?_
              rintro e w6 ⟨rfl, hb5⟩
              obtain ⟨h1, cc, cf⟩ := HOKV.out hi w6 hb5
              have HR := Lib.hid h1
              clear HOKV HNOV hi h1 HNT hb5 HBD f0
              generalize (⟨(Lib.itoa (p + q)).toArray⟩ : ByteArray) = NT at *
              go_wp2
              go_roundw
              case rel => exact HR.out
              case measure => (simp [intOf] <;> omega)
      · have e : bs.getD i false = false := by simpa using hbi
        rw [e] at cmE
        have HR := Lib.hid (HSKIP.out _ HBE.out (fun h => hbi (HIN.out.2 h)))
        clear HSKIP HSTEP HRET HCELL HOC HNA HIK HKC HKIDS HIN hbi e
        go_wp2
        go_roundw
        case rel => exact HR.out
        case measure => (simp [intOf] <;> omega)
    · obtain rfl : i = n + 1 := by omega
      have hd : decide (((n + 1 : Nat) : Int) ≤ (n : Int)) = false := decide_eq_false (by omega)
      have hd2 : decide ((n : Int) + 1 ≤ (n : Int)) = false := decide_eq_false (by omega)
      have c0 := outCell hown hn
      have HRUN := Lib.hid (show runV u.es names vals (parts u.es allE n) = .ok out from hrun)
      have HBB := Lib.hid hbb
      have HTK := Lib.hid (specTermKind (out n) (by have := hsm n; omega) wr)
      have hgl : G < wr.heap.size := cell_lt c0
      clear hrun hsm hown hflg hb hbb
      obtain ⟨o, ho⟩ : ∃ o, out n = o := ⟨_, rfl⟩
      rw [ho] at c0 HTK
      go_wp2_with fail
      refine HTK.out.mono ?_
      rintro e w3 ⟨rfl, hb3⟩
      have c3 := (hb3.cell (p := ⟨G, n, none⟩) hgl).trans c0
      by_cases hz : iKind (bts o) = 0
      · have HR := Lib.hid (show ValPost (finV u.es n names vals) w (.returned (.tuple #[.string ⟨#[]⟩, .int .i64 2])) w3 from ⟨by rw [finV_over HRUN.out (by rw [ho]; exact hz)], below_step HBB.out hb3⟩)
        have hz2 : iKind (Go.Proofs.YtcohjmbbanjjeaaGreatDoor.lst o) = 0 := hz
        rw [hz2]
        clear hz hz2 hb3 HTK HRUN ho c0
        go_wp2
        go_ret2
        exact HR.out
      · have HR := Lib.hid (show ValPost (finV u.es n names vals) w (.returned (.tuple #[.string o, .int .i64 0])) w3 from ⟨by rw [finV_ok HRUN.out (by rw [ho]; exact hz), ho], below_step HBB.out hb3⟩)
        have hzb : (iKind (Go.Proofs.YtcohjmbbanjjeaaGreatDoor.lst o) == 0) = false := beq_eq_false_iff_ne.2 hz
        clear hz hb3 HTK HRUN ho c0
        generalize iKind (Go.Proofs.YtcohjmbbanjjeaaGreatDoor.lst o) = kd at *
        go_wp2
        go_ret2
        exact HR.out

end Go.Proofs.YtcohjmbbanjjeaaGreatDoor.Pr

namespace Go.Proofs.YtcohjmbbanjjeaaGreatDoor.Pr
open Go Go.RowKit Go.Maps Go.WideMaps

set_option maxRecDepth 100000 in
set_option maxHeartbeats 2000000 in
theorem specExpValue_any (u : Ru) (n : Int) (names vals : List ByteArray) (a1 a2 : Option Addr) (c1 c2 : Nat) (vs : List Value) (S : Nat → Prop) (w : World) (hF : FRu S w vs u) (hS : ∀ b, S b → b < w.heap.size) (hw : u.wt ≤ 1048576)
    (h1 : TxtsIn S w a1 names) (h2 : TxtsIn S w a2 vals) (hnl : names.length ≤ 1048576) (hvl : vals.length ≤ 1048576) (hvs : ∀ v ∈ vals, v.size ≤ 1048576) :
    Calls Tryz.prog 6 #[.agg vs.toArray, .int .i64 n, .slice a1 names.length c1, .slice a2 vals.length c2] w (ValPost (valAns u n names vals) w) := by
  have hF0 := hF
  obtain ⟨aes, ces, ahd, chd, abd, cbd, rfl, r0, r1, r2⟩ := hF
  have hb0 : Below w.heap.size w (w.alloc (.cells #[.slice aes u.es.length ces, .int .i64 u.hd.k, .string u.hd.s, .slice ahd u.hd.xs.length chd, .slice abd u.bd.length cbd] 38)) := (Below.refl _ _).alloc (Nat.le_refl _) _
  have k0 := heap_alloc_new w (.cells #[.slice aes u.es.length ces, .int .i64 u.hd.k, .string u.hd.s, .slice ahd u.hd.xs.length chd, .slice abd u.bd.length cbd] 38)
  have HSR := Lib.hid (specRule_any u _ S _ (FRu_keeps.1 _ _ _ _ _ hF0 (Same.below hS hb0)) (fun b h => Nat.lt_of_lt_of_le (hS b h) hb0.size) hw)
  obtain ⟨w0, hw0⟩ : ∃ w0, w.alloc (.cells #[.slice aes u.es.length ces, .int .i64 u.hd.k, .string u.hd.s, .slice ahd u.hd.xs.length chd, .slice abd u.bd.length cbd] 38) = w0 := ⟨_, rfl⟩
  rw [hw0] at hb0 k0 HSR
  have hel : u.es.length ≤ 1048576 := by unfold Ru.wt wtExpS at hw; omega
  have q0 := cell_of_row _ w.heap.size 0 _ _ _ k0
  have q1 := cell_of_row _ w.heap.size 1 _ _ _ k0
  have q2 := cell_of_row _ w.heap.size 2 _ _ _ k0
  have q3 := cell_of_row _ w.heap.size 3 _ _ _ k0
  have q4 := cell_of_row _ w.heap.size 4 _ _ _ k0
  simp only [List.getElem?_toArray, List.getElem?_cons_zero, List.getElem?_cons_succ] at q0 q1 q2 q3 q4
  have HF0 := Lib.hid hF0
  have HS := Lib.hid hS
  have H1 := Lib.hid h1
  have H2 := Lib.hid h2
  have HVS := Lib.hid hvs
  have HWT := Lib.hid hw
  have HB0 := Lib.hid hb0
  have HK0 := Lib.hid k0
  clear hF0 r0 r1 r2 hS hb0 k0 hw h1 h2 hvs
  go_enter Tryz.func6, Tryz.ntmps6
  go_wp2_with fail
  refine HSR.out.mono ?_
  rintro e w1 ⟨rfl, hb1⟩
  have hb01 := below_step HB0.out hb1
  have HB1 := Lib.hid hb01
  have K1 := (hb1.block _ (lt_of_block HK0.out)).trans HK0.out
  clear q0 q1 q2 q3 q4 HSR
  by_cases hok : RuleOk u
  · have hne := ruleAns_some hok
    have HOK := Lib.hid hok
    generalize ruleAns u = A at *
    have q0 := cell_of_row _ w.heap.size 0 _ _ _ K1
    have q1 := cell_of_row _ w.heap.size 1 _ _ _ K1
    have q2 := cell_of_row _ w.heap.size 2 _ _ _ K1
    have q3 := cell_of_row _ w.heap.size 3 _ _ _ K1
    have q4 := cell_of_row _ w.heap.size 4 _ _ _ K1
    simp only [List.getElem?_toArray, List.getElem?_cons_zero, List.getElem?_cons_succ] at q0 q1 q2 q3 q4
    have HBT := Lib.hid (between_any n 0 ((u.es.length : Int) - 1) w1)
    clear hok K1 hb1 hb01
    go_wp2_with fail
    refine HBT.out.mono ?_
    rintro e w2 ⟨rfl, rfl⟩
    clear HBT
    by_cases hin : 0 ≤ n ∧ n < (u.es.length : Int)
    · have hd : (decide (0 ≤ n) && decide (n ≤ (u.es.length : Int) - 1)) = true := by simp; omega
      rw [hd]
      obtain ⟨m, rfl⟩ := Int.eq_ofNat_of_zero_le hin.1
      have hml : m < u.es.length := by omega
      have HV := Lib.hid (specValue_any u m names vals a1 a2 c1 c2 _ S w2 (FRu_keeps.1 _ _ _ _ _ HF0.out (Same.below HS.out HB1.out)) (fun b h => Nat.lt_of_lt_of_le (HS.out b h) HB1.out.size) HOK.out.good.tree HOK.out.good.kind hml HWT.out (H1.out.kept (Same.below HS.out HB1.out)) (H2.out.kept (Same.below HS.out HB1.out)) hnl hvl HVS.out)
      have HVA := Lib.hid (valAns_ok (names := names) (vals := vals) HOK.out hml)
      clear hd hin
      go_wp2_with fail
      refine HV.out.mono ?_
      rintro e w3 ⟨rfl, hb3⟩
      have HP := Lib.hid (show ValPost (valAns u (m : Int) names vals) w (.returned (.tuple #[.string (finV u.es m names vals).1, .int .i64 (finV u.es m names vals).2])) w3 from ⟨by rw [HVA.out], below_step HB1.out hb3⟩)
      clear hb3 HV HVA
      go_wp2
      go_ret2
      exact HP.out
    · have hd : (decide (0 ≤ n) && decide (n ≤ (u.es.length : Int) - 1)) = false := by
        rw [Bool.and_eq_false_iff, decide_eq_false_iff_not, decide_eq_false_iff_not]; omega
      rw [hd]
      have HP := Lib.hid (show ValPost (valAns u n names vals) w (.returned (.tuple #[.string ⟨#[]⟩, .int .i64 1])) w2 from ⟨by rw [valAns_no (fun h => hin h.2)], HB1.out⟩)
      clear hd hin
      go_wp2
      go_ret2
      exact HP.out
  · have hne := ruleAns_none hok
    have HP := Lib.hid (show ValPost (valAns u n names vals) w (.returned (.tuple #[.string ⟨#[]⟩, .int .i64 1])) w1 from ⟨by rw [valAns_no (fun h => hok h.1)], HB1.out⟩)
    generalize ruleAns u = A at *
    clear hok K1 hb1 hb01
    go_wp2
    go_ret2
    exact HP.out

set_option maxRecDepth 100000 in
set_option maxHeartbeats 2000000 in
theorem implExpValue_any (u : Ru) (n : Int) (names vals : List ByteArray) (a1 a2 : Option Addr) (c1 c2 : Nat) (vs : List Value) (S : Nat → Prop) (w : World) (hE : Env w.heap.size w) (hF : FRu S w vs u) (hS : ∀ b, S b → b < w.heap.size) (hw : u.wt ≤ 1048576)
    (h1 : TxtsIn S w a1 names) (h2 : TxtsIn S w a2 vals) (hnl : names.length ≤ 1048576) (hvl : vals.length ≤ 1048576) (hvs : ∀ v ∈ vals, v.size ≤ 1048576) :
    Calls Tryz.prog 9 #[.agg vs.toArray, .int .i64 n, .slice a1 names.length c1, .slice a2 vals.length c2] w (ValPost (valAns u n names vals) w) := by
  have hF0 := hF
  obtain ⟨aes, ces, ahd, chd, abd, cbd, rfl, r0, r1, r2⟩ := hF
  have hb0 : Below w.heap.size w (w.alloc (.cells #[.slice aes u.es.length ces, .int .i64 u.hd.k, .string u.hd.s, .slice ahd u.hd.xs.length chd, .slice abd u.bd.length cbd] 38)) := (Below.refl _ _).alloc (Nat.le_refl _) _
  have k0 := heap_alloc_new w (.cells #[.slice aes u.es.length ces, .int .i64 u.hd.k, .string u.hd.s, .slice ahd u.hd.xs.length chd, .slice abd u.bd.length cbd] 38)
  obtain ⟨w0, hw0⟩ : ∃ w0, w.alloc (.cells #[.slice aes u.es.length ces, .int .i64 u.hd.k, .string u.hd.s, .slice ahd u.hd.xs.length chd, .slice abd u.bd.length cbd] 38) = w0 := ⟨_, rfl⟩
  rw [hw0] at hb0 k0
  have hel : u.es.length ≤ 1048576 := by unfold Ru.wt wtExpS at hw; omega
  have HHF := Lib.hid (hasForm_any u _ S w0 (FRu_keeps.1 _ _ _ _ _ hF0 (Same.below hS hb0)) (fun b h => Nat.lt_of_lt_of_le (hS b h) hb0.size) hw)
  have q0 := cell_of_row _ w.heap.size 0 _ _ _ k0
  have q1 := cell_of_row _ w.heap.size 1 _ _ _ k0
  have q2 := cell_of_row _ w.heap.size 2 _ _ _ k0
  have q3 := cell_of_row _ w.heap.size 3 _ _ _ k0
  have q4 := cell_of_row _ w.heap.size 4 _ _ _ k0
  simp only [List.getElem?_toArray, List.getElem?_cons_zero, List.getElem?_cons_succ] at q0 q1 q2 q3 q4
  have HE := Lib.hid hE
  have HF0 := Lib.hid hF0
  have HS := Lib.hid hS
  have H1 := Lib.hid h1
  have H2 := Lib.hid h2
  have HVS := Lib.hid hvs
  have HWT := Lib.hid hw
  have HB0 := Lib.hid hb0
  have HK0 := Lib.hid k0
  clear hF0 r0 r1 r2 hS hb0 k0 hw h1 h2 hvs hE
  go_enter Tryz.func9, Tryz.ntmps9
  go_wp2_with fail
  refine HHF.out.mono ?_
  rintro e w1 ⟨⟨r, rfl, hr⟩, hb1⟩
  have HB1 := Lib.hid (below_step HB0.out hb1)
  have K1 := (hb1.block _ (lt_of_block HK0.out)).trans HK0.out
  have hg1 : w.heap.size < w1.heap.size := lt_of_block K1
  clear q0 q1 q2 q3 q4 HHF hb1
  have q0 := cell_of_row _ w.heap.size 0 _ _ _ K1
  have q1 := cell_of_row _ w.heap.size 1 _ _ _ K1
  have q2 := cell_of_row _ w.heap.size 2 _ _ _ K1
  have q3 := cell_of_row _ w.heap.size 3 _ _ _ K1
  have q4 := cell_of_row _ w.heap.size 4 _ _ _ K1
  simp only [List.getElem?_toArray, List.getElem?_cons_zero, List.getElem?_cons_succ] at q0 q1 q2 q3 q4
  cases r with
  | false =>
    have HP := Lib.hid (show ValPost (valAns u n names vals) w (.returned (.tuple #[.string ⟨#[]⟩, .int .i64 1])) w1 from ⟨by rw [valAns_no (fun h => by have := hr.2 h.1; cases this)], HB1.out⟩)
    clear hr K1
    go_wp2
    go_ret2
    exact HP.out
  | true =>
    have HOK := Lib.hid (hr.1 rfl)
    have HIP := Lib.hid (isExpPlace_any u n _ S w1 (FRu_keeps.1 _ _ _ _ _ HF0.out (Same.below HS.out HB1.out)) hel)
    have HK1 := Lib.hid K1
    clear hr K1
    go_wp2_with fail
    refine HIP.out.mono ?_
    rintro e w2 ⟨rfl, hb2⟩
    have HB2 := Lib.hid (below_step HB1.out hb2)
    have K2 := (hb2.block _ hg1).trans HK1.out
    clear q0 q1 q2 q3 q4 HIP hb2
    have q0 := cell_of_row _ w.heap.size 0 _ _ _ K2
    have q1 := cell_of_row _ w.heap.size 1 _ _ _ K2
    have q2 := cell_of_row _ w.heap.size 2 _ _ _ K2
    have q3 := cell_of_row _ w.heap.size 3 _ _ _ K2
    have q4 := cell_of_row _ w.heap.size 4 _ _ _ K2
    simp only [List.getElem?_toArray, List.getElem?_cons_zero, List.getElem?_cons_succ] at q0 q1 q2 q3 q4
    by_cases hin : 0 ≤ n ∧ n < (u.es.length : Int)
    · have hd : (decide (0 ≤ n) && decide (n < (u.es.length : Int))) = true := by simp; omega
      rw [hd]
      obtain ⟨m, rfl⟩ := Int.eq_ofNat_of_zero_le hin.1
      have hml : m < u.es.length := by omega
      have HV := Lib.hid (expValue_any u m names vals a1 a2 c1 c2 _ S w2 (HE.out.stays HB2.out).top (FRu_keeps.1 _ _ _ _ _ HF0.out (Same.below HS.out HB2.out)) (fun b h => Nat.lt_of_lt_of_le (HS.out b h) HB2.out.size) HOK.out.good.tree HOK.out.good.kind hml HWT.out (H1.out.kept (Same.below HS.out HB2.out)) (H2.out.kept (Same.below HS.out HB2.out)) hnl hvl HVS.out)
      have HVA := Lib.hid (valAns_ok (names := names) (vals := vals) HOK.out hml)
      clear hd hin K2
      go_wp2_with fail
      refine HV.out.mono ?_
      rintro e w3 ⟨rfl, hb3⟩
      have HP := Lib.hid (show ValPost (valAns u (m : Int) names vals) w (.returned (.tuple #[.string (finV u.es m names vals).1, .int .i64 (finV u.es m names vals).2])) w3 from ⟨by rw [HVA.out], below_step HB2.out hb3⟩)
      clear hb3 HV HVA
      go_wp2
      go_ret2
      exact HP.out
    · have hd : (decide (0 ≤ n) && decide (n < (u.es.length : Int))) = false := by rw [Bool.and_eq_false_iff, decide_eq_false_iff_not, decide_eq_false_iff_not]; omega
      rw [hd]
      have HP := Lib.hid (show ValPost (valAns u n names vals) w (.returned (.tuple #[.string ⟨#[]⟩, .int .i64 1])) w2 from ⟨by rw [valAns_no (fun h => hin h.2)], HB2.out⟩)
      clear hd hin K2
      go_wp2
      go_ret2
      exact HP.out

end Go.Proofs.YtcohjmbbanjjeaaGreatDoor.Pr
