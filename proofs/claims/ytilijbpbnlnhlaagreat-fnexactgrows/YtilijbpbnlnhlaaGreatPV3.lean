/-
  THE WALK of spec.l06Within.
-/
import Derived.Test.YtilijbpbnlnhlaaGreatPV2
namespace Go.Proofs.YtilijbpbnlnhlaaGreat.Pr
open Go Go.RowKit Go.Maps Go.WideMaps

set_option maxRecDepth 100000 in
set_option maxHeartbeats 2000000 in
theorem specWithin_any (u : Ru) (n : Nat) (vs : List Value) (S : Nat → Prop) (w : World) (hF : FRu S w vs u) (hS : ∀ b, S b → b < w.heap.size) (T : TreeOk u.es) (hn : n < u.es.length) :
    Calls Tryz.prog 49 #[.agg vs.toArray, .int .i64 (n : Int)] w fun e w' => (∃ (g : Nat) (bs : List Bool), e = .returned (.slice (some ⟨g, 0, none⟩) u.es.length u.es.length) ∧ WInv u.es n bs 0 ∧ w'.ownsRow w.heap.size 4 1 (.slice (some ⟨g, 0, none⟩) u.es.length u.es.length) u.es.length (flagCells bs)) ∧ Below w.heap.size w w' := by
  obtain ⟨aes, ces, ahd, chd, abd, cbd, rfl, r0, r1, r2⟩ := hF
  have hfew := T.few
  have hb0 : Below w.heap.size w (w.alloc (.cells #[.slice aes u.es.length ces, .int .i64 u.hd.k, .string u.hd.s, .slice ahd u.hd.xs.length chd, .slice abd u.bd.length cbd] 36)) := (Below.refl _ _).alloc (Nat.le_refl _) _
  have k0 := heap_alloc_new w (.cells #[.slice aes u.es.length ces, .int .i64 u.hd.k, .string u.hd.s, .slice ahd u.hd.xs.length chd, .slice abd u.bd.length cbd] 36)
  obtain ⟨w0, hw0⟩ : ∃ w0, w.alloc (.cells #[.slice aes u.es.length ces, .int .i64 u.hd.k, .string u.hd.s, .slice ahd u.hd.xs.length chd, .slice abd u.bd.length cbd] 36) = w0 := ⟨_, rfl⟩
  have hsz0 : w0.heap.size = w.heap.size + 1 := by rw [← hw0]; simp
  rw [hw0] at hb0 k0
  have q0 := cell_of_row _ w.heap.size 0 _ _ _ k0
  simp only [List.getElem?_toArray, List.getElem?_cons_zero] at q0
  obtain ⟨i0, hi0, hz0, hz1, hz2⟩ := info_parts infoB1
  have hmk : (Instr.makeSlice 74 (.int .i64 (u.es.length : Int)) (.int .i64 (u.es.length : Int))).run Tryz.prog w0 = .ok (.slice (some ⟨w0.heap.size, 0, none⟩) u.es.length u.es.length) (w0.alloc (.cells (madeCells #[.bool false] u.es.length) 4)) := by
    rw [run_make w0 74 4 i0 _ Tryz.underlying74 hi0 hz0 .i64 .i64 _ _ (by omega) (by omega) (by rw [hz2]; omega) (by omega), hz1, Int.toNat_natCast, Nat.mul_one]
    rfl
  have hown0 : (w0.alloc (.cells (madeCells #[.bool false] u.es.length) 4)).ownsRow w0.heap.size 4 1 (.slice (some ⟨w0.heap.size, 0, none⟩) u.es.length u.es.length) u.es.length (flagCells (List.replicate u.es.length false)) := by
    refine ⟨by simp [flagCells], .inr ⟨w0.heap.size, u.es.length, _, rfl, Nat.le_refl _, heap_alloc_new w0 _, Nat.le_refl _, by unfold maxLen; omega, by rw [size_madeCells, Nat.mul_one], ?_⟩⟩
    rw [toList_madeCells_one, Nat.mul_one]
    simp [flagCells]
  have hb1 := (Below.refl w0.heap.size w0).alloc (Nat.le_refl _) (Obj.cells (madeCells #[.bool false] u.es.length) 4)
  obtain ⟨G, hG⟩ : ∃ G, w0.heap.size = G := ⟨_, rfl⟩
  rw [hG] at hmk
  have hGe : G ≥ w0.heap.size := by omega
  have hown0' := hown0
  rw [show (⟨w0.heap.size, 0, none⟩ : Addr) = ⟨G, 0, none⟩ from by rw [hG]] at hown0'
  clear hown0
  have hown0 := hown0'
  clear hown0'
  have hGw : w.heap.size + 1 = G := by omega
  obtain ⟨w1, hw1⟩ : ∃ w1, w0.alloc (.cells (madeCells #[.bool false] u.es.length) 4) = w1 := ⟨_, rfl⟩
  rw [hw1] at hmk hown0 hb1
  have c0 := boolAt hown0 (by simp) n hn
  have f0 := row_frozen hown0 n
  have hown1 := owns_set hown0 hn (.bool true)
  rw [flagCells_set] at hown1
  have HST := Lib.hid (show WORel w0 u.es n G (.int .i64 (n : Int)) (w1.setCell ⟨G, n, none⟩ (.bool true)) from ⟨n + 1, (n : Int), _, rfl, by omega, Nat.le_refl _, WInv.start hn T, hown1, below_set hb1 n _ (by omega)⟩)
  have HKR := Lib.hid k0
  have HR0 := Lib.hid r0
  have HS := Lib.hid hS
  have HTT := Lib.hid T
  have HB0 := Lib.hid hb0
  have HGG := Lib.hid hGe
  clear r0 r1 r2 hS hb0 k0 hi0 hz0 hz1 hz2 hown0 hown1 hb1 T hGw hG hsz0 hGe
  go_enter Tryz.func49, Tryz.ntmps49
  go_wp2
  go_loopw [6] (fun v6 wr => WORel w0 u.es n G v6 wr) (fun v6 _ => (intOf v6 + 1).toNat)
  case atStart => exact HST.out
  case round =>
    obtain ⟨m, i, bs, rfl, hi, hm, hW, hown, hb⟩ := hrel
    clear HST q0 c0 f0 hmk
    cases m with
    | zero =>
      have HW := Lib.hid hW
      have HO := Lib.hid hown
      have hge : decide ((0 : Int) ≤ i) = false := decide_eq_false (by omega)
      clear hW hown hi
      go_wp2
      go_ret
      exact ⟨⟨G, bs, rfl, HW.out, owns_mono HB0.out.size HO.out⟩, below_step HB0.out hb⟩
    | succ m =>
      obtain rfl : i = (m : Int) := by omega
      have hml : m < u.es.length := by omega
      have HST := Lib.hid (show WIRel w0 u.es n G m (.int .i64 0) wr from ⟨0, bs, rfl, Nat.zero_le _, hW, .inr rfl, by simp, hown, hb⟩)
      have hge : decide ((0 : Int) ≤ (m : Int)) = true := by simp
      clear hW hown hb hi
      go_wp2
      go_loopw [7] (fun v7 wr => WIRel w0 u.es n G m v7 wr) (fun v7 _ => ((expAt u.es m).xs.length - (intOf v7).toNat))
      case atStart => exact HST.out
      case round =>
        obtain ⟨k, bs, rfl, hk, hW, hor, hall, hown, hb⟩ := hrel
        clear HST
        have HNEXT := Lib.hid (fun (h : WInv u.es n bs m) => (⟨m, (m : Int) - 1, bs, rfl, rfl, by omega, h, hown, hb⟩ : WORel w0 u.es n G (.int .i64 ((m : Int) - 1)) wr))
        have K1 := (hb.block _ (lt_of_block HKR.out)).trans HKR.out
        have q0 := cell_of_row _ w.heap.size 0 _ _ _ K1
        simp only [List.getElem?_toArray, List.getElem?_cons_zero] at q0
        obtain ⟨b, off, vs, ha, hSb, hvl, hcc, axs, cxs, rfl, hI⟩ := RowIn.kept FIt_keeps HR0.out (Same.below HS.out (below_step HB0.out hb)) m hml
        subst ha
        have x2 : wr.cell? ⟨b, off + m * 3 + 2, none⟩ = some (.slice axs u.es[m].xs.length cxs) := hcc 2 (by simp)
        rw [← expAt_lt hml] at x2 hI
        have hWl := hW.len
        have cm := boolAt hown hWl m hml
        have HALL := Lib.hid hall
        have HW := Lib.hid hW
        have HOR := Lib.hid hor
        have HOWN := Lib.hid hown
        have HB := Lib.hid hb
        have HI := Lib.hid hI
        have HX := Lib.hid (HTT.out.kid m hml)
        have HKE := Lib.hid (kidsE_all u.es m)
        have hkl := kids_len HTT.out hml
        clear hall hW hor hown hb hI hSb hvl hcc K1
        obtain ⟨xs, hxs⟩ : ∃ xs, (expAt u.es m).xs = xs := ⟨_, rfl⟩
        rw [hxs] at x2 hk hkl HALL HI HX HKE ⊢
        have HXS := Lib.hid hxs
        clear hxs
        by_cases hbm : bs[m]? = some true
        · have e : bs.getD m false = true := by rw [List.getD_eq_getElem?_getD, hbm]; rfl
          rw [e] at cm
          by_cases hlt : k < xs.length
          · have hd : decide ((k : Int) < (xs.length : Int)) = true := decide_eq_true (by omega)
            obtain ⟨b2, off2, rfl, hS2, c2⟩ := HI.out k hlt
            have hxk := HX.out xs[k] (List.getElem_mem hlt)
            have hmem : xs[k].toNat ∈ kidsE u.es allE m := by rw [HKE.out]; exact List.mem_map.2 ⟨_, List.getElem_mem hlt, rfl⟩
            obtain ⟨x, hx⟩ := Int.eq_ofNat_of_zero_le hxk.1
            have hxl : x < u.es.length := by omega
            have hW2 := HW.out.mark HTT.out hml hbm hmem
            have ho2 := owns_set HOWN.out hxl (.bool true)
            rw [flagCells_set] at ho2
            have c3 := boolAt HOWN.out hWl x hxl
            have f3 := row_frozen HOWN.out x
            rw [hx] at hW2 c2
            rw [show ((x : Int)).toNat = x from rfl] at hW2
            have HR := Lib.hid (show WIRel w0 u.es n G m (.int .i64 ((k : Int) + 1)) (wr.setCell ⟨G, x, none⟩ (.bool true)) from ⟨k + 1, bs.set x true, by go_num, by rw [HXS.out]; omega, hW2, .inl (by
                rw [List.getElem?_set_ne (by omega)]; exact hbm), by
                rw [HXS.out, List.take_succ_eq_append_getElem hlt, List.map_append]
                intro y hy
                rw [List.getElem?_set]
                split
                · rename_i e; subst e; rw [if_pos (by omega)]
                · rename_i hne
                  rcases List.mem_append.1 hy with hy | hy
                  · exact HALL.out y hy
                  · simp only [List.map_cons, List.map_nil, List.mem_singleton] at hy
                    exact absurd (show x = y by omega) hne, ho2, below_set HB.out x _ HGG.out⟩)
            clear hW2 ho2 HALL HW HOR HOWN HB HI HX HKE hmem hxk hx hS2 hbm e
            go_wp2
            go_roundw
            case rel => exact HR.out
            case measure => (simp [intOf] <;> omega)
          · have hd : decide ((k : Int) < (xs.length : Int)) = false := decide_eq_false (by omega)
            have HR := Lib.hid (HNEXT.out (HW.out.close (by
              rw [HKE.out]
              have := HALL.out
              rwa [List.take_of_length_le (by omega)] at this)))
            clear HNEXT HALL HW HOR HOWN HB HI HX HKE hbm e
            go_wp2
            go_roundw
            case rel => exact HR.out
            case measure => (simp [intOf] <;> omega)
        · have e : bs.getD m false = false := by
            rw [List.getD_eq_getElem?_getD]
            cases h : bs[m]? with
            | none => rfl
            | some v => cases v with
              | true => exact absurd h hbm
              | false => rfl
          rw [e] at cm
          have HR := Lib.hid (HNEXT.out (HW.out.skip hbm))
          clear HNEXT HALL HW HOWN HB HI HX HKE e
          by_cases hlt : k < xs.length
          · have hd : decide ((k : Int) < (xs.length : Int)) = true := decide_eq_true (by omega)
            clear hbm HOR
            go_wp2
            go_roundw
            case rel => exact HR.out
            case measure => (simp [intOf] <;> omega)
          · have hd : decide ((k : Int) < (xs.length : Int)) = false := decide_eq_false (by omega)
            clear hbm HOR
            go_wp2
            go_roundw
            case rel => exact HR.out
            case measure => (simp [intOf] <;> omega)

end Go.Proofs.YtilijbpbnlnhlaaGreat.Pr
