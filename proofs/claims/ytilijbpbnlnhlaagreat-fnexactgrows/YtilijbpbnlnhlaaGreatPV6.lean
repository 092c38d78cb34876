/-
  THE WALK of impl.partsWhere, at a function value that tells by an exp's kind alone.
-/
import Derived.Test.YtilijbpbnlnhlaaGreatPV2
import Derived.Test.YtilijbpbnlnhlaaGreatPVS
import Derived.Test.YtilijbpbnlnhlaaGreatShelfV
namespace Go.Proofs.YtilijbpbnlnhlaaGreat.Pr
open Go Go.RowKit Go.Maps Go.WideMaps Go.Sort Go.Proofs

/-- The function value fv tells of an exp (its three cells) what en says; it may lay new memory. -/
def Enters (fv : Value) (en : It → Bool) : Prop :=
  ∃ g : Nat, fv = .func (.func g) #[] #[] ∧ (∀ args w, (callFunc g args).run Tryz.prog w = .ok (.enter g args) w) ∧
    ∀ (w : World) (x : It) (a : Option Addr) (c : Nat), Calls Tryz.prog g #[.agg #[.int .i64 x.k, .string x.s, .slice a x.xs.length c]] w fun e w' => e = .returned (.bool (en x)) ∧ Below w.heap.size w w'

def ints (L : List Nat) : List Int := L.map Int.ofNat
theorem ints_len (L : List Nat) : (ints L).length = L.length := by simp [ints]
theorem ints_kids (L : List Nat) (xs : List Int) (h : ∀ x ∈ xs, 0 ≤ x) : ints L ++ xs = ints (L ++ xs.map Int.toNat) := by
  unfold ints
  rw [List.map_append, List.map_map]
  congr 1
  conv => lhs; rw [← List.map_id xs]
  exact List.map_congr_left (fun x hx => by simp [Int.toNat_of_nonneg (h x hx)])
theorem ints_sorted {es : List It} {en : It → Bool} {n : Nat} {L : List Nat} (hp : L.Perm (parts es en n)) : (ints L).mergeSort (fun x y => decide (x ≤ y)) = ints (parts es en n) := by
  have tr : ∀ a b c : Int, decide (a ≤ b) = true → decide (b ≤ c) = true → decide (a ≤ c) = true := fun a b c h1 h2 => by simp at *; omega
  have tot : ∀ a b : Int, (decide (a ≤ b) || decide (b ≤ a)) = true := fun a b => by simp; omega
  refine List.Perm.eq_of_pairwise (le := fun a b => decide (a ≤ b) = true) (fun a b _ _ h1 h2 => ?_) (List.pairwise_mergeSort tr tot _) ?_ ((List.mergeSort_perm _ _).trans (hp.map _))
  · simp at h1 h2; omega
  · exact List.pairwise_map.2 ((parts_rise es en n).imp fun h => by simp; omega)

def PWRel (w0 : World) (es : List It) (en : It → Bool) (n : Nat) (v4 v5 : Value) (wr : World) : Prop :=
  ∃ (L : List Nat) (i g cap : Nat), v4 = .slice (some ⟨g, 0, none⟩) L.length cap ∧ v5 = .int .i64 (i : Int) ∧ Bfs es en n L i ∧ wr.ownsRow w0.heap.size 3 1 (.slice (some ⟨g, 0, none⟩) L.length cap) L.length (intCells (ints L)) ∧ Below w0.heap.size w0 wr

set_option maxRecDepth 100000 in
set_option maxHeartbeats 2000000 in
theorem partsWhere_any (u : Ru) (n : Nat) (fv : Value) (en : It → Bool) (hE : Enters fv en) (vs : List Value) (S : Nat → Prop) (w : World) (hF : FRu S w vs u) (hS : ∀ b, S b → b < w.heap.size) (T : TreeOk u.es) (hn : n < u.es.length) :
    Calls Tryz.prog 87 #[.agg vs.toArray, .int .i64 (n : Int), fv] w fun e w' => (∃ (g cap : Nat), e = .returned (.slice (some ⟨g, 0, none⟩) (parts u.es en n).length cap) ∧ w'.ownsRow w.heap.size 3 1 (.slice (some ⟨g, 0, none⟩) (parts u.es en n).length cap) (parts u.es en n).length (intCells (ints (parts u.es en n)))) ∧ Below w.heap.size w w' := by
  obtain ⟨fg, rfl, hfe, hfc⟩ := hE
  obtain ⟨aes, ces, ahd, chd, abd, cbd, rfl, r0, r1, r2⟩ := hF
  have hfew := T.few
  have hb0 : Below w.heap.size w (w.alloc (.cells #[.slice aes u.es.length ces, .int .i64 u.hd.k, .string u.hd.s, .slice ahd u.hd.xs.length chd, .slice abd u.bd.length cbd] 36)) := (Below.refl _ _).alloc (Nat.le_refl _) _
  have k0 := heap_alloc_new w (.cells #[.slice aes u.es.length ces, .int .i64 u.hd.k, .string u.hd.s, .slice ahd u.hd.xs.length chd, .slice abd u.bd.length cbd] 36)
  obtain ⟨w0, hw0⟩ : ∃ w0, w.alloc (.cells #[.slice aes u.es.length ces, .int .i64 u.hd.k, .string u.hd.s, .slice ahd u.hd.xs.length chd, .slice abd u.bd.length cbd] 36) = w0 := ⟨_, rfl⟩
  have hsz0 : w0.heap.size = w.heap.size + 1 := by rw [← hw0]; simp
  rw [hw0] at hb0 k0
  have HST := Lib.hid (show PWRel w0 u.es en n (.slice (some ⟨w.heap.size + 1, 0, none⟩) 1 1) (.int .i64 0) (w0.alloc (.cells #[.int .i64 (n : Int)] 3)) from
    ⟨[n], 0, w.heap.size + 1, 1, rfl, rfl, Bfs.start _ _ _, by
      rw [← hsz0]
      exact ⟨rfl, .inr ⟨w0.heap.size, 1, #[.int .i64 (n : Int)], rfl, Nat.le_refl _, heap_alloc_new w0 _, Nat.le_refl _, by unfold maxLen; omega, rfl, rfl⟩⟩, (Below.refl _ _).alloc (Nat.le_refl _) _⟩)
  have HR0 := Lib.hid r0
  have HS := Lib.hid hS
  have HTT := Lib.hid T
  have HB0 := Lib.hid hb0
  have HK0 := Lib.hid k0
  have HFE := Lib.hid hfe
  have HFC := Lib.hid hfc
  clear r0 r1 r2 hS hb0 k0 T hfe hfc
  go_enter Tryz.func87, Tryz.ntmps87
  go_wp2
  clear hsz0
  go_loopw [7, 8] (fun v7 v8 wr => PWRel w0 u.es en n v7 v8 wr) (fun _ v8 _ => (n + 1 - (intOf v8).toNat))
  case atStart => exact HST.out
  case round =>
    obtain ⟨L, i, g, cap, rfl, rfl, hB, hown, hb⟩ := hrel
    clear HST
    have hLl := hB.len HTT.out hn
    have hil := hB.le
    by_cases hlt : i < L.length
    · have hd : decide ((i : Int) < (L.length : Int)) = true := decide_eq_true (by omega)
      have hLi : L[i] < u.es.length := by have := (hB.inn _ (List.getElem_mem hlt)).le HTT.out hn; omega
      have hB2 := hB.step HTT.out hn hlt
      obtain ⟨m, hm⟩ : ∃ m, L[i] = m := ⟨_, rfl⟩
      rw [hm] at hLi hB2
      have K1 := (hb.block _ (lt_of_block HK0.out)).trans HK0.out
      have q0 := cell_of_row _ w.heap.size 0 _ _ _ K1
      simp only [List.getElem?_toArray, List.getElem?_cons_zero] at q0
      obtain ⟨b, off, vs, ha, hSb, hvn, hcc, axs, cxs, rfl, hI⟩ := RowIn.kept FIt_keeps HR0.out (Same.below HS.out (below_step HB0.out hb)) m hLi
      subst ha
      have x0 : wr.cell? ⟨b, off + m * 3, none⟩ = some (.int .i64 u.es[m].k) := hcc 0 (by simp)
      have x1 : wr.cell? ⟨b, off + m * 3 + 1, none⟩ = some (.string u.es[m].s) := hcc 1 (by simp)
      have x2 : wr.cell? ⟨b, off + m * 3 + 2, none⟩ = some (.slice axs u.es[m].xs.length cxs) := hcc 2 (by simp)
      have y0 : wr.cell? ⟨g, i, none⟩ = some (.int .i64 (m : Int)) := by
        rw [hown.cellAt i (by omega)]
        simp [intCells, ints, hlt, hm]
      rw [← expAt_lt hLi] at x0 x1 x2 hI
      have hke : kidsE u.es en m = if en (expAt u.es m) then (expAt u.es m).xs.map Int.toNat else [] := rfl
      have hkx := HTT.out.kid m hLi
      have hkl := kids_len HTT.out hLi
      obtain ⟨x, hx⟩ : ∃ x, expAt u.es m = x := ⟨_, rfl⟩
      rw [hx] at x0 x1 x2 hI hke hkx hkl
      have HB2 := Lib.hid hB2
      have HKE := Lib.hid hke
      have HKX := Lib.hid hkx
      have HI := Lib.hid hI
      have HOWN := Lib.hid hown
      have HB := Lib.hid hb
      have hfe := HFE.out
      clear hB hB2 hke hkx hI hown hb K1 hcc hSb hvn hx hm
      have n0 := World.new_ne wr _ q0
      have n1 := World.new_ne wr _ x0
      have n2 := World.new_ne wr _ x1
      have n3 := World.new_ne wr _ x2
      have n4 := World.new_ne wr _ y0
      have z0 : (0 : Int) ≤ (i : Int) := by omega
      have z1 : (i : Int) < (L.length : Int) := by omega
      have z2 : (0 : Int) ≤ (m : Int) := by omega
      have z3 : (m : Int) < (u.es.length : Int) := by omega
      go_wp2
      go_region_held3 (fun w' => w'.cell? ⟨w.heap.size, 0, none⟩ = some (.slice (some ⟨b, off, none⟩) u.es.length ces) ∧ w'.cell? ⟨g, i, none⟩ = some (.int .i64 (m : Int)) ∧ w'.cell? ⟨b, off + m * 3, none⟩ = some (.int .i64 x.k) ∧ w'.cell? ⟨b, off + m * 3 + 1, none⟩ = some (.string x.s) ∧ w'.cell? ⟨b, off + m * 3 + 2, none⟩ = some (.slice axs x.xs.length cxs)) (go_keep) (fail)
      have hbW : Below wr.heap.size wr (wr.alloc (Obj.cells #[.int .i64 x.k, .string x.s, .slice axs x.xs.length cxs] 49)).drew := ((Below.refl _ _).alloc (Nat.le_refl _) _).drew
      have kW : (wr.alloc (Obj.cells #[.int .i64 x.k, .string x.s, .slice axs x.xs.length cxs] 49)).drew.heap[wr.heap.size]? = _ := heap_alloc_new wr (Obj.cells #[.int .i64 x.k, .string x.s, .slice axs x.xs.length cxs] 49)
      obtain ⟨W, hW⟩ : ∃ W, (wr.alloc (Obj.cells #[.int .i64 x.k, .string x.s, .slice axs x.xs.length cxs] 49)).drew = W := ⟨_, rfl⟩
      rw [hW] at hbW kW ⊢
      have c0 := cell_of_row _ wr.heap.size 0 _ _ _ kW
      have c1 := cell_of_row _ wr.heap.size 1 _ _ _ kW
      have c2 := cell_of_row _ wr.heap.size 2 _ _ _ kW
      simp only [List.getElem?_toArray, List.getElem?_cons_zero, List.getElem?_cons_succ] at c0 c1 c2
      have HC := Lib.hid (HFC.out W x axs cxs)
      have HBW := Lib.hid hbW
      have HKW := Lib.hid kW
      clear hW hbW kW n0 n1 n2 n3 n4 z0 z1 z2 z3 q0 x0 x1 x2 y0
      go_wp2_with fail
      refine HC.out.mono ?_
      rintro e w3 ⟨rfl, hb3⟩
      have hbr3 := below_step HBW.out hb3
      have hb03 := below_step HB.out hbr3
      have ho3 := row_kept HOWN.out hbr3
      have K3 := (hb3.block _ (lt_of_block HKW.out)).trans HKW.out
      have c3 := cell_of_row _ wr.heap.size 2 _ _ _ K3
      simp only [List.getElem?_toArray, List.getElem?_cons_zero, List.getElem?_cons_succ] at c3
      have hI3 := HI.out.kept (Same.below (fun b' h' => Nat.lt_of_lt_of_le (HS.out b' h') (below_step HB0.out HB.out).size) hbr3)
      cases hen : en x with
      | true =>
        have hk := HKE.out
        rw [hen, if_pos rfl] at hk
        rw [← ints_len L] at ho3
        obtain ⟨g', cap', w4, hrun, ho4, hb4⟩ := append_ints ho3 S axs cxs x.xs hI3 (by rw [ints_len]; omega) (by omega) hb03 hb03.size
        rw [ints_len] at hrun
        rw [ints_kids L x.xs (fun y hy => (HKX.out y hy).1), ← hk, ints_len] at ho4
        have hL2 : L.length + x.xs.length = (L ++ kidsE u.es en m).length := by rw [hk, List.length_append, List.length_map]
        rw [ints_len, hL2] at ho4
        have HR := Lib.hid (show PWRel w0 u.es en n (.slice (some ⟨g', 0, none⟩) (L.length + x.xs.length) cap') (.int .i64 ((i : Int) + 1)) w4 from ⟨L ++ kidsE u.es en m, i + 1, g', cap', by rw [hL2], by go_num, HB2.out, ho4, hb4⟩)
        have HRUN := Lib.hid hrun
        clear hk ho3 hrun ho4 hb4 hL2 hI3 K3 hb03 hbr3 hb3 HB2 HKE HKX HI HOWN HB HBW HKW HC hen c0 c1 c2
        go_wp2_with (first
          | (at_builtin
             refine wpList_append_run rfl (.tmp 29) (.tmp 31) _ rfl rfl rfl HRUN.out ?_))
        go_roundw
        case rel => exact HR.out
        case measure => (simp [intOf] <;> omega)
      | false =>
        have hk := HKE.out
        rw [hen] at hk
        have hB3 := HB2.out
        rw [hk, if_neg (by decide), List.append_nil] at hB3
        have HR := Lib.hid (show PWRel w0 u.es en n (.slice (some ⟨g, 0, none⟩) L.length cap) (.int .i64 ((i : Int) + 1)) w3 from ⟨L, i + 1, g, cap, rfl, by go_num, hB3, ho3, hb03⟩)
        clear hk ho3 hI3 K3 hb03 hbr3 hb3 HB2 HKE HKX HI HOWN HB HBW HKW HC hen c0 c1 c2 hB3
        go_wp2
        go_roundw
        case rel => exact HR.out
        case measure => (simp [intOf] <;> omega)
    · obtain rfl : i = L.length := by omega
      have hd : decide ((L.length : Int) < (L.length : Int)) = false := by simp
      have hp := hB.perm HTT.out hn
      have hpl := hp.length_eq
      obtain ⟨cur, hg, hh, h1, h2, h3, h4⟩ := own_block hown
      have hH : Holds (Value.int .i64) wr g 0 (ints L).toArray := holds_own (Value.int .i64) (base := w0.heap.size) (e := 3) (cap := cap) (by
        rw [show (ints L).toArray.size = L.length by simp [ints]]; exact hown)
      have HSO := Lib.hid (Tryz.slices_Sort_int g 0 cap (ints L) wr hH (lt_of_block hh) (by rw [ints_len]; omega))
      rw [ints_len, ints_sorted hp] at HSO
      have HFIN := Lib.hid (fun (m : Nat) (os : Array Obj) => (⟨by
          have := own_sorted (Value.int .i64) (m := m) (os := os) hown (d := (ints (parts u.es en n)).toArray) (by rw [show (ints (parts u.es en n)).toArray.size = (parts u.es en n).length by simp [ints]]; omega)
          rw [hpl] at this
          exact owns_mono HB0.out.size this, below_step HB0.out (hb.grown (grown_sorted (Value.int .i64) _) hb.size (fun j hj => by cases hj; exact hg))⟩ :
        (Sort.grow (Sort.putRow (Value.int .i64) (Sort.ahead wr m) g 0 (ints (parts u.es en n)).toArray) os).ownsRow w.heap.size 3 1 (.slice (some ⟨g, 0, none⟩) (parts u.es en n).length cap) (parts u.es en n).length (intCells (ints (parts u.es en n))) ∧ Below w.heap.size w (Sort.grow (Sort.putRow (Value.int .i64) (Sort.ahead wr m) g 0 (ints (parts u.es en n)).toArray) os)))
      have HPL := Lib.hid hpl
      clear hp hpl hg hh h1 h2 h3 h4 hH hown hb hB
      go_wp2_with fail
      refine HSO.out.mono ?_
      rintro e w' ⟨rfl, m, os, rfl⟩
      have hfin := HFIN.out m os
      have HF2 := Lib.hid hfin
      clear HFIN hfin HSO
      generalize Sort.grow (Sort.putRow (Value.int .i64) (Sort.ahead wr m) g 0 (ints (parts u.es en n)).toArray) os = W at *
      go_wp2
      go_ret
      refine ⟨⟨g, cap, ?_, HF2.out.1⟩, HF2.out.2⟩
      rw [← HPL.out]
      rfl

end Go.Proofs.YtilijbpbnlnhlaaGreat.Pr
