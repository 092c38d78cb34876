/-
  THE WALK over spec.l08Right.
-/
import Derived.Test.YtgjmefcognoepaaPG2
namespace Go.Proofs.Ytgjmefcognoepaa.Pr
open Go Go.RowKit Go.Maps Go.WideMaps

def RtRel (w0 : World) (l : List Ar) (v : Value) (wr : World) : Prop :=
  ∃ k : Nat, v = .int .i64 (k : Int) ∧ k ≤ l.length ∧ (∀ i (h : i < l.length), i < k → inA l[i].a ∧ inA l[i].b) ∧ (∀ i (h : i + 1 < l.length), i + 1 < k → arcKey l[i] < arcKey l[i + 1]) ∧ Below w0.heap.size w0 wr

set_option maxRecDepth 100000 in
set_option maxHeartbeats 2000000 in
theorem specRight_any (g : Gr) (vs : List Value) (S : Nat → Prop) (w : World) (hF : FGr S w vs g) (hS : ∀ b, S b → b < w.heap.size) (hl : g.rs.length ≤ 1048576) :
    Calls Try.prog 12 #[.agg vs.toArray] w fun e w' => (∃ r : Bool, e = .returned (.bool r) ∧ (r = true ↔ RightA g.rs)) ∧ Below w.heap.size w w' := by
  obtain ⟨ars, crs, rfl, r0⟩ := hF
  have hb0 : Below w.heap.size w (w.alloc (.cells #[.int .i64 g.f, .int .i64 g.t, .slice ars g.rs.length crs] 38)) := (Below.refl _ _).alloc (Nat.le_refl _) _
  have k0 := heap_alloc_new w (.cells #[.int .i64 g.f, .int .i64 g.t, .slice ars g.rs.length crs] 38)
  obtain ⟨w0, hw0⟩ : ∃ w0, w.alloc (.cells #[.int .i64 g.f, .int .i64 g.t, .slice ars g.rs.length crs] 38) = w0 := ⟨_, rfl⟩
  rw [hw0] at hb0 k0
  have HR := Lib.hid r0
  have HS := Lib.hid hS
  have HB0 := Lib.hid hb0
  have HK0 := Lib.hid k0
  clear r0 hS hb0 k0
  go_enter Try.func12, Try.ntmps12
  go_wp2
  go_loopw [3] (fun v wr => RtRel w0 g.rs v wr) (fun v _ => (g.rs.length - (intOf v).toNat))
  case atStart => exact ⟨0, rfl, Nat.zero_le _, fun i h h2 => by omega, fun i h h2 => by omega, Below.refl _ _⟩
  case round =>
    obtain ⟨k, rfl, hk, hin, hup, hb⟩ := hrel
    have hbb := below_step HB0.out hb
    have K1 := (hb.block _ (lt_of_block HK0.out)).trans HK0.out
    have q0 := cell_of_row _ w.heap.size 0 _ _ _ K1
    have q1 := cell_of_row _ w.heap.size 1 _ _ _ K1
    have q2 := cell_of_row _ w.heap.size 2 _ _ _ K1
    simp only [List.getElem?_toArray, List.getElem?_cons_zero, List.getElem?_cons_succ] at q0 q1 q2
    by_cases hlt : k < g.rs.length
    · obtain ⟨b, off, vs, rfl, hSb, hvn, hcc, hFF⟩ := RowIn.kept FAr_keeps HR.out (Same.below HS.out hbb) k hlt
      obtain rfl := hFF
      have x0 : wr.cell? ⟨b, off + k * 3, none⟩ = some (.int .i64 g.rs[k].a) := hcc 0 (by simp)
      have x1 : wr.cell? ⟨b, off + k * 3 + 1, none⟩ = some (.int .i64 g.rs[k].b) := hcc 1 (by simp)
      have x2 : wr.cell? ⟨b, off + k * 3 + 2, none⟩ = some (.bool g.rs[k].s) := hcc 2 (by simp)
      have hbE : Below wr.heap.size wr (wr.alloc (.cells #[.int .i64 g.rs[k].a, .int .i64 g.rs[k].b, .bool g.rs[k].s] 59)) := (Below.refl _ _).alloc (Nat.le_refl _) _
      have kE := heap_alloc_new wr (.cells #[.int .i64 g.rs[k].a, .int .i64 g.rs[k].b, .bool g.rs[k].s] 59)
      obtain ⟨⟨xa, xb, xs⟩, hx⟩ : ∃ x, g.rs[k] = x := ⟨_, rfl⟩
      rw [hx] at x0 x1 x2 hbE kE
      dsimp only at x0 x1 x2 hbE kE
      obtain ⟨wE, hwE⟩ : ∃ wE, wr.alloc (.cells #[.int .i64 xa, .int .i64 xb, .bool xs] 59) = wE := ⟨_, rfl⟩
      rw [hwE] at hbE kE
      have e0 := cell_of_row _ wr.heap.size 0 _ _ _ kE
      have e1 := cell_of_row _ wr.heap.size 1 _ _ _ kE
      have e2 := cell_of_row _ wr.heap.size 2 _ _ _ kE
      simp only [List.getElem?_toArray, List.getElem?_cons_zero, List.getElem?_cons_succ] at e0 e1 e2
      have HA := Lib.hid (btw_any xa 0 5)
      have HBb := Lib.hid (btw_any xb 0 5)
      have HBE := Lib.hid (below_step hbb hbE)
      clear hcc hvn
      have HNO := Lib.hid (fun (h : ¬ RightA g.rs) => (⟨⟨false, rfl, by simp [h]⟩, HBE.out⟩ : (∃ r : Bool, Ending.returned (.bool false) = .returned (.bool r) ∧ (r = true ↔ RightA g.rs)) ∧ Below w.heap.size w wE))
      have HHX := Lib.hid hx
      go_wp2_with fail
      refine (HA.out wE).mono ?_
      rintro e w2 ⟨rfl, rfl⟩
      cases hA : (decide (0 ≤ xa) && decide (xa ≤ 5)) with
      | false =>
        have HR := Lib.hid (HNO.out (fun R => by have h1 := (R.pl k hlt).1; rw [HHX.out] at h1; unfold inA at h1; dsimp only at h1; simp at hA; omega))
        clear HNO hA HA HBb hin hup
        go_wp2
        go_ret
        exact HR.out
      | true =>
      go_wp2_with fail
      refine (HBb.out w2).mono ?_
      rintro e w3 ⟨rfl, rfl⟩
      cases hB : (decide (0 ≤ xb) && decide (xb ≤ 5)) with
      | false =>
        have HR := Lib.hid (HNO.out (fun R => by have h1 := (R.pl k hlt).2; rw [HHX.out] at h1; unfold inA at h1; dsimp only at h1; simp at hB; omega))
        clear HNO hB HA HBb hin hup hA
        go_wp2
        go_ret
        exact HR.out
      | true =>
      have hab : inA xa ∧ inA xb := by unfold inA; simp at hA hB; omega
      clear hA hB HA HBb
      have HSTEP := Lib.hid (fun (hk2 : k = 0 ∨ ∃ j, ∃ (h : j < g.rs.length), k = j + 1 ∧ arcKey g.rs[j] < 10 * xa + xb) (q : Nat) => (⟨k + 1, by go_num, by omega, fun i h h2 => by
          by_cases hik : i = k
          · subst hik; rw [HHX.out]; exact hab
          · exact hin i h (by omega), fun i h h2 => by
          by_cases hik : i + 1 = k
          · subst hik
            rw [HHX.out]
            rcases hk2 with h3 | ⟨j, hj, h3, h4⟩
            · omega
            · obtain rfl : i = j := by omega
              exact h4
          · exact hup i h (by omega), below_drewN (below_step hb hbE) q⟩ : RtRel w0 g.rs (.int .i64 ((k : Int) + 1)) (w3.drewN q)))
      by_cases hk0 : k = 0
      · subst hk0
        have HR := Lib.hid (HSTEP.out (.inl rfl))
        clear HSTEP HNO hin hup HHX
        go_wp2
        go_quiet (fail)
        go_wp2
        go_roundw
        case rel => exact HR.out _
        case measure => (simp [intOf] <;> omega)
      · obtain ⟨j, rfl⟩ : ∃ j, k = j + 1 := ⟨k - 1, by omega⟩
        have hd0 : decide ((0 : Int) < ((j + 1 : Nat) : Int)) = true := decide_eq_true (by omega)
        have hjl : j < g.rs.length := by omega
        obtain ⟨b', off', vs', hab', hSb', hvn', hcc', hFF'⟩ := RowIn.kept FAr_keeps HR.out (Same.below HS.out HBE.out) j hjl
        simp only [Option.some.injEq, Addr.mk.injEq, and_true] at hab'
        obtain ⟨rfl, rfl⟩ := hab'
        obtain rfl := hFF'
        have y0 : w3.cell? ⟨b, off + j * 3, none⟩ = some (.int .i64 g.rs[j].a) := hcc' 0 (by simp)
        have y1 : w3.cell? ⟨b, off + j * 3 + 1, none⟩ = some (.int .i64 g.rs[j].b) := hcc' 1 (by simp)
        have hpj := hin j hjl (by omega)
        have HSJ := Lib.hid (fun (h : 10 * g.rs[j].a + g.rs[j].b < 10 * xa + xb) => HSTEP.out (.inr ⟨j, hjl, rfl, h⟩))
        have HNJ := Lib.hid (fun (h : ¬ 10 * g.rs[j].a + g.rs[j].b < 10 * xa + xb) (q : Nat) => (⟨⟨false, rfl, by
          have h3 : ¬ RightA g.rs := fun R => h (by have := R.up j hlt; rw [HHX.out] at this; exact this)
          simp [h3]⟩, below_drewN HBE.out q⟩ : (∃ r : Bool, Ending.returned (.bool false) = .returned (.bool r) ∧ (r = true ↔ RightA g.rs)) ∧ Below w.heap.size w (w3.drewN q)))
        clear hcc' hvn' HSTEP HNO hin hup HHX hSb' hx
        obtain ⟨pa, hpa⟩ : ∃ pa, g.rs[j].a = pa := ⟨_, rfl⟩
        obtain ⟨pb, hpb⟩ : ∃ pb, g.rs[j].b = pb := ⟨_, rfl⟩
        rw [hpa] at y0 hpj HSJ HNJ
        rw [hpb] at y1 hpj HSJ HNJ
        clear hpa hpb
        unfold inA at hab hpj
        have z0 := (hbE.cell (p := ⟨w.heap.size, 2, none⟩) (cell_lt q2)).trans q2
        have m0 : IntKind.i64.wrap (((j + 1 : Nat) : Int) - 1) = (j : Int) := by rw [IntWalk.i64_in _ (by omega)]; omega
        have m1 : IntKind.i64.wrap (10 * pa) = 10 * pa := IntWalk.i64_in _ (by omega)
        have m2 : IntKind.i64.wrap (10 * xa) = 10 * xa := IntWalk.i64_in _ (by omega)
        have m3 : IntKind.i64.wrap (10 * pa + pb) = 10 * pa + pb := IntWalk.i64_in _ (by omega)
        have m4 : IntKind.i64.wrap (10 * xa + xb) = 10 * xa + xb := IntWalk.i64_in _ (by omega)
        by_cases hlk : 10 * pa + pb < 10 * xa + xb
        · have hd : decide (10 * xa + xb ≤ 10 * pa + pb) = false := decide_eq_false (by omega)
          have HR2 := Lib.hid (HSJ.out hlk)
          clear HSJ HNJ hlk
          go_wp2
          go_quiet (fail)
          go_wp2
          go_roundw
          case rel => exact HR2.out _
          case measure => (simp [intOf] <;> omega)
        · have hd : decide (10 * xa + xb ≤ 10 * pa + pb) = true := decide_eq_true (by omega)
          have HR2 := Lib.hid (HNJ.out hlk)
          clear HSJ HNJ hlk
          go_wp2
          go_quiet (fail)
          go_wp2
          go_ret
          exact HR2.out _
    · obtain rfl : k = g.rs.length := by omega
      have hd : decide ((g.rs.length : Int) < (g.rs.length : Int)) = false := by simp
      have HRI := Lib.hid (show RightA g.rs from ⟨fun i h => hin i h h, fun i h => hup i h h⟩)
      have HBB := Lib.hid hbb
      clear hin hup hbb hb K1
      go_wp2
      go_ret
      exact ⟨⟨true, rfl, by simp [HRI.out]⟩, HBB.out⟩

end Go.Proofs.Ytgjmefcognoepaa.Pr
