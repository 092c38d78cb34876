/-
  laws.markTokS and laws.heldTokS: a row of tokens is marked, and looked at again.
-/
import Derived.Test.YtngnmfoephegmaaDoorTokRows
namespace Go.Proofs.YtngnmfoephegmaaDoor
open Go Go.RowKit Go.Maps Go.WideMaps

/-- The first i tokens of a row are marked. -/
def Marked (xs : List Value) (i : Nat) : Prop :=
  ∀ j, j < i → xs[j * 3]? = some (.int .i64 ((1 + 3 * j : Nat) : Int)) ∧ (∃ m : ByteArray, lst m = markW (2 + 3 * j) ∧ xs[j * 3 + 1]? = some (.string m)) ∧ xs[j * 3 + 2]? = some (.int .i64 ((3 + 3 * j : Nat) : Int))

theorem Marked.step {xs : List Value} {i : Nat} (h : Marked xs i) (hl : i * 3 + 2 < xs.length) {m : ByteArray} (hm : lst m = markW (2 + 3 * i)) :
    Marked (((xs.set (i * 3) (.int .i64 ((1 + 3 * i : Nat) : Int))).set (i * 3 + 1) (.string m)).set (i * 3 + 2) (.int .i64 ((3 + 3 * i : Nat) : Int))) (i + 1) := by
  intro j hj
  by_cases hji : j = i
  · subst hji
    refine ⟨?_, ⟨m, hm, ?_⟩, ?_⟩
    · rw [List.getElem?_set_ne (by omega), List.getElem?_set_ne (by omega), List.getElem?_set_self (by omega)]
    · rw [List.getElem?_set_ne (by omega), List.getElem?_set_self (by rw [List.length_set]; omega)]
    · rw [List.getElem?_set_self (by rw [List.length_set, List.length_set]; omega)]
  · obtain ⟨h0, ⟨m', hm', h1⟩, h2⟩ := h j (by omega)
    refine ⟨?_, ⟨m', hm', ?_⟩, ?_⟩
    · rw [List.getElem?_set_ne (by omega), List.getElem?_set_ne (by omega), List.getElem?_set_ne (by omega)]; exact h0
    · rw [List.getElem?_set_ne (by omega), List.getElem?_set_ne (by omega), List.getElem?_set_ne (by omega)]; exact h1
    · rw [List.getElem?_set_ne (by omega), List.getElem?_set_ne (by omega), List.getElem?_set_ne (by omega)]; exact h2

def MarkRelT (w : World) (B : Nat) (v : Value) (n : Nat) (v1 v5 : Value) (wr : World) : Prop :=
  ∃ (i k : Nat) (xs : List Value), v5 = .int .i64 (i : Int) ∧ v1 = .int .i64 (k : Int) ∧ k = 1 + 3 * i ∧ i ≤ n ∧ Marked xs i ∧ wr.ownsRow B 29 3 v n xs ∧ Below B w wr

theorem cell_some {w : World} {base : Nat} {e : TypeId} {g cap n : Nat} {xs : List Value} (h : w.ownsRow base e 3 (.slice (some ⟨g, 0, none⟩) n cap) n xs) (j : Nat) (hj : j < n * 3) : ∃ u, w.cell? ⟨g, j, none⟩ = some u :=
  ⟨_, (h.cellAt j hj).trans (List.getElem?_eq_getElem (by rw [h.1]; exact hj))⟩

set_option maxRecDepth 100000 in
set_option maxHeartbeats 2000000 in
theorem markTokS_any (B : Nat) (v : Value) (n : Nat) (hn : n ≤ 3000) (xs : List Value) (w : World) (hB : B ≤ w.heap.size) (hown : w.ownsRow B 29 3 v n xs) :
    Calls Tryd.prog 10 #[v, .int .i64 1] w fun e w' => e = .returned (.int .i64 ((1 + 3 * n : Nat) : Int)) ∧ (∃ ys : List Value, Marked ys n ∧ w'.ownsRow B 29 3 v n ys) ∧ Below B w w' := by
  obtain ⟨av, cv, rfl⟩ := owns_shape hown
  have HO := Lib.hid hown
  clear hown
  go_enter Tryd.func10, Tryd.ntmps10
  go_wp2
  go_loopw [1, 5] (fun v1 v5 wr => MarkRelT w B (.slice av n cv) n v1 v5 wr) (fun _ v5 _ => (n - (intOf v5).toNat))
  case atStart => exact ⟨0, 1, xs, rfl, rfl, rfl, Nat.zero_le _, fun j h => by omega, HO.out, Below.refl _ _⟩
  case round =>
    obtain ⟨i, k, ys, rfl, rfl, hk, hi, hM, hown, hb⟩ := hrel
    have hBs : B ≤ wr.heap.size := Nat.le_trans hB hb.size
    have HK := Lib.hid hk
    have hk2 : k ≤ 9001 := by omega
    have HM := Lib.hid hM
    clear hk hM
    by_cases hlt : i < n
    · obtain ⟨g, cap, hgv, hbg, hgl⟩ := hown.form (by omega)
      simp only [Value.slice.injEq, true_and] at hgv
      obtain ⟨rfl, rfl⟩ := hgv
      obtain ⟨u0, c0⟩ := cell_some hown (i * 3) (by omega)
      have f0 := row_frozen hown (i * 3)
      have ho1 := owns_set3 hown (i * 3) (.int .i64 (k : Int))
      have hb1 := hb.setCell (p := ⟨g, i * 3, none⟩) hbg (.int .i64 (k : Int))
      have HO1 := Lib.hid ho1
      have HB1 := Lib.hid hb1
      have HLN := Lib.hid hown.1
      have HMT := Lib.hid (fun W => markText_wide (k + 1) (by omega) (by omega) W)
      rw [show ((k + 1 : Nat) : Int) = (k : Int) + 1 from by omega] at HMT
      clear ho1 hb1 hown hb
      go_wp2_with fail
      refine (HMT.out _).mono ?_
      rintro e w3 ⟨⟨m, rfl, hm⟩, hb3⟩
      have ho3 := row_kept HO1.out hb3
      have hb4 := HB1.out.trans (hb3.mono (by simp; exact hBs))
      obtain ⟨u1, c1⟩ := cell_some ho3 (i * 3 + 1) (by omega)
      have f1 := row_frozen ho3 (i * 3 + 1)
      have ho4 := owns_set3 ho3 (i * 3 + 1) (.string m)
      have hb5 := hb4.setCell (p := ⟨g, i * 3 + 1, none⟩) hbg (.string m)
      obtain ⟨u2, c2⟩ := cell_some ho4 (i * 3 + 2) (by omega)
      have f2 := row_frozen ho4 (i * 3 + 2)
      have ho5 := owns_set3 ho4 (i * 3 + 2) (.int .i64 ((k : Int) + 1 + 1))
      have hb6 := hb5.setCell (p := ⟨g, i * 3 + 2, none⟩) hbg (.int .i64 ((k : Int) + 1 + 1))
      have R : MarkRelT w B (.slice (some ⟨g, 0, none⟩) n cv) n (.int .i64 ((k : Int) + 1 + 1 + 1)) (.int .i64 ((i : Int) + 1)) (((w3.setCell ⟨g, i * 3 + 1, none⟩ (.string m)).setCell ⟨g, i * 3 + 2, none⟩ (.int .i64 ((k : Int) + 1 + 1)))) := by
        have hk := HK.out
        have hM2 := HM.out.step (by rw [HLN.out]; omega) (m := m) (by rw [hm]; congr 1; omega)
        refine ⟨i + 1, k + 3, _, by go_num, by go_num, by omega, by omega, hM2, ?_, hb6⟩
        rw [show ((1 + 3 * i : Nat) : Int) = (k : Int) from by omega, show ((3 + 3 * i : Nat) : Int) = (k : Int) + 1 + 1 from by omega]
        exact ho5
      have HR := Lib.hid R
      clear R ho3 ho4 ho5 hb4 hb5 hb6 hb3 hm HMT HO1 HB1 HLN HM HK
      go_wp2
      go_roundw
      case rel => exact HR.out
      case measure => simp [intOf]; omega
    · obtain rfl : i = n := by omega
      have hlt2 : decide ((i : Int) < (i : Int)) = false := by simp
      have HO2 := Lib.hid hown
      clear hown
      go_wp2
      go_ret
      exact ⟨by rw [HK.out]; rfl, ⟨ys, HM.out, HO2.out⟩, hb⟩

def HeldRelT (w : World) (n : Nat) (v1 v5 : Value) (wr : World) : Prop := ∃ i k : Nat, v5 = .int .i64 (i : Int) ∧ v1 = .int .i64 (k : Int) ∧ k = 1 + 3 * i ∧ i ≤ n ∧ Below w.heap.size w wr

set_option maxRecDepth 100000 in
set_option maxHeartbeats 2000000 in
theorem heldTokS_any (B : Nat) (v : Value) (n : Nat) (hn : n ≤ 3000) (xs : List Value) (w : World) (hM : Marked xs n) (hown : w.ownsRow B 29 3 v n xs) :
    Calls Tryd.prog 11 #[v, .int .i64 1] w fun e w' => e = .returned (.int .i64 ((1 + 3 * n : Nat) : Int)) ∧ Below w.heap.size w w' := by
  obtain ⟨av, cv, rfl⟩ := owns_shape hown
  have HO := Lib.hid hown
  have HM := Lib.hid hM
  clear hown hM
  go_enter Tryd.func11, Tryd.ntmps11
  go_wp2
  go_loopw [1, 5] (fun v1 v5 wr => HeldRelT w n v1 v5 wr) (fun _ v5 _ => (n - (intOf v5).toNat))
  case atStart => exact ⟨0, 1, rfl, rfl, rfl, Nat.zero_le _, Below.refl _ _⟩
  case round =>
    obtain ⟨i, k, rfl, rfl, hk, hi, hb⟩ := hrel
    have HK := Lib.hid hk
    have hk2 : k ≤ 9001 := by omega
    clear hk
    by_cases hlt : i < n
    · have hown := row_kept HO.out hb
      obtain ⟨g, cap, hgv, hbg, hgl⟩ := hown.form (by omega)
      simp only [Value.slice.injEq, true_and] at hgv
      obtain ⟨rfl, rfl⟩ := hgv
      obtain ⟨t0, ⟨x, hx, t1⟩, t2⟩ := HM.out i hlt
      have x0 := (hown.cellAt (i * 3) (by omega)).trans t0
      have x1 := (hown.cellAt (i * 3 + 1) (by omega)).trans t1
      have x2 := (hown.cellAt (i * 3 + 2) (by omega)).trans t2
      rw [show ((1 + 3 * i : Nat) : Int) = (k : Int) from by have := HK.out; omega] at x0
      rw [show ((3 + 3 * i : Nat) : Int) = (k : Int) + 1 + 1 from by have := HK.out; omega] at x2
      have HX := Lib.hid hx
      have hB0 : Below wr.heap.size wr wr := Below.refl _ _
      have HMT := Lib.hid (fun W => markText_wide (k + 1) (by omega) (by omega) W)
      rw [show ((k + 1 : Nat) : Int) = (k : Int) + 1 from by omega] at HMT
      have HR := Lib.hid (fun (w3 : World) (h : Below wr.heap.size wr w3) => (⟨i + 1, k + 3, by go_num, by go_num, by have := HK.out; omega, by omega, hb.trans (h.mono hb.size)⟩ : HeldRelT w n (.int .i64 ((k : Int) + 1 + 1 + 1)) (.int .i64 ((i : Int) + 1)) w3))
      have hkk : ((k : Int) != (k : Int)) = false := by simp
      have hkk2 : ((k : Int) + 1 + 1 != (k : Int) + 1 + 1) = false := by simp
      clear hown t0 t1 t2 hx hb hbg
      go_wp2
      go_region_held3 (fun w' => w'.cell? ⟨g, i * 3 + 1, none⟩ = some (.string x) ∧ w'.cell? ⟨g, i * 3 + 2, none⟩ = some (.int .i64 ((k : Int) + 1 + 1)) ∧ Below wr.heap.size wr w') (refine ⟨?_, ?_, ?_⟩ <;> (first | assumption | (simp [*]; done) | (apply Below.drew; assumption)))
        (first
          | (go_at_call 36
             refine (HMT.out _).mono ?_
             rintro e w3 ⟨⟨m, rfl, hm⟩, hb3⟩
             have hs1 : Below wr.heap.size wr w3 := hB0.drew.trans hb3
             have hs2 : w3.cell? ⟨g, i * 3 + 1, none⟩ = some (.string x) := (hb3.cell hgl).trans x1
             have hs3 : w3.cell? ⟨g, i * 3 + 2, none⟩ = some (.int .i64 ((k : Int) + 1 + 1)) := (hb3.cell hgl).trans x2
             obtain rfl : x = m := lst_inj (by rw [HX.out, hm]; congr 1; have := HK.out; omega)
             clear hm hb3))
      have hxx : (x.toList != x.toList) = false := by simp
      go_wp2
      go_roundw
      case rel => exact HR.out _ (by assumption)
      case measure => simp [intOf]; omega
    · obtain rfl : i = n := by omega
      have hlt2 : decide ((i : Int) < (i : Int)) = false := by simp
      go_wp2
      go_ret
      exact ⟨by rw [HK.out]; rfl, hb⟩

end Go.Proofs.YtngnmfoephegmaaDoor
