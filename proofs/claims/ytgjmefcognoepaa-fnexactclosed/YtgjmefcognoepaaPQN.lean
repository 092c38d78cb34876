/-
  THE LAWS' OWN MARKING of an answer: lists of graphs in memory of their own.
-/
import Derived.Test.YtgjmefcognoepaaPQ2
namespace Go.Proofs.Ytgjmefcognoepaa.Pr
open Go Go.RowKit Go.Maps Go.WideMaps

def mkA (k : Int) (i : Nat) : Ar := ⟨k + 3 * (i : Int), k + 3 * (i : Int) + 1, (k + 3 * (i : Int) + 1 + 1) % 3 == 0⟩
def mksA (k : Int) (n : Nat) : List Ar := (List.range n).map (mkA k)
theorem mksA_len (k : Int) (n : Nat) : (mksA k n).length = n := by simp [mksA]
theorem mks_set (k : Int) (xs : List Ar) (i : Nat) (h : i < xs.length) : (mksA k i ++ xs.drop i).set i (mkA k i) = mksA k (i + 1) ++ xs.drop (i + 1) := by
  have e : mksA k (i + 1) = mksA k i ++ [mkA k i] := by simp [mksA, List.range_succ]
  rw [List.set_append_right _ _ (by rw [mksA_len]; exact Nat.le_refl _), mksA_len, Nat.sub_self, e, List.append_assoc]
  congr 1
  rw [List.drop_eq_getElem_cons h]
  rfl

def MkOK (k : Int) (w : World) (B g cap : Nat) (xs : List Ar) (v1 v5 : Value) (wr : World) : Prop := ∃ (i : Nat), v5 = .int .i64 (i : Int) ∧ v1 = .int .i64 (k + 3 * (i : Int)) ∧ i ≤ xs.length ∧ Off (fun b => b = g) w wr ∧ wr.ownsRow B 59 3 (.slice (some ⟨g, 0, none⟩) xs.length cap) xs.length (arcCells (mksA k i ++ xs.drop i))

set_option maxRecDepth 100000 in
set_option maxHeartbeats 2000000 in
theorem markArcS_ownK (xs : List Ar) (k : Int) (hk0 : 0 ≤ k) (hk : k ≤ 1125899906842624) (B g cap : Nat) (w : World) (h : w.ownsRow B 59 3 (.slice (some ⟨g, 0, none⟩) xs.length cap) xs.length (arcCells xs)) (hn : xs.length ≤ 2097152) :
    Calls Try.prog 20 #[.slice (some ⟨g, 0, none⟩) xs.length cap, .int .i64 k] w fun e w' => e = .returned (.int .i64 (k + 3 * (xs.length : Int))) ∧ Off (fun b => b = g) w w' ∧ w'.ownsRow B 59 3 (.slice (some ⟨g, 0, none⟩) xs.length cap) xs.length (arcCells (mksA k xs.length)) := by
  have HO := Lib.hid h
  clear h
  go_enter Try.func20, Try.ntmps20
  go_wp2
  go_loopw [1, 5] (fun v1 v5 wr => MkOK k w B g cap xs v1 v5 wr) (fun _ v5 _ => (xs.length - (intOf v5).toNat))
  case atStart => exact ⟨0, rfl, by simp, Nat.zero_le _, Off.refl _ _, HO.out⟩
  case round =>
    obtain ⟨i, rfl, rfl, hi, ho, hw⟩ := hrel
    by_cases hlt : i < xs.length
    · have hd : decide ((i : Int) < (xs.length : Int)) = true := decide_eq_true (by omega)
      have hll : (mksA k i ++ xs.drop i).length = xs.length := by rw [List.length_append, mksA_len, List.length_drop]; omega
      have e1 := owns_set3 hw (i * 3) (.int .i64 (k + 3 * (i : Int)))
      have e2 := owns_set3 e1 (i * 3 + 1) (.int .i64 (k + 3 * (i : Int) + 1))
      have e3 := owns_set3 e2 (i * 3 + 2) (.bool ((k + 3 * (i : Int) + 1 + 1) % 3 == 0))
      replace e3 := (show World.ownsRow _ B 59 3 (.slice (some ⟨g, 0, none⟩) xs.length cap) xs.length ((((arcCells (mksA k i ++ xs.drop i)).set (i * 3) (.int .i64 (mkA k i).a)).set (i * 3 + 1) (.int .i64 (mkA k i).b)).set (i * 3 + 2) (.bool (mkA k i).s)) from e3)
      rw [arcCells_set _ i (mkA k i) (by omega), mks_set k xs i hlt] at e3
      obtain ⟨w1, hw1⟩ : ∃ w1, wr.setCell ⟨g, i * 3, none⟩ (.int .i64 (k + 3 * (i : Int))) = w1 := ⟨_, rfl⟩
      rw [hw1] at e1 e2 e3
      obtain ⟨w2, hw2⟩ : ∃ w2, w1.setCell ⟨g, i * 3 + 1, none⟩ (.int .i64 (k + 3 * (i : Int) + 1)) = w2 := ⟨_, rfl⟩
      rw [hw2] at e2 e3
      have lc : (arcCells (mksA k i ++ xs.drop i)).length = xs.length * 3 := by rw [arcCells_len, hll]
      obtain ⟨u0, c0⟩ : ∃ u, wr.cell? ⟨g, i * 3, none⟩ = some u := ⟨_, (hw.cellAt (i * 3) (by omega)).trans (List.getElem?_eq_getElem (by omega))⟩
      obtain ⟨u1, c1⟩ : ∃ u, w1.cell? ⟨g, i * 3 + 1, none⟩ = some u := ⟨_, (e1.cellAt (i * 3 + 1) (by omega)).trans (List.getElem?_eq_getElem (by rw [List.length_set]; omega))⟩
      obtain ⟨u2, c2⟩ : ∃ u, w2.cell? ⟨g, i * 3 + 2, none⟩ = some u := ⟨_, (e2.cellAt (i * 3 + 2) (by omega)).trans (List.getElem?_eq_getElem (by rw [List.length_set, List.length_set]; omega))⟩
      have f0 := row_frozen hw (i * 3)
      have f1 := row_frozen e1 (i * 3 + 1)
      have f2 := row_frozen e2 (i * 3 + 2)
      have HR := Lib.hid (show MkOK k w B g cap xs (.int .i64 (k + 3 * (i : Int) + 1 + 1 + 1)) (.int .i64 ((i : Int) + 1)) (w2.setCell ⟨g, i * 3 + 2, none⟩ (.bool ((k + 3 * (i : Int) + 1 + 1) % 3 == 0))) from ⟨i + 1, by go_num, by go_num, by omega, by rw [← hw2, ← hw1]; exact ((ho.set rfl _ _).set rfl _ _).set rfl _ _, e3⟩)
      clear e1 e2 e3 hw ho lc hll
      obtain ⟨m, hm, hm0, hmb⟩ : ∃ m : Int, k + 3 * (i : Int) = m ∧ 0 ≤ m ∧ m ≤ 1125899913134080 := ⟨_, rfl, by omega, by omega⟩
      rw [hm] at HR hw1 hw2 ⊢
      clear hm
      go_wp2
      go_roundw
      case rel => exact HR.out
      case measure => (simp [intOf] <;> omega)
    · obtain rfl : i = xs.length := by omega
      have hd : decide ((xs.length : Int) < (xs.length : Int)) = false := by simp
      rw [List.drop_length, List.append_nil] at hw
      have HP := Lib.hid (show Off (fun b => b = g) w wr ∧ wr.ownsRow B 59 3 (.slice (some ⟨g, 0, none⟩) xs.length cap) xs.length (arcCells (mksA k xs.length)) from ⟨ho, hw⟩)
      clear ho hw
      go_wp2
      go_ret
      exact ⟨rfl, HP.out⟩

/-- The same for every answer: also where it has no block. -/
theorem markArcS_ownV (xs : List Ar) (k : Int) (hk0 : 0 ≤ k) (hk : k ≤ 1125899906842624) (B : Nat) (av : Option Addr) (cv : Nat) (w : World) (h : w.ownsRow B 59 3 (.slice av xs.length cv) xs.length (arcCells xs)) (hn : xs.length ≤ 2097152) :
    Calls Try.prog 20 #[.slice av xs.length cv, .int .i64 k] w fun e w' => e = .returned (.int .i64 (k + 3 * (xs.length : Int))) ∧ w'.ownsRow B 59 3 (.slice av xs.length cv) xs.length (arcCells (mksA k xs.length)) ∧ w'.heap.size = w.heap.size ∧ w'.os = w.os ∧ w'.tape = w.tape ∧ w'.output = w.output ∧ ∀ b, (Value.slice av xs.length cv).ownBlock ≠ some b → w'.heap[b]? = w.heap[b]? := by
  rcases h.2 with ⟨hv, hc⟩ | ⟨g, cap, cur, hv, _⟩
  · simp only [Value.slice.injEq] at hv
    obtain ⟨rfl, h1, rfl⟩ := hv
    have hx : xs = [] := List.length_eq_zero_iff.1 h1
    subst hx
    refine (markArcS_any none 0 0 (fun _ => False) w (fun i hi => by omega) k hk0 hk (by omega)).mono ?_
    rintro e w1 ⟨rfl, ho⟩
    exact ⟨rfl, World.ownsRow_nil _ _ _ _, ho.size, ho.os, ho.tape, ho.output, fun b _ => ho.block b (fun h => h)⟩
  · simp only [Value.slice.injEq, true_and] at hv
    obtain ⟨rfl, rfl⟩ := hv
    refine (markArcS_ownK xs k hk0 hk B g cv w h hn).mono ?_
    rintro e w1 ⟨rfl, ho, hr⟩
    exact ⟨rfl, hr, ho.size, ho.os, ho.tape, ho.output, fun b hb => ho.block b (fun e => hb (by rw [e]; rfl))⟩

def HdAK (k : Int) (w : World) (n : Nat) (v1 v5 : Value) (wr : World) : Prop := ∃ i : Nat, v5 = .int .i64 (i : Int) ∧ v1 = .int .i64 (k + 3 * (i : Int)) ∧ i ≤ n ∧ wr = w

set_option maxRecDepth 100000 in
set_option maxHeartbeats 2000000 in
theorem heldArcS_ownK (n : Nat) (k : Int) (hk0 : 0 ≤ k) (hk : k ≤ 1125899906842624) (B : Nat) (av : Option Addr) (cv : Nat) (w : World) (h : w.ownsRow B 59 3 (.slice av n cv) n (arcCells (mksA k n))) (hn : n ≤ 2097152) :
    Calls Try.prog 21 #[.slice av n cv, .int .i64 k] w fun e w' => e = .returned (.int .i64 (k + 3 * (n : Int))) ∧ w' = w := by
  have HO := Lib.hid h
  clear h
  go_enter Try.func21, Try.ntmps21
  go_wp2
  go_loopw [1, 5] (fun v1 v5 wr => HdAK k w n v1 v5 wr) (fun _ v5 _ => (n - (intOf v5).toNat))
  case atStart => exact ⟨0, rfl, by simp, Nat.zero_le _, rfl⟩
  case round =>
    obtain ⟨i, rfl, rfl, hi, rfl⟩ := hrel
    by_cases hlt : i < n
    · have hd : decide ((i : Int) < (n : Int)) = true := decide_eq_true (by omega)
      obtain ⟨g, cap, hgv, hbg, hgl⟩ := HO.out.form (by omega)
      simp only [Value.slice.injEq, true_and] at hgv
      obtain ⟨rfl, rfl⟩ := hgv
      have hml : i < (mksA k n).length := by rw [mksA_len]; exact hlt
      have hmi : (mksA k n)[i] = mkA k i := by simp [mksA]
      have c0 := (HO.out.cellAt (i * 3 + 0) (by omega)).trans (arcCells_get _ i hml 0 (by omega))
      have c1 := (HO.out.cellAt (i * 3 + 1) (by omega)).trans (arcCells_get _ i hml 1 (by omega))
      have c2 := (HO.out.cellAt (i * 3 + 2) (by omega)).trans (arcCells_get _ i hml 2 (by omega))
      rw [hmi] at c0 c1 c2
      simp only [List.getElem?_cons_zero, List.getElem?_cons_succ, mkA, Nat.add_zero] at c0 c1 c2
      have HR := Lib.hid (show HdAK k wr n (.int .i64 (k + 3 * (i : Int) + 1 + 1 + 1)) (.int .i64 ((i : Int) + 1)) wr from ⟨i + 1, by go_num, by go_num, by omega, rfl⟩)
      clear hml hmi
      obtain ⟨m, hm, hm0, hmb⟩ : ∃ m : Int, k + 3 * (i : Int) = m ∧ 0 ≤ m ∧ m ≤ 1125899913134080 := ⟨_, rfl, by omega, by omega⟩
      rw [hm] at HR c0 c1 c2 ⊢
      clear hm
      have n0 : (m != m) = false := by simp
      have n1 : (m + 1 != m + 1) = false := by simp
      have n2 : (((m + 1 + 1) % 3 == 0) != ((m + 1 + 1) % 3 == 0)) = false := by simp
      go_wp2
      go_roundw
      case rel => exact HR.out
      case measure => (simp [intOf] <;> omega)
    · obtain rfl : i = n := by omega
      have hd : decide ((i : Int) < (i : Int)) = false := by simp
      go_wp2
      go_ret
      exact ⟨rfl, rfl⟩

end Go.Proofs.Ytgjmefcognoepaa.Pr
