/-
  THE WALK over spec.NumText: the digits are gathered from the last on; the answer is the numeral.
-/
import Derived.Test.YtngnmfoephegmaaDoorNum
import Derived.Test.YtngnmfoephegmaaDoorRows
import Derived.WalkKit
import Derived.WalkSpells
import Derived.WalkLawsBesides
import Derived.Deep.LoopGhost
import Derived.Lib.Hide
namespace Go.Proofs.YtngnmfoephegmaaDoor
open Go.RowKit

theorem info5 : (Tryd.prog.info? 5).map (fun i => (i.zero, i.size, i.bytes)) = some (some (.int .u8 0), 1, 1) := by kernel_rfl

def bc (l : List UInt8) : List Value := l.map fun b => Value.int .u8 b.toNat

/-- What the loop holds: the digits gathered so far, in a row of the call's own. -/
def Gath (B : Nat) (w : World) (n : Int) (v : Value) (m : Int) (wr : World) : Prop :=
  ∃ (ds : List UInt8) (g cap : Nat), v = .slice (some ⟨g, 0, none⟩) ds.length cap ∧ dig m.natAbs ++ ds = dig n.natAbs ∧ (0 ≤ n → 0 ≤ m) ∧ (n ≤ 0 → m ≤ 0) ∧ m.natAbs ≤ n.natAbs ∧
    wr.ownsRow B 5 1 v ds.length (bc ds) ∧ Below B w wr

theorem bc_len (l : List UInt8) : (bc l).length = l.length * 1 := by simp [bc]
theorem bc_one (l : List UInt8) : ∀ u ∈ bc l, u.oneCell' = true := fun u hu => by
  obtain ⟨_, _, rfl⟩ := List.mem_map.1 hu
  rfl
theorem owns_lit (wr : World) (B : Nat) (x : Value) (hB : B ≤ wr.heap.size) :
    (wr.alloc (.cells #[x] 5)).ownsRow B 5 1 (.slice (some ⟨wr.heap.size, 0, none⟩) 1 1) 1 [x] :=
  ⟨rfl, .inr ⟨wr.heap.size, 1, #[x], rfl, hB, heap_alloc_new _ _, Nat.le_refl _, by simp [maxLen], rfl, rfl⟩⟩

theorem gath_start (w : World) (n : Int) : Gath w.heap.size w n (.slice (some ⟨w.heap.size, 0, none⟩) 0 0) n (w.alloc (.cells #[] 5)) :=
  ⟨[], w.heap.size, 0, rfl, by simp, fun h => h, fun h => h, Nat.le_refl _, ⟨rfl, .inr ⟨w.heap.size, 0, #[], rfl, Nat.le_refl _, heap_alloc_new _ _, Nat.le_refl _, by simp [maxLen], rfl, rfl⟩⟩, (Below.refl _ _).alloc (Nat.le_refl _) _⟩

theorem gath_len {n : Int} {u : Nat} {ds : List UInt8} (h : dig u ++ ds = dig n.natAbs) (hn : n.natAbs ≤ 9223372036854775808) : ds.length ≤ 20 := by
  have h1 := dig_len 20 n.natAbs (by omega)
  have h2 := congrArg List.length h
  simp at h2
  omega

theorem gath_step {B : Nat} {w : World} {n M M' : Int} {wr : World} {ds : List UInt8} {c : Int} {v' : Value} {w1 : World}
    (hu : 1 ≤ M.natAbs) (hd : dig M.natAbs ++ ds = dig n.natAbs) (hc : c = 48 + ((M.natAbs % 10 : Nat) : Int)) (hM' : M'.natAbs = M.natAbs / 10) (s1 : 0 ≤ n → 0 ≤ M') (s2 : n ≤ 0 → M' ≤ 0) (hle : M.natAbs ≤ n.natAbs)
    (hbel : Below B w wr) (hB : B ≤ wr.heap.size) (hown : w1.ownsRow B 5 1 v' (1 + ds.length) ([.int .u8 c] ++ bc ds))
    (hgrow : (wr.alloc (.cells #[.int .u8 c] 5)).grownBy w1 (Value.slice (some ⟨wr.heap.size, 0, none⟩) 1 1).ownBlock) (hnil : ¬ v' = .slice none 0 0) :
    Gath B w n v' M' w1 := by
  have hlen : (UInt8.ofNat (48 + M.natAbs % 10) :: ds).length = 1 + ds.length := by simp; omega
  have hbc : bc (UInt8.ofNat (48 + M.natAbs % 10) :: ds) = [.int .u8 c] ++ bc ds := by
    have : (UInt8.ofNat (48 + M.natAbs % 10)).toNat = 48 + M.natAbs % 10 := by
      simp; omega
    simp only [bc, List.map_cons, this, hc, List.cons_append, List.nil_append]
    rw [Int.natCast_add]
    rfl
  rcases hown.2 with ⟨h', _⟩ | ⟨g', cap', cur, h', _⟩
  · exact absurd h' hnil
  · refine ⟨UInt8.ofNat (48 + M.natAbs % 10) :: ds, g', cap', by rw [hlen]; exact h', ?_, s1, s2, by omega, by rw [hlen, hbc]; exact hown, ?_⟩
    · rw [hM']; exact dig_round hu hd
    · exact (hbel.alloc hB _).grown hgrow (by simp; omega) (by intro b hb; simp [Value.ownBlock] at hb; omega)

theorem bytes_back {B : Nat} (wr : World) (g cap : Nat) (ds : List UInt8) (hown : wr.ownsRow B 5 1 (.slice (some ⟨g, 0, none⟩) ds.length cap) ds.length (bc ds)) :
    (convert 22 9 (.slice (some ⟨g, 0, none⟩) ds.length cap)).run Tryd.prog wr = .ok (.string ⟨ds.toArray⟩) wr :=
  run_convert_bytes_back wr 22 9 5 ⟨g, 0, none⟩ cap ds Tryd.underlying22 Tryd.underlying5 Tryd.underlying9
    (fun j hj => hown.cells rfl j _ (by simp [bc, hj]))

set_option maxRecDepth 100000 in
set_option maxHeartbeats 400000 in
theorem specNumText_pos (n : Int) (h0 : 0 < n) (h1 : n ≤ 9223372036854775807) (w : World) :
    Calls Tryd.prog 47 #[.int .i64 n] w fun e w' => e = .returned (.string ⟨(dig n.natAbs).toArray⟩) ∧ Below w.heap.size w w' := by
  obtain ⟨i0, hi, hz0, hz1, hz2⟩ := info_parts info5
  have hn : ((n : Int) == 0) = false := beq_eq_false_iff_ne.2 (by omega)
  go_enter Tryd.func47, Tryd.ntmps47
  go_wp2
  go_loopw [3, 4] (fun v m wr => ∃ M : Int, m = .int .i64 M ∧ Gath w.heap.size w n v M wr) (fun _ m _ => (intOf m).natAbs)
  case atStart => exact ⟨n, rfl, gath_start w n⟩
  case round =>
    obtain ⟨M, rfl, ds, g, cap, rfl, hd, hs1, hs2, hle, hown, hbel⟩ := hrel
    have hM0 : 0 ≤ M := hs1 (by omega)
    clear hs1 hs2
    by_cases hz : M = 0
    · subst hz
      have HD := Lib.hid hd
      have hnn : decide (n < 0) = false := by simpa using Int.le_of_lt h0
      have hcv := bytes_back wr g cap ds hown
      clear hd hown
      go_wp2
      go_ret
      have e : ds = dig n.natAbs := by have := HD.out; rwa [show (0 : Int).natAbs = 0 from rfl, dig_zero, List.nil_append] at this
      exact ⟨congrArg (fun l : List UInt8 => Ending.returned (.string ⟨l.toArray⟩)) e, hbel⟩
    · have hM1 : 1 ≤ M := by omega
      have hMn : ((M : Int) != 0) = true := by rw [bne_iff_ne]; omega
      have hMd : decide (M % 10 < 0) = false := by simp; omega
      have hMb : M ≤ 9223372036854775807 := by omega
      have HD := Lib.hid hd
      clear hd hz
      have hBs := hbel.size
      have hcs : ∀ o, ∀ j u, (bc ds)[j]? = some u → (wr.alloc o).cell? ((⟨g, 0, none⟩ : Addr).add j) = some u := fun o => (hown.alloc o).cells rfl
      have hlen : ds.length ≤ 20 := gath_len HD.out (by omega)
      have hln : ds.length ≤ maxLen - 1 := by unfold maxLen; omega
      go_wp2_with (at_builtin; refine wpList_append_own _ rfl (.tmp 23) (.tmp 24) 22 rfl w.heap.size 5 i0 (.int .u8 0) 1 1 Tryd.underlying22 hi hz0 hz1 hz2 rfl (by decide) _ 1 [.int .u8 (48 + M % 10)] rfl (owns_lit wr _ _ hBs) ⟨g, 0, none⟩ ds.length cap (bc ds) rfl (bc_len ds) (hcs _) (bc_one ds) (by unfold maxLen; omega) (by omega) (by simp; omega) ?_)
      intro v' w1 hown' hgrow hnil
      have R := gath_step (M' := M / 10) (n := n) (by omega) HD.out (by omega) (by omega) (fun _ => by omega) (fun h => by omega) hle hbel hBs hown' hgrow hnil
      clear hown' hgrow hnil hown hcs hbel
      go_wp2
      go_roundw
      case rel => exact ⟨M / 10, rfl, R⟩
      case measure => simp [intOf]; omega

theorem tmod_neg (M : Int) (h : M ≤ 0) : M.tmod 10 = -((M.natAbs % 10 : Nat) : Int) := by
  obtain ⟨u, rfl⟩ : ∃ u : Nat, M = -(u : Int) := ⟨M.natAbs, by omega⟩
  rw [Int.neg_tmod, Int.natAbs_neg, Int.natAbs_natCast]
  rfl
theorem tdiv_neg (M : Int) (h : M ≤ 0) : M.tdiv 10 = -((M.natAbs / 10 : Nat) : Int) := by
  obtain ⟨u, rfl⟩ : ∃ u : Nat, M = -(u : Int) := ⟨M.natAbs, by omega⟩
  rw [Int.neg_tdiv, Int.natAbs_neg, Int.natAbs_natCast]
  rfl

set_option maxRecDepth 100000 in
set_option maxHeartbeats 400000 in
theorem specNumText_neg (n : Int) (h0 : n < 0) (h1 : -9223372036854775808 ≤ n) (w : World) :
    Calls Tryd.prog 47 #[.int .i64 n] w fun e w' => e = .returned (.string ⟨(45 :: dig n.natAbs).toArray⟩) ∧ Below w.heap.size w w' := by
  obtain ⟨i0, hi, hz0, hz1, hz2⟩ := info_parts info5
  have hn : ((n : Int) == 0) = false := beq_eq_false_iff_ne.2 (by omega)
  go_enter Tryd.func47, Tryd.ntmps47
  go_wp2
  go_loopw [3, 4] (fun v m wr => ∃ M : Int, m = .int .i64 M ∧ Gath w.heap.size w n v M wr) (fun _ m _ => (intOf m).natAbs)
  case atStart => exact ⟨n, rfl, gath_start w n⟩
  case round =>
    obtain ⟨M, rfl, ds, g, cap, rfl, hd, hs1, hs2, hle, hown, hbel⟩ := hrel
    have hM0 : M ≤ 0 := hs2 (by omega)
    clear hs1 hs2
    have HD := Lib.hid hd
    have hBs := hbel.size
    have hcs : ∀ o, ∀ j u, (bc ds)[j]? = some u → (wr.alloc o).cell? ((⟨g, 0, none⟩ : Addr).add j) = some u := fun o => (hown.alloc o).cells rfl
    have hlen : ds.length ≤ 20 := gath_len HD.out (by omega)
    by_cases hz : M = 0
    · subst hz
      clear hd
      have hnn : decide (n < 0) = true := by simpa using h0
      go_wp2_with (at_builtin; refine wpList_append_own _ rfl (.tmp 28) (.tmp 29) 22 rfl w.heap.size 5 i0 (.int .u8 0) 1 1 Tryd.underlying22 hi hz0 hz1 hz2 rfl (by decide) _ 1 [.int .u8 45] rfl (owns_lit wr _ _ hBs) ⟨g, 0, none⟩ ds.length cap (bc ds) rfl (bc_len ds) (hcs _) (bc_one ds) (by unfold maxLen; omega) (by omega) (by simp; omega) ?_)
      intro v' w1 hown' hgrow hnil
      have e : ds = dig n.natAbs := by have := HD.out; rwa [show (0 : Int).natAbs = 0 from rfl, dig_zero, List.nil_append] at this
      have hb1 : Below w.heap.size w w1 := (hbel.alloc hBs _).grown hgrow (by simp; omega) (by intro b hb; simp [Value.ownBlock] at hb; omega)
      obtain ⟨g', cap', rfl⟩ : ∃ g' cap', v' = .slice (some ⟨g', 0, none⟩) (1 + ds.length) cap' := by
        rcases hown'.2 with ⟨h', _⟩ | ⟨g', cap', cur, h', _⟩
        · exact absurd h' hnil
        · exact ⟨g', cap', h'⟩
      have hcv : (convert 22 9 (.slice (some ⟨g', 0, none⟩) (1 + ds.length) cap')).run Tryd.prog w1 = .ok (.string ⟨(45 :: ds).toArray⟩) w1 := by
        have := bytes_back w1 g' cap' (45 :: ds) (by rw [List.length_cons, Nat.add_comm]; exact hown')
        rwa [List.length_cons, Nat.add_comm] at this
      clear hown' hgrow hnil hown hcs hbel
      have E := Lib.hid e
      clear e
      go_wp2
      go_ret
      exact ⟨congrArg (fun l : List UInt8 => Ending.returned (.string ⟨(45 :: l).toArray⟩)) E.out, hb1⟩
    · have hM1 : M ≤ -1 := by omega
      have hMn : ((M : Int) != 0) = true := by rw [bne_iff_ne]; omega
      have HM := Lib.hid (tmod_neg M hM0)
      have HDv := Lib.hid (tdiv_neg M hM0)
      have hMd0 : M.tmod 10 ≤ 0 := by rw [HM.out]; omega
      have hMd9 : -9 ≤ M.tmod 10 := by rw [HM.out]; omega
      have hMb : -9223372036854775808 ≤ M := by omega
      have hMq : M.tdiv 10 ≤ 0 := by rw [HDv.out]; omega
      have hMq9 : -9223372036854775808 ≤ M.tdiv 10 := by rw [HDv.out]; omega
      clear hd hz
      by_cases hd0 : M.tmod 10 < 0
      · have hMd : decide (M.tmod 10 < 0) = true := by simpa using hd0
        go_wp2_with (at_builtin; refine wpList_append_own _ rfl (.tmp 23) (.tmp 24) 22 rfl w.heap.size 5 i0 (.int .u8 0) 1 1 Tryd.underlying22 hi hz0 hz1 hz2 rfl (by decide) _ 1 [.int .u8 (48 + -M.tmod 10)] rfl (owns_lit wr _ _ hBs) ⟨g, 0, none⟩ ds.length cap (bc ds) rfl (bc_len ds) (hcs _) (bc_one ds) (by unfold maxLen; omega) (by omega) (by simp; omega) ?_)
        intro v' w1 hown' hgrow hnil
        have R := gath_step (M' := M.tdiv 10) (n := n) (by omega) HD.out (by rw [HM.out]; omega) (by rw [HDv.out]; omega) (fun _ => by omega) (fun h => by omega) hle hbel hBs hown' hgrow hnil
        clear hown' hgrow hnil hown hcs hbel
        go_wp2
        go_roundw
        case rel => exact ⟨M.tdiv 10, rfl, R⟩
        case measure => simp [intOf]; show M.natAbs / 10 < M.natAbs; omega
      · have hMd : decide (M.tmod 10 < 0) = false := by simpa using hd0
        have hM00 : M.tmod 10 = 0 := by omega
        have HM0 := Lib.hid hM00
        clear hM00
        go_wp2_with (at_builtin; refine wpList_append_own _ rfl (.tmp 23) (.tmp 24) 22 rfl w.heap.size 5 i0 (.int .u8 0) 1 1 Tryd.underlying22 hi hz0 hz1 hz2 rfl (by decide) _ 1 [.int .u8 (48 + M.tmod 10)] rfl (owns_lit wr _ _ hBs) ⟨g, 0, none⟩ ds.length cap (bc ds) rfl (bc_len ds) (hcs _) (bc_one ds) (by unfold maxLen; omega) (by omega) (by simp; omega) ?_)
        intro v' w1 hown' hgrow hnil
        have R := gath_step (M' := M.tdiv 10) (n := n) (by omega) HD.out (by have := HM.out; have := HM0.out; omega) (by rw [HDv.out]; omega) (fun _ => by omega) (fun h => by omega) hle hbel hBs hown' hgrow hnil
        clear hown' hgrow hnil hown hcs hbel
        go_wp2
        go_roundw
        case rel => exact ⟨M.tdiv 10, rfl, R⟩
        case measure => simp [intOf]; show M.natAbs / 10 < M.natAbs; omega

theorem specNumText_zero (w : World) :
    Calls Tryd.prog 47 #[.int .i64 0] w fun e w' => e = .returned (.string ⟨#[48]⟩) ∧ Below w.heap.size w w' := by
  go_enter Tryd.func47, Tryd.ntmps47
  go_wp2
  go_ret
  exact ⟨rfl, Below.refl _ _⟩

/-- spec.NumText: the numeral, at every int. -/
theorem specNumText (n : Int) (h0 : -9223372036854775808 ≤ n) (h1 : n ≤ 9223372036854775807) (w : World) :
    Calls Tryd.prog 47 #[.int .i64 n] w fun e w' => e = .returned (.string ⟨(Lib.itoa n).toArray⟩) ∧ Below w.heap.size w w' := by
  rcases (show n < 0 ∨ n = 0 ∨ 0 < n from by omega) with h | rfl | h
  · rw [itoa_dig_neg h]; exact specNumText_neg n h h0 w
  · rw [itoa_zero]; exact specNumText_zero w
  · rw [itoa_dig_pos h]; exact specNumText_pos n h h1 w

end Go.Proofs.YtngnmfoephegmaaDoor
