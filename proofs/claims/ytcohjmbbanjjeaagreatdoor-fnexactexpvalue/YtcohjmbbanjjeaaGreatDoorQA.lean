/-
  PLAIN MATHEMATICS OF DECIMAL DIGITS: nothing of the program. 'dig u': the digits of u, none for 0.
  THE WALK over spec.NumText: the digits are gathered from the last on; the answer is the numeral.
  WHAT THE LISTED VARIABLES GIVE THE WALKS: the table of powers of ten; the two sentinels.
  THE WALKS: impl.NumText writes the numeral; laws.FnExactNumText answers true.
  THE WALKS: impl.isNumber, impl.NumTerm, spec.l01Between, spec.NumTerm; laws.FnExactNumTerm answers true.
  TERMS AS TREES, AND THE READER OF impl AS A PLAIN FUNCTION. Nothing of the program.
  PLAIN MATHEMATICS: a number is got from its numeral.
-/
import Derived.Lib.ItoaNum
import Derived.Test.YtcohjmbbanjjeaaGreatDoorRows
import Derived.WalkKit
import Derived.WalkSpells
import Derived.WalkLawsBesides
import Derived.Deep.LoopGhost
import Derived.Lib.Hide
import Derived.Test.YtcohjmbbanjjeaaGreatDoorShelfQ
import Derived.ProofKit
import Derived.LaidMore
import Derived.OpenShut
import Derived.Stop.Joined
import Derived.Stop.LaidErr
import Derived.Lib.LaidTab
import Derived.Lib.SmallJoins
import Derived.Lib.AppendIntMem
import Derived.Lib.AtoiAll
namespace Go.Proofs.YtcohjmbbanjjeaaGreatDoor
open Go

def dig (u : Nat) : List UInt8 := if _h : u = 0 then [] else dig (u / 10) ++ [UInt8.ofNat (48 + u % 10)]
termination_by u
decreasing_by omega

theorem dig_zero : dig 0 = [] := by rw [dig, dif_pos rfl]
theorem dig_pos {u : Nat} (h : 1 ≤ u) : dig u = dig (u / 10) ++ [UInt8.ofNat (48 + u % 10)] := by
  rw [dig, dif_neg (by omega)]

theorem dig_dec (u : Nat) (h : 1 ≤ u) : Lib.decDigits u = dig u := by
  induction u using Nat.strongRecOn with
  | ind u ih =>
    rw [Lib.decDigits, dig_pos h]
    by_cases hs : u < 10
    · rw [dif_pos hs, Nat.div_eq_of_lt hs, dig_zero, Nat.mod_eq_of_lt hs]; rfl
    · rw [dif_neg hs, ih (u / 10) (by omega) (by omega)]

theorem dig_len : ∀ (k u : Nat), u < 10 ^ k → (dig u).length ≤ k
  | 0, u, h => by
    have : u = 0 := by simpa using h
    subst this; rw [dig_zero]; simp
  | k + 1, u, h => by
    by_cases h0 : u = 0
    · subst h0; rw [dig_zero]; simp
    · rw [dig_pos (by omega)]
      have := dig_len k (u / 10) (by rw [Nat.pow_succ] at h; omega)
      simp; omega

theorem itoa_dig_pos {n : Int} (h : 0 < n) : Lib.itoa n = dig n.natAbs := by
  unfold Lib.itoa
  rw [if_neg (by omega), show n.toNat = n.natAbs from by omega, dig_dec _ (by omega)]
theorem itoa_dig_neg {n : Int} (h : n < 0) : Lib.itoa n = 45 :: dig n.natAbs := by
  unfold Lib.itoa
  rw [if_pos h, dig_dec _ (by omega)]
theorem itoa_zero : Lib.itoa 0 = [48] := by
  unfold Lib.itoa
  rw [if_neg (by omega), Lib.decDigits]; rfl

/-- A round of the loop: the last digit of u goes ahead of what is there. -/
theorem dig_round {u : Nat} {ds : List UInt8} {N : Nat} (h : 1 ≤ u) (hd : dig u ++ ds = dig N) :
    dig (u / 10) ++ (UInt8.ofNat (48 + u % 10) :: ds) = dig N := by
  rw [← hd, dig_pos h]; simp

end Go.Proofs.YtcohjmbbanjjeaaGreatDoor

namespace Go.Proofs.YtcohjmbbanjjeaaGreatDoor
open Go.RowKit

theorem info5 : (Tryz.prog.info? 5).map (fun i => (i.zero, i.size, i.bytes)) = some (some (.int .u8 0), 1, 1) := by kernel_rfl

def bc (l : List UInt8) : List Value := l.map fun b => Value.int .u8 b.toNat

/-- What the loop holds: the digits gathered so far, in a row of the call's own. -/
def Gath (B : Nat) (w : World) (n : Int) (v : Value) (m : Int) (wr : World) : Prop :=
  ∃ (ds : List UInt8) (g cap : Nat), v = .slice (some ⟨g, 0, none⟩) ds.length cap ∧ dig m.natAbs ++ ds = dig n.natAbs ∧ (0 ≤ n → 0 ≤ m) ∧ (n ≤ 0 → m ≤ 0) ∧ m.natAbs ≤ n.natAbs ∧
    wr.ownsRow B 5 1 v ds.length (bc ds) ∧ Below B w wr

theorem bc_len (l : List UInt8) : (bc l).length = l.length * 1 := by simp [bc]
theorem bc_one (l : List UInt8) : ∀ u ∈ bc l, u.oneCell' = true := fun u hu => by
  obtain ⟨_, _, rfl⟩ := List.mem_map.1 hu
  rfl
theorem owns_lit (wr : World) (B : Nat) (x : Value) (hB : B ≤ wr.heap.size) :
    (wr.alloc (.cells #[x] 5)).ownsRow B 5 1 (.slice (some ⟨wr.heap.size, 0, none⟩) 1 1) 1 [x] :=
  ⟨rfl, .inr ⟨wr.heap.size, 1, #[x], rfl, hB, heap_alloc_new _ _, Nat.le_refl _, by simp [maxLen], rfl, rfl⟩⟩

theorem gath_start (w : World) (n : Int) : Gath w.heap.size w n (.slice (some ⟨w.heap.size, 0, none⟩) 0 0) n (w.alloc (.cells #[] 5)) :=
  ⟨[], w.heap.size, 0, rfl, by simp, fun h => h, fun h => h, Nat.le_refl _, ⟨rfl, .inr ⟨w.heap.size, 0, #[], rfl, Nat.le_refl _, heap_alloc_new _ _, Nat.le_refl _, by simp [maxLen], rfl, rfl⟩⟩, (Below.refl _ _).alloc (Nat.le_refl _) _⟩

theorem gath_len {n : Int} {u : Nat} {ds : List UInt8} (h : dig u ++ ds = dig n.natAbs) (hn : n.natAbs ≤ 9223372036854775808) : ds.length ≤ 20 := by
  have h1 := dig_len 20 n.natAbs (by omega)
  have h2 := congrArg List.length h
  simp at h2
  omega

theorem gath_step {B : Nat} {w : World} {n M M' : Int} {wr : World} {ds : List UInt8} {c : Int} {v' : Value} {w1 : World}
    (hu : 1 ≤ M.natAbs) (hd : dig M.natAbs ++ ds = dig n.natAbs) (hc : c = 48 + ((M.natAbs % 10 : Nat) : Int)) (hM' : M'.natAbs = M.natAbs / 10) (s1 : 0 ≤ n → 0 ≤ M') (s2 : n ≤ 0 → M' ≤ 0) (hle : M.natAbs ≤ n.natAbs)
    (hbel : Below B w wr) (hB : B ≤ wr.heap.size) (hown : w1.ownsRow B 5 1 v' (1 + ds.length) ([.int .u8 c] ++ bc ds))
    (hgrow : (wr.alloc (.cells #[.int .u8 c] 5)).grownBy w1 (Value.slice (some ⟨wr.heap.size, 0, none⟩) 1 1).ownBlock) (hnil : ¬ v' = .slice none 0 0) :
    Gath B w n v' M' w1 := by
  have hlen : (UInt8.ofNat (48 + M.natAbs % 10) :: ds).length = 1 + ds.length := by simp; omega
  have hbc : bc (UInt8.ofNat (48 + M.natAbs % 10) :: ds) = [.int .u8 c] ++ bc ds := by
    have : (UInt8.ofNat (48 + M.natAbs % 10)).toNat = 48 + M.natAbs % 10 := by
      simp; omega
    simp only [bc, List.map_cons, this, hc, List.cons_append, List.nil_append]
    rw [Int.natCast_add]
    rfl
  rcases hown.2 with ⟨h', _⟩ | ⟨g', cap', cur, h', _⟩
  · exact absurd h' hnil
  · refine ⟨UInt8.ofNat (48 + M.natAbs % 10) :: ds, g', cap', by rw [hlen]; exact h', ?_, s1, s2, by omega, by rw [hlen, hbc]; exact hown, ?_⟩
    · rw [hM']; exact dig_round hu hd
    · exact (hbel.alloc hB _).grown hgrow (by simp; omega) (by intro b hb; simp [Value.ownBlock] at hb; omega)

theorem bytes_back {B : Nat} (wr : World) (g cap : Nat) (ds : List UInt8) (hown : wr.ownsRow B 5 1 (.slice (some ⟨g, 0, none⟩) ds.length cap) ds.length (bc ds)) :
    (convert 81 9 (.slice (some ⟨g, 0, none⟩) ds.length cap)).run Tryz.prog wr = .ok (.string ⟨ds.toArray⟩) wr :=
  run_convert_bytes_back wr 81 9 5 ⟨g, 0, none⟩ cap ds Tryz.underlying81 Tryz.underlying5 Tryz.underlying9
    (fun j hj => hown.cells rfl j _ (by simp [bc, hj]))

set_option maxRecDepth 100000 in
set_option maxHeartbeats 400000 in
theorem specNumText_pos (n : Int) (h0 : 0 < n) (h1 : n ≤ 9223372036854775807) (w : World) :
    Calls Tryz.prog 34 #[.int .i64 n] w fun e w' => e = .returned (.string ⟨(dig n.natAbs).toArray⟩) ∧ Below w.heap.size w w' := by
  obtain ⟨i0, hi, hz0, hz1, hz2⟩ := info_parts info5
  have hn : ((n : Int) == 0) = false := beq_eq_false_iff_ne.2 (by omega)
  go_enter Tryz.func34, Tryz.ntmps34
  go_wp2
  go_loopw [3, 4] (fun v m wr => ∃ M : Int, m = .int .i64 M ∧ Gath w.heap.size w n v M wr) (fun _ m _ => (intOf m).natAbs)
  case atStart => exact ⟨n, rfl, gath_start w n⟩
  case round =>
    obtain ⟨M, rfl, ds, g, cap, rfl, hd, hs1, hs2, hle, hown, hbel⟩ := hrel
    have hM0 : 0 ≤ M := hs1 (by omega)
    clear hs1 hs2
    by_cases hz : M = 0
    · subst hz
      have HD := Lib.hid hd
      have hnn : decide (n < 0) = false := by simpa using Int.le_of_lt h0
      have hcv := bytes_back wr g cap ds hown
      clear hd hown
      go_wp2
      go_ret
      have e : ds = dig n.natAbs := by have := HD.out; rwa [show (0 : Int).natAbs = 0 from rfl, dig_zero, List.nil_append] at this
      exact ⟨congrArg (fun l : List UInt8 => Ending.returned (.string ⟨l.toArray⟩)) e, hbel⟩
    · have hM1 : 1 ≤ M := by omega
      have hMn : ((M : Int) != 0) = true := by rw [bne_iff_ne]; omega
      have hMd : decide (M % 10 < 0) = false := by simp; omega
      have hMb : M ≤ 9223372036854775807 := by omega
      have HD := Lib.hid hd
      clear hd hz
      have hBs := hbel.size
      have hcs : ∀ o, ∀ j u, (bc ds)[j]? = some u → (wr.alloc o).cell? ((⟨g, 0, none⟩ : Addr).add j) = some u := fun o => (hown.alloc o).cells rfl
      have hlen : ds.length ≤ 20 := gath_len HD.out (by omega)
      have hln : ds.length ≤ maxLen - 1 := by unfold maxLen; omega
      go_wp2_with (at_builtin; refine wpList_append_own _ rfl (.tmp 23) (.tmp 24) 81 rfl w.heap.size 5 i0 (.int .u8 0) 1 1 Tryz.underlying81 hi hz0 hz1 hz2 rfl (by decide) _ 1 [.int .u8 (48 + M % 10)] rfl (owns_lit wr _ _ hBs) ⟨g, 0, none⟩ ds.length cap (bc ds) rfl (bc_len ds) (hcs _) (bc_one ds) (by unfold maxLen; omega) (by omega) (by simp; omega) ?_)
      intro v' w1 hown' hgrow hnil
      have R := gath_step (M' := M / 10) (n := n) (by omega) HD.out (by omega) (by omega) (fun _ => by omega) (fun h => by omega) hle hbel hBs hown' hgrow hnil
      clear hown' hgrow hnil hown hcs hbel
      go_wp2
      go_roundw
      case rel => exact ⟨M / 10, rfl, R⟩
      case measure => simp [intOf]; omega

theorem tmod_neg (M : Int) (h : M ≤ 0) : M.tmod 10 = -((M.natAbs % 10 : Nat) : Int) := by
  obtain ⟨u, rfl⟩ : ∃ u : Nat, M = -(u : Int) := ⟨M.natAbs, by omega⟩
  rw [Int.neg_tmod, Int.natAbs_neg, Int.natAbs_natCast]
  rfl
theorem tdiv_neg (M : Int) (h : M ≤ 0) : M.tdiv 10 = -((M.natAbs / 10 : Nat) : Int) := by
  obtain ⟨u, rfl⟩ : ∃ u : Nat, M = -(u : Int) := ⟨M.natAbs, by omega⟩
  rw [Int.neg_tdiv, Int.natAbs_neg, Int.natAbs_natCast]
  rfl

set_option maxRecDepth 100000 in
set_option maxHeartbeats 400000 in
theorem specNumText_neg (n : Int) (h0 : n < 0) (h1 : -9223372036854775808 ≤ n) (w : World) :
    Calls Tryz.prog 34 #[.int .i64 n] w fun e w' => e = .returned (.string ⟨(45 :: dig n.natAbs).toArray⟩) ∧ Below w.heap.size w w' := by
  obtain ⟨i0, hi, hz0, hz1, hz2⟩ := info_parts info5
  have hn : ((n : Int) == 0) = false := beq_eq_false_iff_ne.2 (by omega)
  go_enter Tryz.func34, Tryz.ntmps34
  go_wp2
  go_loopw [3, 4] (fun v m wr => ∃ M : Int, m = .int .i64 M ∧ Gath w.heap.size w n v M wr) (fun _ m _ => (intOf m).natAbs)
  case atStart => exact ⟨n, rfl, gath_start w n⟩
  case round =>
    obtain ⟨M, rfl, ds, g, cap, rfl, hd, hs1, hs2, hle, hown, hbel⟩ := hrel
    have hM0 : M ≤ 0 := hs2 (by omega)
    clear hs1 hs2
    have HD := Lib.hid hd
    have hBs := hbel.size
    have hcs : ∀ o, ∀ j u, (bc ds)[j]? = some u → (wr.alloc o).cell? ((⟨g, 0, none⟩ : Addr).add j) = some u := fun o => (hown.alloc o).cells rfl
    have hlen : ds.length ≤ 20 := gath_len HD.out (by omega)
    by_cases hz : M = 0
    · subst hz
      clear hd
      have hnn : decide (n < 0) = true := by simpa using h0
      go_wp2_with (at_builtin; refine wpList_append_own _ rfl (.tmp 28) (.tmp 29) 81 rfl w.heap.size 5 i0 (.int .u8 0) 1 1 Tryz.underlying81 hi hz0 hz1 hz2 rfl (by decide) _ 1 [.int .u8 45] rfl (owns_lit wr _ _ hBs) ⟨g, 0, none⟩ ds.length cap (bc ds) rfl (bc_len ds) (hcs _) (bc_one ds) (by unfold maxLen; omega) (by omega) (by simp; omega) ?_)
      intro v' w1 hown' hgrow hnil
      have e : ds = dig n.natAbs := by have := HD.out; rwa [show (0 : Int).natAbs = 0 from rfl, dig_zero, List.nil_append] at this
      have hb1 : Below w.heap.size w w1 := (hbel.alloc hBs _).grown hgrow (by simp; omega) (by intro b hb; simp [Value.ownBlock] at hb; omega)
      obtain ⟨g', cap', rfl⟩ : ∃ g' cap', v' = .slice (some ⟨g', 0, none⟩) (1 + ds.length) cap' := by
        rcases hown'.2 with ⟨h', _⟩ | ⟨g', cap', cur, h', _⟩
        · exact absurd h' hnil
        · exact ⟨g', cap', h'⟩
      have hcv : (convert 81 9 (.slice (some ⟨g', 0, none⟩) (1 + ds.length) cap')).run Tryz.prog w1 = .ok (.string ⟨(45 :: ds).toArray⟩) w1 := by
        have := bytes_back w1 g' cap' (45 :: ds) (by rw [List.length_cons, Nat.add_comm]; exact hown')
        rwa [List.length_cons, Nat.add_comm] at this
      clear hown' hgrow hnil hown hcs hbel
      have E := Lib.hid e
      clear e
      go_wp2
      go_ret
      exact ⟨congrArg (fun l : List UInt8 => Ending.returned (.string ⟨(45 :: l).toArray⟩)) E.out, hb1⟩
    · have hM1 : M ≤ -1 := by omega
      have hMn : ((M : Int) != 0) = true := by rw [bne_iff_ne]; omega
      have HM := Lib.hid (tmod_neg M hM0)
      have HDv := Lib.hid (tdiv_neg M hM0)
      have hMd0 : M.tmod 10 ≤ 0 := by rw [HM.out]; omega
      have hMd9 : -9 ≤ M.tmod 10 := by rw [HM.out]; omega
      have hMb : -9223372036854775808 ≤ M := by omega
      have hMq : M.tdiv 10 ≤ 0 := by rw [HDv.out]; omega
      have hMq9 : -9223372036854775808 ≤ M.tdiv 10 := by rw [HDv.out]; omega
      clear hd hz
      by_cases hd0 : M.tmod 10 < 0
      · have hMd : decide (M.tmod 10 < 0) = true := by simpa using hd0
        go_wp2_with (at_builtin; refine wpList_append_own _ rfl (.tmp 23) (.tmp 24) 81 rfl w.heap.size 5 i0 (.int .u8 0) 1 1 Tryz.underlying81 hi hz0 hz1 hz2 rfl (by decide) _ 1 [.int .u8 (48 + -M.tmod 10)] rfl (owns_lit wr _ _ hBs) ⟨g, 0, none⟩ ds.length cap (bc ds) rfl (bc_len ds) (hcs _) (bc_one ds) (by unfold maxLen; omega) (by omega) (by simp; omega) ?_)
        intro v' w1 hown' hgrow hnil
        have R := gath_step (M' := M.tdiv 10) (n := n) (by omega) HD.out (by rw [HM.out]; omega) (by rw [HDv.out]; omega) (fun _ => by omega) (fun h => by omega) hle hbel hBs hown' hgrow hnil
        clear hown' hgrow hnil hown hcs hbel
        go_wp2
        go_roundw
        case rel => exact ⟨M.tdiv 10, rfl, R⟩
        case measure => simp [intOf]; show M.natAbs / 10 < M.natAbs; omega
      · have hMd : decide (M.tmod 10 < 0) = false := by simpa using hd0
        have hM00 : M.tmod 10 = 0 := by omega
        have HM0 := Lib.hid hM00
        clear hM00
        go_wp2_with (at_builtin; refine wpList_append_own _ rfl (.tmp 23) (.tmp 24) 81 rfl w.heap.size 5 i0 (.int .u8 0) 1 1 Tryz.underlying81 hi hz0 hz1 hz2 rfl (by decide) _ 1 [.int .u8 (48 + M.tmod 10)] rfl (owns_lit wr _ _ hBs) ⟨g, 0, none⟩ ds.length cap (bc ds) rfl (bc_len ds) (hcs _) (bc_one ds) (by unfold maxLen; omega) (by omega) (by simp; omega) ?_)
        intro v' w1 hown' hgrow hnil
        have R := gath_step (M' := M.tdiv 10) (n := n) (by omega) HD.out (by have := HM.out; have := HM0.out; omega) (by rw [HDv.out]; omega) (fun _ => by omega) (fun h => by omega) hle hbel hBs hown' hgrow hnil
        clear hown' hgrow hnil hown hcs hbel
        go_wp2
        go_roundw
        case rel => exact ⟨M.tdiv 10, rfl, R⟩
        case measure => simp [intOf]; show M.natAbs / 10 < M.natAbs; omega

theorem specNumText_zero (w : World) :
    Calls Tryz.prog 34 #[.int .i64 0] w fun e w' => e = .returned (.string ⟨#[48]⟩) ∧ Below w.heap.size w w' := by
  go_enter Tryz.func34, Tryz.ntmps34
  go_wp2
  go_ret
  exact ⟨rfl, Below.refl _ _⟩

/-- spec.NumText: the numeral, at every int. -/
theorem specNumText (n : Int) (h0 : -9223372036854775808 ≤ n) (h1 : n ≤ 9223372036854775807) (w : World) :
    Calls Tryz.prog 34 #[.int .i64 n] w fun e w' => e = .returned (.string ⟨(Lib.itoa n).toArray⟩) ∧ Below w.heap.size w w' := by
  rcases (show n < 0 ∨ n = 0 ∨ 0 < n from by omega) with h | rfl | h
  · rw [itoa_dig_neg h]; exact specNumText_neg n h h0 w
  · rw [itoa_zero]; exact specNumText_zero w
  · rw [itoa_dig_pos h]; exact specNumText_pos n h h1 w

end Go.Proofs.YtcohjmbbanjjeaaGreatDoor

namespace Go.Proofs.YtcohjmbbanjjeaaGreatDoor
open Go Go.RowKit

theorem own : ownKnob Tryz.prog.godebug = none := by kernel_rfl
theorem gPow : Tryz.prog.globalNamed "internal/strconv.uint64pow10" = some ((Tryz.prog.globalNamed "internal/strconv.uint64pow10").getD 0) := by kernel_rfl
theorem gPowType : (Tryz.prog.globals[(Tryz.prog.globalNamed "internal/strconv.uint64pow10").getD 0]?).map (·.type) = some 210 := by kernel_rfl
theorem cells96 : Tryz.prog.cellsOf 159 = 1 := by kernel_rfl
theorem cells107 : Tryz.prog.cellsOf 210 = 20 := by kernel_rfl
theorem laidPow {H : Type} : (Rows.laid_internal_strconv_uint64pow10 : DataW H) = Lib.tabData .u64 Lib.pow10Tab := by kernel_rfl

abbrev laid3 : List (String × DataW Unit) := [("math/bits.deBruijn32tab", Rows.laid_math_bits_deBruijn32tab), ("math/bits.deBruijn64tab", Rows.laid_math_bits_deBruijn64tab), ("internal/strconv.uint64pow10", Rows.laid_internal_strconv_uint64pow10)]

abbrev Pow (w : World) : Prop := Lib.TabIs Tryz.prog w "internal/strconv.uint64pow10" .u64 Lib.pow10Tab

theorem of_laid3 {W : World} (h : laidMetH Tryz.prog laid3 W) : Pow W := by
  rw [MakeChecks.laidMetH_plain _ _ _ (by kernel_rfl)] at h
  have h2 := h.tail.tail
  rw [laidPow] at h2
  exact Lib.tabIs_of_head gPow gPowType Tryz.underlying210 Tryz.underlying159 cells96 cells107 h2

theorem Pow.stays {w w' : World} {B : Nat} (h : Pow w) (hb : Below B w w') (hB : w.heap.size ≤ B) : Pow w' := Joins.tab_stays gPow h hb hB

theorem door_met3 (os : Os) (args : Array Value) : laidMetH Tryz.prog laid3 ((World.doorLaid Tryz.prog 400 os).forCall (fun _ _ => 0) ⟨#[], args, []⟩).memory :=
  laidMetH_of_parts3 (fuel := 8) (laidMet_of_run' 8 (by kernel_rfl) (by kernel_rfl)) (by kernel_rfl) (by kernel_rfl)

end Go.Proofs.YtcohjmbbanjjeaaGreatDoor

namespace Go.Proofs.YtcohjmbbanjjeaaGreatDoor
open Go Go.ChangeShapes Go.WideShapes Go.ChangeAt Go.WideMaps Go.WideElems Go.RowKit

set_option maxHeartbeats 400000 in
theorem implNumText (n : Int) (h0 : -9223372036854775808 ≤ n) (h1 : n ≤ 9223372036854775807) (w : World) (hp : Pow w) :
    Calls Tryz.prog 85 #[.int .i64 n] w fun e w' => e = .returned (.string ⟨(Lib.itoa n).toArray⟩) ∧ Below w.heap.size w w' := by
  have H0 := Lib.hid h0
  have H1 := Lib.hid h1
  clear h0 h1
  go_enter Tryz.func85, Tryz.ntmps85
  go_wp2_with (go_at_call 103; refine (Tryz.strconv_Itoa n H0.out H1.out _ hp).mono ?_; rintro e w' ⟨rfl, k, os, rfl⟩)
  go_ret
  exact ⟨rfl, Lib.below_grow _ _ (Nat.le_refl _) _ _⟩

end Go.Proofs.YtcohjmbbanjjeaaGreatDoor

namespace Go.Proofs.YtcohjmbbanjjeaaGreatDoor
open Go Go.RowKit

/-- Within -MaxNum .. MaxNum. -/
def inNum (n : Int) : Bool := decide (-1000000 ≤ n) && decide (n ≤ 1000000)

theorem inNum_true {n : Int} (h : -1000000 ≤ n) (h' : n ≤ 1000000) : inNum n = true := by simp [inNum, h, h']
theorem inNum_lo {n : Int} (h : n < -1000000) : inNum n = false := by simp [inNum]; omega
theorem inNum_hi {n : Int} (h : 1000000 < n) : inNum n = false := by simp [inNum]; omega

/-- NumTerm: the text. -/
def numTerm (n : Int) : List UInt8 := if inNum n then Lib.itoa n else []

set_option maxHeartbeats 400000 in
theorem isNumber_any (n : Int) (w : World) : Calls Tryz.prog 84 #[.int .i64 n] w fun e w' => e = .returned (.bool (inNum n)) ∧ w = w' := by
  by_cases h1 : -1000000 ≤ n
  · by_cases h2 : n ≤ 1000000
    · rw [inNum_true h1 h2]
      go_enter Tryz.func84, Tryz.ntmps84
      go_wp2
      go_ret
      exact ⟨rfl, rfl⟩
    · rw [inNum_hi (by omega)]
      have h3 : decide (n ≤ 1000000) = false := by simpa using h2
      go_enter Tryz.func84, Tryz.ntmps84
      go_wp2
      go_ret
      exact ⟨rfl, rfl⟩
  · rw [inNum_lo (by omega)]
    have h3 : decide (-1000000 ≤ n) = false := by simpa using h1
    go_enter Tryz.func84, Tryz.ntmps84
    go_wp2
    go_ret
    exact ⟨rfl, rfl⟩

set_option maxHeartbeats 400000 in
theorem between_num (n : Int) (w : World) : Calls Tryz.prog 16 #[.int .i64 n, .int .i64 (-1000000), .int .i64 1000000] w fun e w' => e = .returned (.bool (inNum n)) ∧ w = w' := by
  by_cases h1 : -1000000 ≤ n
  · by_cases h2 : n ≤ 1000000
    · rw [inNum_true h1 h2]
      go_enter Tryz.func16, Tryz.ntmps16
      go_wp2
      go_ret
      exact ⟨rfl, rfl⟩
    · rw [inNum_hi (by omega)]
      have h3 : decide (n ≤ 1000000) = false := by simpa using h2
      go_enter Tryz.func16, Tryz.ntmps16
      go_wp2
      go_ret
      exact ⟨rfl, rfl⟩
  · rw [inNum_lo (by omega)]
    have h3 : decide (-1000000 ≤ n) = false := by simpa using h1
    go_enter Tryz.func16, Tryz.ntmps16
    go_wp2
    go_ret
    exact ⟨rfl, rfl⟩

set_option maxHeartbeats 400000 in
theorem implNumTerm (n : Int) (h0 : -9223372036854775808 ≤ n) (h1 : n ≤ 9223372036854775807) (w : World) (hp : Pow w) :
    Calls Tryz.prog 74 #[.int .i64 n] w fun e w' => e = .returned (.string ⟨(numTerm n).toArray⟩) ∧ Below w.heap.size w w' := by
  have H0 := Lib.hid h0
  have H1 := Lib.hid h1
  clear h0 h1
  have hnt : numTerm n = if inNum n then Lib.itoa n else [] := rfl
  cases hb : inNum n
  · rw [hnt, hb]
    clear hnt
    go_enter Tryz.func74, Tryz.ntmps74
    go_wp2_with fail
    refine (isNumber_any n _).mono ?_
    rintro e w' ⟨rfl, rfl⟩
    go_wp2
    go_ret
    exact ⟨rfl, Below.refl _ _⟩
  · rw [hnt, hb]
    clear hnt
    go_enter Tryz.func74, Tryz.ntmps74
    go_wp2_with fail
    refine (isNumber_any n _).mono ?_
    rintro e w' ⟨rfl, rfl⟩
    go_wp2_with fail
    refine (implNumText n H0.out H1.out _ hp).mono ?_
    rintro e w2 ⟨rfl, hb2⟩
    go_wp2
    go_ret
    exact ⟨rfl, hb2⟩

end Go.Proofs.YtcohjmbbanjjeaaGreatDoor

namespace Go.Proofs.YtcohjmbbanjjeaaGreatDoor
open Go

inductive Tm where
  | num (n : Int)
  | sym (b : List UInt8)
  | con (name : List UInt8) (args : List Tm)

def isDig (c : UInt8) : Bool := 48 ≤ c.toNat && c.toNat ≤ 57
def isBig (c : UInt8) : Bool := 65 ≤ c.toNat && c.toNat ≤ 90
def isSml (c : UInt8) : Bool := 97 ≤ c.toNat && c.toNat ≤ 122
def isNam (c : UInt8) : Bool := isBig c || isSml c || isDig c || c.toNat == 95
def isSyB (c : UInt8) : Bool := 32 ≤ c.toNat && c.toNat ≤ 126 && c.toNat != 34 && c.toNat != 92

/-- The digits that l begins with, a '-' ahead of them with them. -/
def numLen (l : List UInt8) : Nat :=
  match l with
  | [] => 0
  | c :: r => if c = 45 then 1 + (r.takeWhile isDig).length else (l.takeWhile isDig).length

/-- The number that a text is in its one form. -/
def numOf (l : List UInt8) : Option Int :=
  match Lib.atoiAll l with
  | .ok n => if -1000000 ≤ n ∧ n ≤ 1000000 ∧ Lib.itoa n = l then some n else none
  | _ => none

/-- readNumber. -/
def rdNum (l : List UInt8) : Option (Int × List UInt8) := (numOf (l.take (numLen l))).map fun n => (n, l.drop (numLen l))

theorem numOf_some {l : List UInt8} {n : Int} (h : numOf l = some n) : -1000000 ≤ n ∧ n ≤ 1000000 ∧ Lib.itoa n = l ∧ Lib.atoiAll l = .ok n := by
  unfold numOf at h
  split at h
  · rename_i v hv
    split at h
    · rename_i hc
      obtain rfl : v = n := by simpa using h
      exact ⟨hc.1, hc.2.1, hc.2.2, hv⟩
    · cases h
  · cases h
theorem numOf_ok {l : List UInt8} {v : Int} (h : Lib.atoiAll l = .ok v) : numOf l = if -1000000 ≤ v ∧ v ≤ 1000000 ∧ Lib.itoa v = l then some v else none := by
  unfold numOf
  rw [h]
theorem numOf_bad {l : List UInt8} (h : ∀ v, Lib.atoiAll l ≠ .ok v) : numOf l = none := by
  unfold numOf
  split
  · rename_i v hv
    exact absurd hv (h v)
  · rfl

/-- readSymbol, behind the first quote. -/
def rdSym (l : List UInt8) : Option (List UInt8 × List UInt8) :=
  match l.dropWhile isSyB with
  | [] => none
  | c :: r => if c = 34 ∧ (l.takeWhile isSyB).length ≤ 20 then some (l.takeWhile isSyB, r) else none

mutual
/-- readTerm. -/
def rdTerm : Nat → List UInt8 → Option (Tm × List UInt8)
  | 0, _ => none
  | _ + 1, [] => none
  | f + 1, c :: l =>
    if c = 34 then (rdSym l).map fun x => (.sym x.1, x.2)
    else if isBig c then rdCon f ((c :: l).takeWhile isNam) ((c :: l).dropWhile isNam)
    else (rdNum (c :: l)).map fun x => (.num x.1, x.2)
/-- readConstructor, behind the name. -/
def rdCon : Nat → List UInt8 → List UInt8 → Option (Tm × List UInt8)
  | f, name, l =>
    if 20 < name.length then none
    else match l with
      | [] => some (.con name [], [])
      | c :: r => if c = 40 then (match f with | 0 => none | f + 1 => (rdArgs f r).map fun x => (.con name x.1, x.2)) else some (.con name [], c :: r)
/-- readArgs. -/
def rdArgs : Nat → List UInt8 → Option (List Tm × List UInt8)
  | 0, _ => none
  | f + 1, l =>
    match rdTerm f l with
    | none => none
    | some (_, []) => none
    | some (t, c :: r) => if c = 41 then some ([t], r) else if c = 44 then (rdArgs f r).map fun x => (t :: x.1, x.2) else none
end

/-! ### Going along a text -/

theorem scan_stop (P : UInt8 → Bool) (l : List UInt8) (q p : Nat) (hqp : q ≤ p) (hp : p ≤ l.length) (hall : ∀ j (h : j < l.length), q ≤ j → j < p → P l[j] = true) (hstop : ∀ h : p < l.length, P l[p] = false) :
    (l.drop q).takeWhile P = (l.drop q).take (p - q) ∧ (l.drop q).dropWhile P = l.drop p := by
  obtain ⟨d, rfl⟩ : ∃ d, p = q + d := ⟨p - q, by omega⟩
  rw [show q + d - q = d from by omega]
  clear hqp
  induction d generalizing q with
  | zero =>
    rcases Nat.lt_or_ge q l.length with h | h
    · have := hstop (by omega)
      simp only [Nat.add_zero] at this ⊢
      rw [List.drop_eq_getElem_cons h]
      simp only [List.takeWhile_cons, List.dropWhile_cons, this, Bool.false_eq_true, if_false, List.take_zero, and_self]
    · rw [List.drop_eq_nil_of_le h]; simp [List.drop_eq_nil_of_le h]
  | succ d ih =>
    have h : q < l.length := by omega
    have h1 := hall q h (by omega) (by omega)
    rw [List.drop_eq_getElem_cons h]
    have := ih (q + 1) (by omega) (fun j hj a b => hall j hj (by omega) (by omega)) (fun h => by
      have := hstop (by omega)
      simpa [show q + (d + 1) = q + 1 + d from by omega] using this)
    simp only [List.takeWhile_cons, List.dropWhile_cons, h1, if_true, List.take_succ_cons]
    exact ⟨by rw [this.1], by rw [this.2, show q + 1 + d = q + (d + 1) from by omega]⟩

end Go.Proofs.YtcohjmbbanjjeaaGreatDoor

namespace Go.Proofs.YtcohjmbbanjjeaaGreatDoor
open Go

/-- The number that digits spell, behind acc. -/
def valFrom (acc : Nat) : List UInt8 → Nat
  | [] => acc
  | c :: r => valFrom (acc * 10 + (c.toNat - 48)) r

theorem valFrom_ge : ∀ (l : List UInt8) (acc : Nat), acc ≤ valFrom acc l
  | [], acc => Nat.le_refl _
  | c :: r, acc => Nat.le_trans (by omega) (valFrom_ge r (acc * 10 + (c.toNat - 48)))
theorem valFrom_snoc (l : List UInt8) (c : UInt8) : ∀ acc, valFrom acc (l ++ [c]) = valFrom acc l * 10 + (c.toNat - 48) := by
  induction l with
  | nil => intro acc; rfl
  | cons x r ih => intro acc; exact ih _
theorem parse_val : ∀ (l : List UInt8) (acc : Nat), (∀ c ∈ l, isDig c = true) → valFrom acc l < 1000000000000000000 → Lib.parseUint10 acc l = .ok (valFrom acc l)
  | [], acc, _, _ => rfl
  | c :: r, acc, hd, hv => by
    have hc := hd c (by simp)
    simp only [isDig, Bool.and_eq_true, decide_eq_true_eq] at hc
    have h1 := valFrom_ge r (acc * 10 + (c.toNat - 48))
    have hv' : valFrom (acc * 10 + (c.toNat - 48)) r < 1000000000000000000 := hv
    rw [Lib.parseUint10, if_pos hc, if_neg (by omega), if_neg (by omega)]
    exact parse_val r _ (fun x hx => hd x (by simp [hx])) hv'

theorem digit_toNat (k : Nat) (h : k < 10) : (UInt8.ofNat (48 + k)).toNat = 48 + k := by simp; omega
theorem dig_val (u : Nat) : valFrom 0 (dig u) = u := by
  induction u using Nat.strongRecOn with
  | ind u ih =>
    by_cases h : u = 0
    · subst h; rw [dig_zero]; rfl
    · rw [dig_pos (by omega), valFrom_snoc, ih (u / 10) (by omega), digit_toNat _ (by omega)]
      omega
theorem dig_isDig (u : Nat) : ∀ c ∈ dig u, isDig c = true := by
  induction u using Nat.strongRecOn with
  | ind u ih =>
    by_cases h : u = 0
    · subst h; rw [dig_zero]; simp
    · rw [dig_pos (by omega)]
      intro c hc
      rcases List.mem_append.1 hc with hc | hc
      · exact ih (u / 10) (by omega) c hc
      · obtain rfl : c = UInt8.ofNat (48 + u % 10) := by simpa using hc
        simp only [isDig, digit_toNat _ (Nat.mod_lt u (by omega : 0 < 10)), Bool.and_eq_true, decide_eq_true_eq]
        omega
theorem dig_ne_nil {u : Nat} (h : 1 ≤ u) : dig u ≠ [] := by rw [dig_pos h]; simp

theorem parseMag_digits {l : List UInt8} (h0 : l ≠ []) (hd : ∀ c ∈ l, isDig c = true) (hv : valFrom 0 l < 1000000000000000000) : Lib.parseMag l = .ok (valFrom 0 l) := by
  unfold Lib.parseMag
  rw [if_neg h0]
  exact parse_val l 0 hd hv

theorem atoiAll_itoa (n : Int) (h0 : -1000000 ≤ n) (h1 : n ≤ 1000000) : Lib.atoiAll (Lib.itoa n) = .ok n := by
  rcases (show n < 0 ∨ n = 0 ∨ 0 < n from by omega) with h | rfl | h
  · rw [itoa_dig_neg h]
    have hp := parseMag_digits (dig_ne_nil (u := n.natAbs) (by omega)) (dig_isDig _) (by rw [dig_val]; omega)
    rw [dig_val] at hp
    have e : (45 : UInt8).toNat = 45 := rfl
    simp only [Lib.atoiAll, e, hp, or_true, if_true, not_true, false_and, if_false, true_and]
    rw [if_neg (by omega)]
    congr 1
    omega
  · rw [itoa_zero]; rfl
  · rw [itoa_dig_pos h]
    have hp := parseMag_digits (dig_ne_nil (u := n.natAbs) (by omega)) (dig_isDig _) (by rw [dig_val]; omega)
    rw [dig_val] at hp
    cases hd : dig n.natAbs with
    | nil => exact absurd hd (dig_ne_nil (by omega))
    | cons c r =>
      have hc := dig_isDig n.natAbs c (by rw [hd]; simp)
      simp only [isDig, Bool.and_eq_true, decide_eq_true_eq] at hc
      rw [hd] at hp
      have n45 : ¬ c.toNat = 45 := by omega
      have n43 : ¬ (c.toNat = 43 ∨ c.toNat = 45) := by omega
      have hx : (if c.toNat = 43 ∨ c.toNat = 45 then r else c :: r) = c :: r := if_neg n43
      simp only [Lib.atoiAll]
      rw [hx, hp]
      simp only [n45, not_false_eq_true, true_and, false_and, if_false]
      rw [if_neg (by omega)]
      congr 1
      omega

/-- The number that a text is: by the numeral. -/
theorem numOf_iff {l : List UInt8} {n : Int} : numOf l = some n ↔ -1000000 ≤ n ∧ n ≤ 1000000 ∧ Lib.itoa n = l := by
  constructor
  · intro h
    have := numOf_some h
    exact ⟨this.1, this.2.1, this.2.2.1⟩
  · rintro ⟨h0, h1, rfl⟩
    rw [numOf_ok (atoiAll_itoa n h0 h1), if_pos ⟨h0, h1, rfl⟩]

/-- A text of digits, 1 to 7 of them: their number. -/
theorem itoa_shape {n : Int} (h0 : -1000000 ≤ n) (h1 : n ≤ 1000000) :
    ∃ ds : List UInt8, ds ≠ [] ∧ ds.length ≤ 7 ∧ (∀ c ∈ ds, isDig c = true) ∧ ((0 ≤ n ∧ Lib.itoa n = ds ∧ n = (valFrom 0 ds : Int)) ∨ (n < 0 ∧ Lib.itoa n = 45 :: ds ∧ n = -(valFrom 0 ds : Int))) := by
  rcases (show n < 0 ∨ n = 0 ∨ 0 < n from by omega) with h | rfl | h
  · exact ⟨dig n.natAbs, dig_ne_nil (by omega), dig_len 7 _ (by omega), dig_isDig _, .inr ⟨h, itoa_dig_neg h, by rw [dig_val]; omega⟩⟩
  · exact ⟨[48], by simp, by simp, by intro c hc; obtain rfl : c = 48 := by simpa using hc
                                      rfl, .inl ⟨by omega, itoa_zero, rfl⟩⟩
  · exact ⟨dig n.natAbs, dig_ne_nil (by omega), dig_len 7 _ (by omega), dig_isDig _, .inl ⟨by omega, itoa_dig_pos h, by rw [dig_val]; omega⟩⟩

end Go.Proofs.YtcohjmbbanjjeaaGreatDoor
