/-
  THE LAWS' OWN HELPERS over lists of numbers and of texts.
-/
import Derived.Test.YtilijbpbnlnhlaaGreatPB
namespace Go.Proofs.YtilijbpbnlnhlaaGreat.Pr
open Go Go.RowKit Go.Maps Go.WideMaps

theorem infoIntS : (Tryz.prog.info? 3).map (fun i => (i.zero, i.size, i.bytes)) = some (some (.int .i64 0), 1, 8) := by kernel_rfl
def intCells (xs : List Int) : List Value := xs.map (fun x => .int .i64 x)
def EqIntSRel (w : World) (n : Nat) (v : Value) (wr : World) : Prop := ∃ k : Nat, Below w.heap.size w wr ∧ v = .int .i64 (k : Int) ∧ k ≤ n

set_option maxRecDepth 100000 in
set_option maxHeartbeats 2000000 in
theorem eqIntS_any (xs : List Int) (a1 a2 : Option Addr) (c1 c2 : Nat) (S1 S2 : Nat → Prop) (w : World) (hu : IntsIn S1 w a1 xs) (hv : IntsIn S2 w a2 xs) (hS1 : ∀ b, S1 b → b < w.heap.size) (hS2 : ∀ b, S2 b → b < w.heap.size) (hn : xs.length ≤ 2000000) :
    Calls Tryz.prog 59 #[.slice a1 xs.length c1, .slice a2 xs.length c2] w fun e w' => e = .returned (.bool true) ∧ Below w.heap.size w w' := by
  have HU := Lib.hid hu
  have HV := Lib.hid hv
  have HS1 := Lib.hid hS1
  have HS2 := Lib.hid hS2
  clear hu hv hS1 hS2
  have hne : ((xs.length : Int) != (xs.length : Int)) = false := by simp
  go_enter Tryz.func59, Tryz.ntmps59
  go_wp2
  go_loopw [5] (fun v wr => EqIntSRel w xs.length v wr) (fun v _ => (xs.length - (intOf v).toNat))
  case atStart => exact ⟨0, Below.refl _ _, rfl, Nat.zero_le _⟩
  case round =>
    obtain ⟨k, hb, rfl, hk⟩ := hrel
    by_cases hlt : k < xs.length
    · obtain ⟨b1, o1, rfl, hl1, hx1⟩ := HU.out.kept (Same.below HS1.out hb) k hlt
      obtain ⟨b2, o2, rfl, hl2, hx2⟩ := HV.out.kept (Same.below HS2.out hb) k hlt
      have hxx : (xs[k] != xs[k]) = false := by simp
      generalize xs[k] = x at *
      have HR := Lib.hid (fun q => (⟨k + 1, below_drewN hb q, by go_num, by omega⟩ : EqIntSRel w xs.length (.int .i64 ((k : Int) + 1)) (wr.drewN q)))
      clear hb hl1 hl2
      go_wp2
      go_quiet (fail)
      go_wp2
      go_roundw
      case rel => exact HR.out _
      case measure => simp [intOf]; omega
    · obtain rfl : k = xs.length := by omega
      go_wp2
      go_ret
      exact ⟨rfl, hb⟩

def ToRelIntS (w : World) (xs : List Int) (g : Nat) (v4 : Value) (wr : World) : Prop :=
  ∃ k : Nat, v4 = .int .i64 (k : Int) ∧ k ≤ xs.length ∧ wr.ownsRow w.heap.size 3 1 (.slice (some ⟨g, 0, none⟩) xs.length xs.length) xs.length (intCells (xs.take k ++ List.replicate (xs.length - k) 0)) ∧ Below w.heap.size w wr
theorem own_IntS {w : World} {base : Nat} {g cap : Nat} {xs : List Int} (h : w.ownsRow base 3 1 (.slice (some ⟨g, 0, none⟩) xs.length cap) xs.length (intCells xs)) (hg : g < w.heap.size) (hb : base ≤ g) : IntsIn (Seg base w.heap.size) w (some ⟨g, 0, none⟩) xs := by
  intro i hi
  refine ⟨g, 0, rfl, ⟨hb, hg⟩, ?_⟩
  rw [Nat.zero_add, h.cellAt i (by omega)]
  simp [intCells, hi]

set_option maxRecDepth 100000 in
set_option maxHeartbeats 2000000 in
theorem toIntS_any (a : Option Addr) (cap : Nat) (xs : List Int) (S : Nat → Prop) (w : World) (hrow : IntsIn S w a xs) (hS : ∀ b, S b → b < w.heap.size) (hn : xs.length ≤ 1048576) :
    Calls Tryz.prog 51 #[.slice a xs.length cap] w fun e w' => ∃ g : Nat, e = .returned (.slice (some ⟨g, 0, none⟩) xs.length xs.length) ∧ IntsIn (Seg w.heap.size w'.heap.size) w' (some ⟨g, 0, none⟩) xs ∧ Below w.heap.size w w' := by
  have HR := Lib.hid hrow
  have HS := Lib.hid hS
  clear hrow hS
  obtain ⟨i0, hi0, hz0, hz1, hz2⟩ := info_parts infoIntS
  have hmk : (Instr.makeSlice 23 (.int .i64 (xs.length : Int)) (.int .i64 (xs.length : Int))).run Tryz.prog w = .ok (.slice (some ⟨w.heap.size, 0, none⟩) xs.length xs.length) (w.alloc (.cells (madeCells #[.int .i64 0] xs.length) 3)) := by
    rw [run_make w 23 3 i0 _ Tryz.underlying23 hi0 hz0 .i64 .i64 _ _ (by omega) (by omega) (by rw [hz2]; omega) (by omega), hz1, Int.toNat_natCast, Nat.mul_one]
    rfl
  have hown0 : (w.alloc (.cells (madeCells #[.int .i64 0] xs.length) 3)).ownsRow w.heap.size 3 1 (.slice (some ⟨w.heap.size, 0, none⟩) xs.length xs.length) xs.length (intCells ([] ++ List.replicate xs.length 0)) := by
    refine ⟨by simp [intCells], .inr ⟨w.heap.size, xs.length, _, rfl, Nat.le_refl _, heap_alloc_new w _, Nat.le_refl _, by unfold maxLen; omega, by rw [size_madeCells, Nat.mul_one], ?_⟩⟩
    rw [toList_madeCells_one, Nat.mul_one]
    simp [intCells]
  have hb0 := (Below.refl w.heap.size w).alloc (Nat.le_refl _) (Obj.cells (madeCells #[.int .i64 0] xs.length) 3)
  generalize w.alloc (.cells (madeCells #[.int .i64 0] xs.length) 3) = W0 at *
  clear hi0 hz0 hz1 hz2
  go_enter Tryz.func51, Tryz.ntmps51
  go_wp2
  clear hmk
  go_loopw [4] (fun v4 wr => ToRelIntS w xs w.heap.size v4 wr) (fun v4 _ => (xs.length - (intOf v4).toNat))
  case atStart => exact ⟨0, rfl, Nat.zero_le _, hown0, hb0⟩
  case round =>
    obtain ⟨k, rfl, hk, hown, hb⟩ := hrel
    by_cases hlt : k < xs.length
    · obtain ⟨b, off, rfl, hbl, hx⟩ := HR.out k hlt
      have hx' : wr.cell? ⟨b, off + k, none⟩ = some (.int .i64 xs[k]) := (hb.cell (HS.out _ hbl)).trans hx
      obtain ⟨u, hu⟩ : ∃ u, wr.cell? ⟨w.heap.size, k, none⟩ = some u := ⟨_, (hown.cellAt k (by omega)).trans (List.getElem?_eq_getElem (by simp [intCells]; omega))⟩
      have hfz : wr.frozen? ⟨w.heap.size, k, none⟩ = false := row_frozen hown k
      have HRR := Lib.hid ((⟨k + 1, by go_num, by omega, by
          have hos := owns_set hown hlt (.int .i64 xs[k])
          have hcl : (intCells (xs.take k ++ List.replicate (xs.length - k) 0)).set k (.int .i64 xs[k]) = intCells (xs.take (k + 1) ++ List.replicate (xs.length - (k + 1)) 0) := by
            have e2 : (intCells (xs.take k)).length = k := by simp [intCells]; omega
            rw [List.take_succ_eq_append_getElem hlt, show xs.length - k = (xs.length - (k + 1)) + 1 from by omega, List.replicate_succ]
            simp only [intCells, List.map_append, List.map_cons] at e2 ⊢
            rw [List.set_append_right _ _ (by omega), e2]
            simp
          rw [hcl] at hos
          exact hos, hb.setCell (p := ⟨w.heap.size, k, none⟩) (Nat.le_refl _) _⟩ : ToRelIntS w xs w.heap.size (.int .i64 ((k : Int) + 1)) (wr.setCell ⟨w.heap.size, k, none⟩ (.int .i64 xs[k]))))
      clear hown hb hx hbl
      generalize xs[k] = x at *
      go_wp2
      go_roundw
      case rel => exact HRR.out
      case measure => simp [intOf]; omega
    · obtain rfl : k = xs.length := by omega
      rw [List.take_length, Nat.sub_self, List.replicate_zero, List.append_nil] at hown
      have hgl : w.heap.size < wr.heap.size := by
        rcases hown.2 with ⟨h', _⟩ | ⟨g', cap', cur, hv', _, hh', _⟩
        · cases h'
        · simp only [Value.slice.injEq, Option.some.injEq, Addr.mk.injEq, true_and, and_true] at hv'
          obtain ⟨rfl, rfl⟩ := hv'
          exact lt_of_block hh'
      have HO := Lib.hid (own_IntS hown hgl (Nat.le_refl _))
      clear hown hgl
      go_wp2
      go_ret
      exact ⟨_, rfl, HO.out, hb⟩

def wtIntS (xs : List Int) : Nat := xs.length
set_option maxRecDepth 100000 in
set_option maxHeartbeats 2000000 in
theorem szIntS_any (a : Option Addr) (cap : Nat) (xs : List Int) (L : Int) (S : Nat → Prop) (w : World) (_hrow : IntsIn S w a xs) (_hS : ∀ b, S b → b < w.heap.size) (hn : xs.length ≤ 9223372036854775807) (h0 : 0 ≤ L) (h1 : L ≤ 1048576) :
    Calls Tryz.prog 45 #[.slice a xs.length cap, .int .i64 L] w fun e w' => (∃ r : Int, e = .returned (.int .i64 r) ∧ ((r < 0 ∧ L < wtIntS xs) ∨ (r = L - wtIntS xs ∧ (wtIntS xs : Int) ≤ L))) ∧ Below w.heap.size w w' := by
  unfold wtIntS
  generalize xs.length = n at *
  by_cases h : (n : Int) ≤ L
  · have hd : decide (L - (n : Int) < 0) = false := decide_eq_false (by omega)
    go_enter Tryz.func45, Tryz.ntmps45
    go_wp2
    go_ret
    exact ⟨⟨_, rfl, .inr ⟨rfl, h⟩⟩, Below.refl _ _⟩
  · have hd : decide (L - (n : Int) < 0) = true := decide_eq_true (by omega)
    go_enter Tryz.func45, Tryz.ntmps45
    go_wp2
    go_ret
    exact ⟨⟨-1, rfl, .inl (by omega)⟩, Below.refl _ _⟩

theorem infoStringS : (Tryz.prog.info? 9).map (fun i => (i.zero, i.size, i.bytes)) = some (some (.string ⟨#[]⟩), 1, 16) := by kernel_rfl
def txtCells (xs : List ByteArray) : List Value := xs.map (fun x => .string x)
def EqStringSRel (w : World) (n : Nat) (v : Value) (wr : World) : Prop := ∃ k : Nat, Below w.heap.size w wr ∧ v = .int .i64 (k : Int) ∧ k ≤ n

set_option maxRecDepth 100000 in
set_option maxHeartbeats 2000000 in
theorem eqStringS_any (xs : List ByteArray) (a1 a2 : Option Addr) (c1 c2 : Nat) (S1 S2 : Nat → Prop) (w : World) (hu : TxtsIn S1 w a1 xs) (hv : TxtsIn S2 w a2 xs) (hS1 : ∀ b, S1 b → b < w.heap.size) (hS2 : ∀ b, S2 b → b < w.heap.size) (hn : xs.length ≤ 2000000) :
    Calls Tryz.prog 10 #[.slice a1 xs.length c1, .slice a2 xs.length c2] w fun e w' => e = .returned (.bool true) ∧ Below w.heap.size w w' := by
  have HU := Lib.hid hu
  have HV := Lib.hid hv
  have HS1 := Lib.hid hS1
  have HS2 := Lib.hid hS2
  clear hu hv hS1 hS2
  have hne : ((xs.length : Int) != (xs.length : Int)) = false := by simp
  go_enter Tryz.func10, Tryz.ntmps10
  go_wp2
  go_loopw [5] (fun v wr => EqStringSRel w xs.length v wr) (fun v _ => (xs.length - (intOf v).toNat))
  case atStart => exact ⟨0, Below.refl _ _, rfl, Nat.zero_le _⟩
  case round =>
    obtain ⟨k, hb, rfl, hk⟩ := hrel
    by_cases hlt : k < xs.length
    · obtain ⟨b1, o1, rfl, hl1, hx1⟩ := HU.out.kept (Same.below HS1.out hb) k hlt
      obtain ⟨b2, o2, rfl, hl2, hx2⟩ := HV.out.kept (Same.below HS2.out hb) k hlt
      have hxx : (xs[k].toList != xs[k].toList) = false := by simp
      generalize xs[k] = x at *
      have HR := Lib.hid (fun q => (⟨k + 1, below_drewN hb q, by go_num, by omega⟩ : EqStringSRel w xs.length (.int .i64 ((k : Int) + 1)) (wr.drewN q)))
      clear hb hl1 hl2
      go_wp2
      go_quiet (fail)
      go_wp2
      go_roundw
      case rel => exact HR.out _
      case measure => simp [intOf]; omega
    · obtain rfl : k = xs.length := by omega
      go_wp2
      go_ret
      exact ⟨rfl, hb⟩

def ToRelStringS (w : World) (xs : List ByteArray) (g : Nat) (v4 : Value) (wr : World) : Prop :=
  ∃ k : Nat, v4 = .int .i64 (k : Int) ∧ k ≤ xs.length ∧ wr.ownsRow w.heap.size 9 1 (.slice (some ⟨g, 0, none⟩) xs.length xs.length) xs.length (txtCells (xs.take k ++ List.replicate (xs.length - k) ⟨#[]⟩)) ∧ Below w.heap.size w wr
theorem own_StringS {w : World} {base : Nat} {g cap : Nat} {xs : List ByteArray} (h : w.ownsRow base 9 1 (.slice (some ⟨g, 0, none⟩) xs.length cap) xs.length (txtCells xs)) (hg : g < w.heap.size) (hb : base ≤ g) : TxtsIn (Seg base w.heap.size) w (some ⟨g, 0, none⟩) xs := by
  intro i hi
  refine ⟨g, 0, rfl, ⟨hb, hg⟩, ?_⟩
  rw [Nat.zero_add, h.cellAt i (by omega)]
  simp [txtCells, hi]

def wtStringS (xs : List ByteArray) : Nat := wsum ByteArray.size xs + xs.length
def SzRelStringS (w : World) (l : List ByteArray) (L : Int) (v1 v4 : Value) (wr : World) : Prop :=
  ∃ k : Nat, Below w.heap.size w wr ∧ v4 = .int .i64 (k : Int) ∧ k ≤ l.length ∧ v1 = .int .i64 (L - (l.length : Int) - (wsum ByteArray.size (l.take k) : Int)) ∧ ((wsum ByteArray.size (l.take k) : Int) + l.length ≤ L)
end Go.Proofs.YtilijbpbnlnhlaaGreat.Pr
