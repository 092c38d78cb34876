/-
  THE WALKS over the drawing of inputs: l01Open, pick, once, raw.
-/
import Derived.Test.YtliibknppfbfeaaPB
import Derived.OpenShut
namespace Go.Proofs.Ytliibknppfbfeaa.Pr
open Go Go.RowKit Go.Maps Go.WideMaps

/-- What is known of a slice of bytes that came in. -/
def IsRow (k : IntKind) (w : World) (a : Option Addr) (len cap : Nat) (zs : List Int) : Prop :=
  (a = none ∧ len = 0 ∧ cap = 0 ∧ zs = []) ∨
  ∃ x, a = some x ∧ len ≤ cap ∧ cap ≤ maxLen ∧ zs.length = cap ∧ (∀ i, i < zs.length → w.cell? (x.add i) = some (.int k (zs.getD i 0))) ∧ ∀ n ∈ zs, (Lit.int k n).wf = true

/-- Bytes to read: each place within the length holds a byte. -/
def CodeAt (w : World) (a : Option Addr) (len : Nat) : Prop :=
  len ≤ 1048576 ∧ ∀ i, i < len → ∃ (b off : Nat) (z : Int), a = some ⟨b, off, none⟩ ∧ b < w.heap.size ∧ w.cell? ⟨b, off + i, none⟩ = some (.int .u8 z) ∧ 0 ≤ z ∧ z ≤ 255

theorem code_of {w : World} {a : Option Addr} {len cap : Nat} {zs : List Int} (h : IsRow .u8 w a len cap zs) (hl : len ≤ 1048576) : CodeAt w a len := by
  refine ⟨hl, fun i hi => ?_⟩
  rcases h with ⟨rfl, rfl, _, _⟩ | ⟨x, rfl, h1, h2, h3, h4, h5⟩
  · omega
  · obtain ⟨b, off, spot⟩ := x
    have hc0 := h4 0 (by omega)
    have hspot : spot = none := by simpa [Addr.add] using World.cell?_spot hc0
    subst hspot
    have hc := h4 i (by omega)
    have ha : (Addr.add ⟨b, off, none⟩ i) = ⟨b, off + i, none⟩ := by
      unfold Addr.add
      by_cases e : i = 0
      · simp [e]
      · simp [e]
    rw [ha] at hc
    have hw := h5 (zs.getD i 0) (by
      have hil : i < zs.length := by omega
      simp only [List.getD, List.getElem?_eq_getElem hil, Option.getD_some]
      exact List.getElem_mem _)
    have hbd := Go.bounds_u8 hw
    exact ⟨b, off, _, rfl, cell_lt hc, hc, by omega, by omega⟩

theorem CodeAt.kept {w w' : World} {a : Option Addr} {len : Nat} (h : CodeAt w a len) (hb : Below w.heap.size w w') : CodeAt w' a len := by
  refine ⟨h.1, fun i hi => ?_⟩
  obtain ⟨b, off, z, rfl, h1, h2, h3⟩ := h.2 i hi
  refine ⟨b, off, z, rfl, Nat.lt_of_lt_of_le h1 hb.size, ?_, h3⟩
  rw [← h2]
  unfold World.cell?
  rw [hb.block b h1]

/-- The cursor at block c, over the code (a, len): its place and its seed. -/
structure CurAt (w0 w : World) (c : Nat) (a : Option Addr) (len cap : Nat) (N : Nat) : Prop where
  new : w0.heap.size ≤ c
  code : CodeAt w0 a len
  below : Below w0.heap.size w0 w
  lies : ∃ (k sd : Nat), k ≤ N ∧ sd ≤ 65520 ∧ w.heap[c]? = some (.cells #[.slice a len cap, .int .i64 (k : Int), .int .i64 (sd : Int)] 62 (0, 0))

theorem CurAt.moved {w0 w : World} {c : Nat} {a : Option Addr} {len cap N k sd q : Nat} (hnew : w0.heap.size ≤ c) (hcode : CodeAt w0 a len) (hbel : Below w0.heap.size w0 w) (hk : k ≤ N) (hsd : sd ≤ 65520)
    (hh : w.heap[c]? = some (.cells #[.slice a len cap, .int .i64 (k : Int), .int .i64 (sd : Int)] 62 (0, 0))) :
    CurAt w0 ((w.drewN q).setCell ⟨c, 1, none⟩ (.int .i64 ((k : Int) + 1))) c a len cap (N + 1) := by
  refine ⟨hnew, hcode, (below_drewN hbel q).setCell (p := ⟨c, 1, none⟩) hnew _, k + 1, sd, by omega, hsd, ?_⟩
  have := heap_setCell_same (w.drewN q) c 1 _ _ (.int .i64 ((k : Int) + 1)) hh
  rw [this]
  rfl
theorem CurAt.moved2 {w0 w : World} {c : Nat} {a : Option Addr} {len cap N k sd sd' q q' : Nat} (hnew : w0.heap.size ≤ c) (hcode : CodeAt w0 a len) (hbel : Below w0.heap.size w0 w) (hk : k ≤ N) (hsd : sd' ≤ 65520)
    (hh : w.heap[c]? = some (.cells #[.slice a len cap, .int .i64 (k : Int), .int .i64 (sd : Int)] 62 (0, 0))) :
    CurAt w0 ((((w.drewN q).setCell ⟨c, 2, none⟩ (.int .i64 (sd' : Int))).drewN q').setCell ⟨c, 1, none⟩ (.int .i64 ((k : Int) + 1))) c a len cap (N + 1) := by
  have h2 := heap_setCell_same (w.drewN q) c 2 _ _ (.int .i64 (sd' : Int)) hh
  exact CurAt.moved hnew hcode ((below_drewN hbel q).setCell (p := ⟨c, 2, none⟩) hnew _) hk hsd h2

theorem only1 (w : World) (c q : Nat) (v : Value) : ∀ j : Nat, j ≠ c → ((w.drewN q).setCell ⟨c, 1, none⟩ v).heap[j]? = w.heap[j]? := fun j hj => by
  rw [heap_setCell_other (w.drewN q) ⟨c, 1, none⟩ _ _ hj]; rfl
theorem only2 (w : World) (c q q' : Nat) (u v : Value) : ∀ j : Nat, j ≠ c → ((((w.drewN q).setCell ⟨c, 2, none⟩ u).drewN q').setCell ⟨c, 1, none⟩ v).heap[j]? = w.heap[j]? := fun j hj => by
  rw [only1 _ _ _ _ j hj, heap_setCell_other (w.drewN q) ⟨c, 2, none⟩ _ _ hj]; rfl

set_option maxRecDepth 100000 in
set_option maxHeartbeats 1000000 in
theorem pick_any {w0 : World} {c : Nat} {a : Option Addr} {len cap N : Nat} (n : Nat) (hn : 2 ≤ n) (hn2 : n ≤ 1000) (hN : N ≤ 100000) (w : World) (hC : CurAt w0 w c a len cap N) :
    Calls Try.prog 31 #[.pointer (some ⟨c, 0, none⟩), .int .i64 (n : Int)] w fun e w' => ∃ r : Nat, r < n ∧ e = .returned (.int .i64 (r : Int)) ∧ CurAt w0 w' c a len cap (N + 1) ∧ ∀ j : Nat, j ≠ c → w'.heap[j]? = w.heap[j]? := by
  obtain ⟨hnew, hcode, hbel, k, sd, hk, hsd, hh⟩ := hC
  have c0 : w.cell? ⟨c, 0, none⟩ = some (.slice a len cap) := by rw [cell_of_row w c 0 _ _ _ hh]; rfl
  have c1 : w.cell? ⟨c, 1, none⟩ = some (.int .i64 (k : Int)) := by rw [cell_of_row w c 1 _ _ _ hh]; rfl
  have c2 : w.cell? ⟨c, 2, none⟩ = some (.int .i64 (sd : Int)) := by rw [cell_of_row w c 2 _ _ _ hh]; rfl
  have hcl := lt_of_block hh
  have f1 : w.frozen? ⟨c, 1, none⟩ = false := by simp [World.frozen?, hh]
  have f2 : w.frozen? ⟨c, 2, none⟩ = false := by simp [World.frozen?, hh]
  have hlt2 : decide ((n : Int) < 2) = false := decide_eq_false (by omega)
  have hln := hcode.1
  by_cases hkl : k < len
  · obtain ⟨b, off, z, rfl, hb, hz, hz0, hz1⟩ := hcode.2 k hkl
    have hzw : w.cell? ⟨b, off + k, none⟩ = some (.int .u8 z) := by
      rw [← hz]
      unfold World.cell?
      rw [hbel.block b hb]
    have hbc : b ≠ c := by omega
    go_enter Try.func31, Try.ntmps31
    have HM := Lib.hid (fun q => CurAt.moved (cap := cap) (N := N) (q := q) hnew hcode hbel hk hsd hh)
    clear hcode hh hz hbel
    go_wp2
    go_quiet (fail)
    go_wp2
    go_quiet (fail)
    go_wp2
    go_ret
    refine ⟨(z % (n : Int)).toNat, ?_, ?_, HM.out _, only1 _ _ _ _⟩
    · have := Int.emod_lt_of_pos z (show (0 : Int) < n by omega)
      omega
    · exact congrArg (fun y : Int => Ending.returned (.int .i64 y)) (Int.toNat_of_nonneg (Int.emod_nonneg z (by omega))).symm
  · have hlt3 : decide ((k : Int) < (len : Int)) = false := decide_eq_false (by omega)
    by_cases hl0 : 0 < len
    · have hm : k % len < len := Nat.mod_lt _ hl0
      obtain ⟨b, off, z, rfl, hb, hz, hz0, hz1⟩ := hcode.2 (k % len) hm
      have hzw : w.cell? ⟨b, off + k % len, none⟩ = some (.int .u8 z) := by
        rw [← hz]
        unfold World.cell?
        rw [hbel.block b hb]
      have hbc : b ≠ c := by omega
      have hcast : (((sd * 1103 + 12345) % 65521 : Nat) : Int) = ((sd : Int) * 1103 + 12345) % 65521 := by omega
      have HM := fun q q' => CurAt.moved2 (cap := cap) (N := N) (sd' := (sd * 1103 + 12345) % 65521) (q := q) (q' := q') hnew hcode hbel hk (by omega) hh
      rw [hcast] at HM
      have HM := Lib.hid HM
      have hgt : decide ((0 : Int) < (len : Int)) = true := decide_eq_true (by omega)
      clear hcode hh hz hbel hcast
      go_enter Try.func31, Try.ntmps31
      go_wp2
      go_quiet (fail)
      go_wp2
      go_quiet (fail)
      go_wp2
      go_ret
      refine ⟨((((sd : Int) * 1103 + 12345) % 65521 / 7 + z) % (n : Int)).toNat, ?_, ?_, HM.out _ _, only2 _ _ _ _ _ _⟩
      · have := Int.emod_lt_of_pos (((sd : Int) * 1103 + 12345) % 65521 / 7 + z) (show (0 : Int) < n by omega)
        omega
      · exact congrArg (fun y : Int => Ending.returned (.int .i64 y)) (Int.toNat_of_nonneg (Int.emod_nonneg (((sd : Int) * 1103 + 12345) % 65521 / 7 + z) (by omega))).symm
    · obtain rfl : len = 0 := by omega
      have hcast : (((sd * 1103 + 12345) % 65521 : Nat) : Int) = ((sd : Int) * 1103 + 12345) % 65521 := by omega
      have HM := fun q q' => CurAt.moved2 (cap := cap) (N := N) (sd' := (sd * 1103 + 12345) % 65521) (q := q) (q' := q') hnew hcode hbel hk (by omega) hh
      rw [hcast] at HM
      have HM := Lib.hid HM
      clear hcode hh hbel hcast hln
      go_enter Try.func31, Try.ntmps31
      go_wp2
      go_quiet (fail)
      go_wp2
      go_ret
      exact ⟨0, by omega, rfl, HM.out _ 0, only2 _ _ _ 0 _ _⟩

/-- A cursor outlives a call that leaves old memory alone. -/
theorem CurAt.kept {w0 w w' : World} {c : Nat} {a : Option Addr} {len cap N : Nat} (h : CurAt w0 w c a len cap N) (hb : Below w.heap.size w w') : CurAt w0 w' c a len cap N := by
  obtain ⟨hnew, hcode, hbel, k, sd, hk, hsd, hh⟩ := h
  exact ⟨hnew, hcode, hbel.trans (hb.mono hbel.size), k, sd, hk, hsd, by rw [hb.block c (lt_of_block hh)]; exact hh⟩

set_option maxRecDepth 100000 in
set_option maxHeartbeats 1000000 in
theorem open_any {a : Option Addr} {len cap : Nat} (w : World) (hcode : CodeAt w a len) :
    Calls Try.prog 18 #[.slice a len cap] w fun e w' => ∃ c : Nat, e = .returned (.pointer (some ⟨c, 0, none⟩)) ∧ CurAt w w' c a len cap 0 := by
  have hln := hcode.1
  have HC := Lib.hid hcode
  clear hcode
  go_enter Try.func18, Try.ntmps18
  go_wp2
  go_ret
  have hcast : ((61 + len % 1000 : Nat) : Int) = 61 + (len : Int) % 1000 := by omega
  refine ⟨w.heap.size, rfl, ⟨Nat.le_refl _, HC.out, (Below.refl _ _).alloc (Nat.le_refl _) _, 0, 61 + len % 1000, Nat.le_refl _, by omega, ?_⟩⟩
  rw [hcast]
  exact heap_alloc_new w _

theorem CurAt.lt {w0 w : World} {c : Nat} {a : Option Addr} {len cap N : Nat} (h : CurAt w0 w c a len cap N) : c < w.heap.size := by
  obtain ⟨hnew, hcode, hbel, k, sd, hk, hsd, hh⟩ := h
  exact lt_of_block hh
theorem eight : ∀ r : Nat, r < 8 → ∃ z : Int, (#[Value.int .i64 9223372036854775807, Value.int .i64 (-9223372036854775808), Value.int .i64 4611686018427387904, Value.int .i64 1000, Value.int .i64 1001, Value.int .i64 (-1000), Value.int .i64 100000, Value.int .i64 100001] : Array Value)[r]? = some (.int .i64 z) ∧ -9223372036854775808 ≤ z ∧ z ≤ 9223372036854775807
  | 0, _ => ⟨_, rfl, by omega, by omega⟩
  | 1, _ => ⟨_, rfl, by omega, by omega⟩
  | 2, _ => ⟨_, rfl, by omega, by omega⟩
  | 3, _ => ⟨_, rfl, by omega, by omega⟩
  | 4, _ => ⟨_, rfl, by omega, by omega⟩
  | 5, _ => ⟨_, rfl, by omega, by omega⟩
  | 6, _ => ⟨_, rfl, by omega, by omega⟩
  | 7, _ => ⟨_, rfl, by omega, by omega⟩
  | r + 8, h => by omega
set_option maxRecDepth 100000 in
set_option maxHeartbeats 1000000 in
theorem raw_any {w0 : World} {c : Nat} {a : Option Addr} {len cap N : Nat} (hN : N ≤ 90000) (w : World) (hC : CurAt w0 w c a len cap N) :
    Calls Try.prog 33 #[.pointer (some ⟨c, 0, none⟩)] w fun e w' => ∃ n : Int, -9223372036854775808 ≤ n ∧ n ≤ 9223372036854775807 ∧ e = .returned (.int .i64 n) ∧ CurAt w0 w' c a len cap (N + 2) ∧ ∀ j : Nat, j < w.heap.size → j ≠ c → w'.heap[j]? = w.heap[j]? := by
  go_enter Try.func33, Try.ntmps33
  go_wp2_with fail
  refine (pick_any 8 (by omega) (by omega) (by omega) _ hC).mono ?_
  rintro e w1 ⟨r, hr, rfl, hC1, ho1⟩
  have HO1 := Lib.hid ho1
  clear ho1
  by_cases h0 : r = 0
  · subst h0
    go_wp2_with fail
    refine (pick_any 256 (by omega) (by omega) (by omega) _ hC1).mono ?_
    rintro e w2 ⟨r2, hr2, rfl, hC2, ho2⟩
    have HC2 := Lib.hid hC2
    have HO2 := Lib.hid ho2
    clear hC hC1 hC2 ho2
    go_wp2
    go_ret
    exact ⟨(r2 : Int) - 128, by omega, by omega, rfl, HC2.out, fun j _ hj => (HO2.out j hj).trans (HO1.out j hj)⟩
  · by_cases h1 : r = 1
    · subst h1
      have hC1' := hC1.kept ((Below.refl w1.heap.size w1).alloc (Nat.le_refl _) (Obj.cells #[Value.int .i64 9223372036854775807, Value.int .i64 (-9223372036854775808), Value.int .i64 4611686018427387904, Value.int .i64 1000, Value.int .i64 1001, Value.int .i64 (-1000), Value.int .i64 100000, Value.int .i64 100001] 3))
      have hcl := hC1.lt
      go_wp2_with fail
      refine (pick_any 8 (by omega) (by omega) (by omega) _ hC1').mono ?_
      rintro e w2 ⟨r2, hr2, rfl, hC2, ho2⟩
      have hrow := (ho2 w1.heap.size (by omega)).trans (heap_alloc_new w1 _)
      obtain ⟨z, hz, hz0, hz1⟩ := eight r2 hr2
      have hx : w2.cell? ⟨w1.heap.size, r2, none⟩ = some (.int .i64 z) := by rw [cell_of_row w2 _ _ _ _ _ hrow]; exact hz
      have HC2 := Lib.hid hC2
      have hsz := Lib.hid (show ∀ j, j < w.heap.size → j ≠ c → w2.heap[j]? = w.heap[j]? from fun j h1 hj => by
        have hw1 : j < w1.heap.size := by
          cases hb : w.heap[j]? with
          | none => simp at hb; omega
          | some ob => exact lt_of_block ((HO1.out j hj).trans hb)
        exact (ho2 j hj).trans ((heap_alloc_old w1 _ hw1).trans (HO1.out j hj)))
      clear hC hC1 hC2 hC1' ho2 hrow hz
      go_wp2
      go_ret
      exact ⟨z, hz0, hz1, rfl, HC2.out, hsz.out⟩
    · have e0 : ((r : Int) == 0) = false := beq_eq_false_iff_ne.2 (by omega)
      have e1 : ((r : Int) == 1) = false := beq_eq_false_iff_ne.2 (by omega)
      go_wp2_with fail
      refine (pick_any 14 (by omega) (by omega) (by omega) _ hC1).mono ?_
      rintro e w2 ⟨r2, hr2, rfl, hC2, ho2⟩
      have HC2 := Lib.hid hC2
      have HO2 := Lib.hid ho2
      clear hC hC1 hC2 ho2
      go_wp2
      go_ret
      exact ⟨(r2 : Int) - 3, by omega, by omega, rfl, HC2.out, fun j _ hj => (HO2.out j hj).trans (HO1.out j hj)⟩

set_option maxRecDepth 100000 in
set_option maxHeartbeats 1000000 in
theorem once_any {w0 : World} {c : Nat} {a : Option Addr} {len cap N : Nat} (n : Nat) (hn : 2 ≤ n) (hn2 : n ≤ 1000) (hN : N ≤ 100000) (w : World) (hC : CurAt w0 w c a len cap N) :
    Calls Try.prog 32 #[.pointer (some ⟨c, 0, none⟩), .int .i64 (n : Int)] w fun e w' => ∃ b : Bool, e = .returned (.bool b) ∧ CurAt w0 w' c a len cap (N + 1) ∧ ∀ j : Nat, j ≠ c → w'.heap[j]? = w.heap[j]? := by
  go_enter Try.func32, Try.ntmps32
  go_wp2_with fail
  refine (pick_any n hn hn2 hN _ hC).mono ?_
  rintro e w1 ⟨r, hr, rfl, hC1, ho1⟩
  have HC1 := Lib.hid hC1
  have HO1 := Lib.hid ho1
  clear hC hC1 ho1
  go_wp2
  go_ret
  exact ⟨_, rfl, HC1.out, HO1.out⟩

set_option maxHeartbeats 400000 in
theorem big_any {a : Option Addr} {len cap : Nat} (w : World) : Calls Try.prog 6 #[.slice a len cap] w fun e w' => e = .returned (.bool (decide ((1048576 : Int) < (len : Int)))) ∧ w = w' := by
  go_enter Try.func6, Try.ntmps6
  go_wp2
  go_ret
  exact ⟨rfl, rfl⟩

end Go.Proofs.Ytliibknppfbfeaa.Pr
