/-
  laws.FnExactTermParts answers true.
-/
import Derived.Test.YtngnmfoephegmaaDoorText
namespace Go.Proofs.YtngnmfoephegmaaDoor
open Go Go.RowKit Go.Maps Go.WideMaps

theorem strs_inj : ∀ {xs ys : List ByteArray}, xs.map lst = ys.map lst → xs = ys
  | [], [], _ => rfl
  | [], y :: ys, h => by simp at h
  | x :: xs, [], h => by simp at h
  | x :: xs, y :: ys, h => by
    simp only [List.map_cons, List.cons.injEq] at h
    rw [lst_inj h.1, strs_inj h.2]

/-- A row outlives a call that leaves old memory alone. -/
theorem row_kept {w w' : World} {base : Nat} {e : TypeId} {size : Nat} {v : Value} {n : Nat} {xs : List Value} (h : w.ownsRow base e size v n xs) (hb : Below w.heap.size w w') : w'.ownsRow base e size v n xs := by
  have hg : w.grownBy w' none := ⟨hb.os, hb.tape, hb.output, hb.size, fun k hk _ => hb.block k hk⟩
  exact h.kept hg (by cases hv : v.ownBlock <;> simp)

def EqRel (w : World) (n : Nat) (v : Value) (wr : World) : Prop := ∃ k : Nat, Below w.heap.size w wr ∧ v = .int .i64 (k : Int) ∧ k ≤ n

/-- The digits of k, ahead of those that are there. -/
def digs : Nat → Nat → List UInt8 → List UInt8
  | 0, _, acc => acc
  | f + 1, k, acc => if k = 0 then acc else digs f (k / 10) (UInt8.ofNat (48 + k % 10) :: acc)
def markOf (k : Nat) : List UInt8 := 109 :: digs 2000 k []
theorem digs_zero (f : Nat) (acc : List UInt8) : digs f 0 acc = acc := by
  cases f with
  | zero => rw [digs]
  | succ f => rw [digs, if_pos rfl]
theorem digs_step {f k : Nat} (acc : List UInt8) (h : 0 < k) (hf : k ≤ f) : ∃ f', k / 10 ≤ f' ∧ digs f k acc = digs f' (k / 10) (UInt8.ofNat (48 + k % 10) :: acc) := by
  cases f with
  | zero => omega
  | succ f => exact ⟨f, by omega, by rw [digs, if_neg (by omega)]⟩

def MarkRel (w : World) (k : Nat) (v0 v3 : Value) (wr : World) : Prop :=
  ∃ (f k' : Nat) (s : ByteArray), Below w.heap.size w wr ∧ v0 = .int .i64 (k' : Int) ∧ v3 = .string s ∧ k' ≤ f ∧ s.size + k' ≤ k ∧ digs f k' (lst s) = digs 2000 k []

set_option maxRecDepth 100000 in
set_option maxHeartbeats 1000000 in
theorem markText_any (k : Nat) (hk : 1 ≤ k) (hk2 : k ≤ 1000) (w : World) :
    Calls Tryd.prog 36 #[.int .i64 (k : Int)] w fun e w' => (∃ s : ByteArray, e = .returned (.string s) ∧ lst s = markOf k) ∧ Below w.heap.size w w' := by
  have hle : decide ((k : Int) ≤ 0) = false := decide_eq_false (by omega)
  go_enter Tryd.func36, Tryd.ntmps36
  go_wp2
  go_loopw [0, 3] (fun v0 v3 wr => MarkRel w k v0 v3 wr) (fun v0 _ _ => (intOf v0).toNat)
  case atStart => exact ⟨2000, k, ⟨#[]⟩, Below.refl _ _, rfl, rfl, by omega, Nat.le_of_eq (Nat.zero_add k), rfl⟩
  case round =>
    obtain ⟨f, k', s, hb, rfl, rfl, hkf, hsz, hd⟩ := hrel
    by_cases h0 : 0 < k'
    · have hgt : decide ((0 : Int) < (k' : Int)) = true := decide_eq_true (by omega)
      obtain ⟨f', hf', hd'⟩ := digs_step (lst s) h0 hkf
      have hcv : (convert 22 9 (.slice (some ⟨wr.heap.size, 0, none⟩) 1 1)).run Tryd.prog (wr.alloc (.cells #[.int .u8 (48 + (k' : Int) % 10)] 5)) = .ok (.string ⟨#[UInt8.ofNat (48 + k' % 10)]⟩) (wr.alloc (.cells #[.int .u8 (48 + (k' : Int) % 10)] 5)) :=
        run_convert_bytes_back _ 22 9 5 ⟨wr.heap.size, 0, none⟩ 1 [UInt8.ofNat (48 + k' % 10)] Tryd.underlying22 Tryd.underlying5 Tryd.underlying9
          (fun j hj => by
            obtain rfl : j = 0 := by simpa using hj
            have e : ((UInt8.ofNat (48 + k' % 10)).toNat : Int) = 48 + (k' : Int) % 10 := by
              rw [UInt8.toNat_ofNat_of_lt' (by show 48 + k' % 10 < 256; omega)]
              omega
            rw [show ((⟨wr.heap.size, 0, none⟩ : Addr).add 0) = ⟨wr.heap.size, 0, none⟩ from rfl, cell_of_row _ _ _ _ _ _ (heap_alloc_new wr _)]
            simp
            omega)
      have HR := Lib.hid (show MarkRel w k (.int .i64 ((k' : Int) / 10)) (.string (⟨#[UInt8.ofNat (48 + k' % 10)]⟩ ++ s)) (wr.alloc (.cells #[.int .u8 (48 + (k' : Int) % 10)] 5)) from
        ⟨f', k' / 10, _, hb.alloc hb.size _, by rw [Int.natCast_ediv]; rfl, rfl, hf', by
          rw [ByteArray.size_append]
          show 1 + s.size + k' / 10 ≤ k
          omega, by
          rw [← hd, hd']
          congr 1⟩)
      have hq : k' / 10 < k' := by omega
      have hss : s.size ≤ 1000 := by omega
      have hk1 : k' ≤ 1000 := by omega
      clear hd hd' hb hkf hf' hsz
      generalize UInt8.ofNat (48 + k' % 10) = d at *
      go_wp2
      go_roundw
      case rel => exact HR.out
      case measure => simp [intOf]; omega
    · obtain rfl : k' = 0 := by omega
      rw [digs_zero] at hd
      have HD := Lib.hid hd
      have hss : s.size ≤ 1000 := by omega
      clear hd hkf hsz
      go_wp2
      go_ret
      refine ⟨⟨_, rfl, ?_⟩, hb⟩
      have hz : ∀ a b : ByteArray, lst (a ++ b) = lst a ++ lst b := fun a b => by simp [lst]
      rw [hz, HD.out]
      rfl

theorem owns_set {w : World} {base : Nat} {e : TypeId} {g cap n : Nat} {cells : List Value} (h : w.ownsRow base e 1 (.slice (some ⟨g, 0, none⟩) n cap) n cells) {i : Nat} (_hi : i < n) (u : Value) :
    (w.setCell ⟨g, i, none⟩ u).ownsRow base e 1 (.slice (some ⟨g, 0, none⟩) n cap) n (cells.set i u) := by
  refine ⟨by rw [List.length_set]; exact h.1, ?_⟩
  rcases h.2 with ⟨h', _⟩ | ⟨g', cap', cur, hv, hg, hh, h1, h2, h3, h4⟩
  · cases h'
  · simp only [Value.slice.injEq, Option.some.injEq, Addr.mk.injEq, true_and, and_true] at hv
    obtain ⟨rfl, rfl⟩ := hv
    refine .inr ⟨g, cap, cur.setIfInBounds i u, rfl, hg, heap_setCell_same w g i _ _ u hh, h1, h2, by rw [Array.size_setIfInBounds]; exact h3, ?_⟩
    rw [Array.toList_setIfInBounds, ← h4, List.take_set]

def MarksOk (ms : List ByteArray) : Prop := ∀ j (h : j < ms.length), lst ms[j] = markOf (1 + j)

def MarkRowRel (w : World) (B : Nat) (v : Value) (xs : List ByteArray) (v1 v5 : Value) (wr : World) : Prop :=
  ∃ (i : Nat) (ms : List ByteArray), v5 = .int .i64 (i : Int) ∧ v1 = .int .i64 (1 + (i : Int)) ∧ i ≤ xs.length ∧ ms.length = i ∧ MarksOk ms ∧ wr.ownsRow B 9 1 v xs.length (strCells (ms ++ xs.drop i)) ∧ Below B w wr

def HeldRel (w : World) (n : Nat) (v1 v5 : Value) (wr : World) : Prop := ∃ i : Nat, Below w.heap.size w wr ∧ v1 = .int .i64 (1 + (i : Int)) ∧ v5 = .int .i64 (i : Int) ∧ i ≤ n

end Go.Proofs.YtngnmfoephegmaaDoor
