/-
  laws.eqTok, eqTokS, markTokS, heldTokS: rows of tokens held against one another, marked, looked at again.
-/
import Derived.Test.YtngnmfoephegmaaDoorImplTok
import Derived.Deep.RegionHeld3
namespace Go.Proofs.YtngnmfoephegmaaDoor
open Go Go.RowKit Go.Maps Go.WideMaps

def markW (k : Nat) : List UInt8 := 109 :: digs 20000 k []

def MarkRelW (w : World) (k : Nat) (v0 v3 : Value) (wr : World) : Prop :=
  ∃ (f k' : Nat) (s : ByteArray), Below w.heap.size w wr ∧ v0 = .int .i64 (k' : Int) ∧ v3 = .string s ∧ k' ≤ f ∧ s.size + k' ≤ k ∧ digs f k' (lst s) = digs 20000 k []

set_option maxRecDepth 100000 in
set_option maxHeartbeats 1000000 in
theorem markText_wide (k : Nat) (hk : 1 ≤ k) (hk2 : k ≤ 10000) (w : World) :
    Calls Tryd.prog 36 #[.int .i64 (k : Int)] w fun e w' => (∃ s : ByteArray, e = .returned (.string s) ∧ lst s = markW k) ∧ Below w.heap.size w w' := by
  have hle : decide ((k : Int) ≤ 0) = false := decide_eq_false (by omega)
  go_enter Tryd.func36, Tryd.ntmps36
  go_wp2
  go_loopw [0, 3] (fun v0 v3 wr => MarkRelW w k v0 v3 wr) (fun v0 _ _ => (intOf v0).toNat)
  case atStart => exact ⟨20000, k, ⟨#[]⟩, Below.refl _ _, rfl, rfl, by omega, Nat.le_of_eq (Nat.zero_add k), rfl⟩
  case round =>
    obtain ⟨f, k', s, hb, rfl, rfl, hkf, hsz, hd⟩ := hrel
    by_cases h0 : 0 < k'
    · have hgt : decide ((0 : Int) < (k' : Int)) = true := decide_eq_true (by omega)
      obtain ⟨f', hf', hd'⟩ := digs_step (lst s) h0 hkf
      have hcv : (convert 22 9 (.slice (some ⟨wr.heap.size, 0, none⟩) 1 1)).run Tryd.prog (wr.alloc (.cells #[.int .u8 (48 + (k' : Int) % 10)] 5)) = .ok (.string ⟨#[UInt8.ofNat (48 + k' % 10)]⟩) (wr.alloc (.cells #[.int .u8 (48 + (k' : Int) % 10)] 5)) :=
        run_convert_bytes_back _ 22 9 5 ⟨wr.heap.size, 0, none⟩ 1 [UInt8.ofNat (48 + k' % 10)] Tryd.underlying22 Tryd.underlying5 Tryd.underlying9
          (fun j hj => by
            obtain rfl : j = 0 := by simpa using hj
            have e : ((UInt8.ofNat (48 + k' % 10)).toNat : Int) = 48 + (k' : Int) % 10 := by
              rw [UInt8.toNat_ofNat_of_lt' (by show 48 + k' % 10 < 256; omega)]
              omega
            rw [show ((⟨wr.heap.size, 0, none⟩ : Addr).add 0) = ⟨wr.heap.size, 0, none⟩ from rfl, cell_of_row _ _ _ _ _ _ (heap_alloc_new wr _)]
            simp
            omega)
      have HR := Lib.hid (show MarkRelW w k (.int .i64 ((k' : Int) / 10)) (.string (⟨#[UInt8.ofNat (48 + k' % 10)]⟩ ++ s)) (wr.alloc (.cells #[.int .u8 (48 + (k' : Int) % 10)] 5)) from
        ⟨f', k' / 10, _, hb.alloc hb.size _, by rw [Int.natCast_ediv]; rfl, rfl, hf', by
          rw [ByteArray.size_append]
          show 1 + s.size + k' / 10 ≤ k
          omega, by
          rw [← hd, hd']
          congr 1⟩)
      have hq : k' / 10 < k' := by omega
      have hss : s.size ≤ 10000 := by omega
      have hk1 : k' ≤ 10000 := by omega
      clear hd hd' hb hkf hf' hsz
      generalize UInt8.ofNat (48 + k' % 10) = d at *
      go_wp2
      go_roundw
      case rel => exact HR.out
      case measure => simp [intOf]; omega
    · obtain rfl : k' = 0 := by omega
      rw [digs_zero] at hd
      have HD := Lib.hid hd
      have hss : s.size ≤ 10000 := by omega
      clear hd hkf hsz
      go_wp2
      go_ret
      refine ⟨⟨_, rfl, ?_⟩, hb⟩
      have hz : ∀ a b : ByteArray, lst (a ++ b) = lst a ++ lst b := fun a b => by simp [lst]
      rw [hz, HD.out]
      rfl

theorem owns_set3 {w : World} {base : Nat} {e : TypeId} {g cap n : Nat} {cells : List Value} (h : w.ownsRow base e 3 (.slice (some ⟨g, 0, none⟩) n cap) n cells) (i : Nat) (u : Value) :
    (w.setCell ⟨g, i, none⟩ u).ownsRow base e 3 (.slice (some ⟨g, 0, none⟩) n cap) n (cells.set i u) := by
  refine ⟨by rw [List.length_set]; exact h.1, ?_⟩
  rcases h.2 with ⟨h', _⟩ | ⟨g', cap', cur, hv, hg, hh, h1, h2, h3, h4⟩
  · cases h'
  · simp only [Value.slice.injEq, Option.some.injEq, Addr.mk.injEq, true_and, and_true] at hv
    obtain ⟨rfl, rfl⟩ := hv
    refine .inr ⟨g, cap, cur.setIfInBounds i u, rfl, hg, heap_setCell_same w g i _ _ u hh, h1, h2, by rw [Array.size_setIfInBounds]; exact h3, ?_⟩
    rw [Array.toList_setIfInBounds, ← h4, List.take_set]
theorem row_frozen {w : World} {base : Nat} {e : TypeId} {size g cap n : Nat} {cells : List Value} (h : w.ownsRow base e size (.slice (some ⟨g, 0, none⟩) n cap) n cells) (i : Nat) : w.frozen? ⟨g, i, none⟩ = false := by
  rcases h.2 with ⟨h', _⟩ | ⟨g', cap', cur, hv', _, hh', _⟩
  · cases h'
  · simp only [Value.slice.injEq, Option.some.injEq, Addr.mk.injEq, true_and, and_true] at hv'
    obtain ⟨rfl, rfl⟩ := hv'
    simp [World.frozen?, hh']

set_option maxHeartbeats 400000 in
theorem eqTok_any (k a : Int) (x : ByteArray) (w : World) : Calls Tryd.prog 35 #[.agg #[.int .i64 k, .string x, .int .i64 a], .agg #[.int .i64 k, .string x, .int .i64 a]] w fun e w' => e = .returned (.bool true) ∧ Below w.heap.size w w' := by
  have h1 : (x.toList != x.toList) = false := by simp
  have h2 : (k != k) = false := by simp
  have h3 : (a != a) = false := by simp
  go_enter Tryd.func35, Tryd.ntmps35
  go_wp2
  go_ret
  exact ⟨rfl, ((Below.refl _ _).alloc (Nat.le_refl _) _).alloc (by simp) _⟩

/-- The cells of one token among those of all. -/
theorem tokCells_at (s : ByteArray) : ∀ (ts : List Tk) (i : Nat) (h : i < ts.length), (tokCells s ts)[i * 3]? = some (.int .i64 ts[i].kind) ∧ (tokCells s ts)[i * 3 + 1]? = some (.string (s.extract ts[i].from_ ts[i].end_)) ∧ (tokCells s ts)[i * 3 + 2]? = some (.int .i64 (ts[i].from_ : Int))
  | [], i, h => by simp at h
  | t :: ts, 0, h => ⟨rfl, rfl, rfl⟩
  | t :: ts, i + 1, h => by
    have ih := tokCells_at s ts i (by simpa using h)
    have e : tokCells s (t :: ts) = tokCell s t ++ tokCells s ts := rfl
    have el : (tokCell s t).length = 3 := rfl
    rw [e]
    refine ⟨?_, ?_, ?_⟩
    · rw [List.getElem?_append_right (by omega), el, show (i + 1) * 3 - 3 = i * 3 from by omega]; exact ih.1
    · rw [List.getElem?_append_right (by omega), el, show (i + 1) * 3 + 1 - 3 = i * 3 + 1 from by omega]; exact ih.2.1
    · rw [List.getElem?_append_right (by omega), el, show (i + 1) * 3 + 2 - 3 = i * 3 + 2 from by omega]; exact ih.2.2

def EqRelT (w : World) (n : Nat) (v : Value) (wr : World) : Prop := ∃ k : Nat, v = .int .i64 (k : Int) ∧ k ≤ n ∧ Below w.heap.size w wr

set_option maxRecDepth 100000 in
set_option maxHeartbeats 1000000 in
theorem eqTokS_any (s : ByteArray) (ts : List Tk) (hn : ts.length ≤ 3000) (b1 b2 : Nat) (a1 a2 : Option Addr) (c1 c2 : Nat) (w : World)
    (hu : 0 < ts.length → w.ownsRow b1 29 3 (.slice a1 ts.length c1) ts.length (tokCells s ts)) (hv : 0 < ts.length → w.ownsRow b2 29 3 (.slice a2 ts.length c2) ts.length (tokCells s ts)) :
    Calls Tryd.prog 9 #[.slice a1 ts.length c1, .slice a2 ts.length c2] w fun e w' => e = .returned (.bool true) ∧ Below w.heap.size w w' := by
  have HU := Lib.hid hu
  have HV := Lib.hid hv
  have hnn : ((ts.length : Int) != (ts.length : Int)) = false := by simp
  clear hu hv
  go_enter Tryd.func9, Tryd.ntmps9
  go_wp2
  go_loopw [5] (fun v wr => EqRelT w ts.length v wr) (fun v _ => (ts.length - (intOf v).toNat))
  case atStart => exact ⟨0, rfl, Nat.zero_le _, Below.refl _ _⟩
  case round =>
    obtain ⟨i, rfl, hi, hb⟩ := hrel
    by_cases hlt : i < ts.length
    · have ho1 := row_kept (HU.out (by omega)) hb
      have ho2 := row_kept (HV.out (by omega)) hb
      obtain ⟨g1, cap1, hgv1, hbg1, hgl1⟩ := ho1.form (by omega)
      obtain ⟨g2, cap2, hgv2, hbg2, hgl2⟩ := ho2.form (by omega)
      simp only [Value.slice.injEq, true_and] at hgv1 hgv2
      obtain ⟨rfl, rfl⟩ := hgv1
      obtain ⟨rfl, rfl⟩ := hgv2
      obtain ⟨t0, t1, t2⟩ := tokCells_at s ts i hlt
      have x0 := (ho1.cellAt (i * 3) (by omega)).trans t0
      have x1 := (ho1.cellAt (i * 3 + 1) (by omega)).trans t1
      have x2 := (ho1.cellAt (i * 3 + 2) (by omega)).trans t2
      have y0 := (ho2.cellAt (i * 3) (by omega)).trans t0
      have y1 := (ho2.cellAt (i * 3 + 1) (by omega)).trans t1
      have y2 := (ho2.cellAt (i * 3 + 2) (by omega)).trans t2
      have HB := Lib.hid hb
      have HEQ := Lib.hid (fun W => eqTok_any ts[i].kind (ts[i].from_ : Int) (s.extract ts[i].from_ ts[i].end_) W)
      generalize ts[i].kind = tk at *
      generalize (ts[i].from_ : Int) = tf at *
      generalize s.extract ts[i].from_ ts[i].end_ = tx at *
      have hB0 : Below wr.heap.size wr wr := Below.refl _ _
      clear ho1 ho2 t0 t1 t2 HU HV hb hbg1 hbg2
      go_wp2
      go_region_held3 (fun w' => w'.cell? ⟨g1, i * 3, none⟩ = some (.int .i64 tk) ∧ w'.cell? ⟨g1, i * 3 + 1, none⟩ = some (.string tx) ∧ w'.cell? ⟨g1, i * 3 + 2, none⟩ = some (.int .i64 tf) ∧ w'.cell? ⟨g2, i * 3, none⟩ = some (.int .i64 tk) ∧ w'.cell? ⟨g2, i * 3 + 1, none⟩ = some (.string tx) ∧ w'.cell? ⟨g2, i * 3 + 2, none⟩ = some (.int .i64 tf) ∧ Below wr.heap.size wr w')
        (refine ⟨?_, ?_, ?_, ?_, ?_, ?_, ?_⟩ <;> (first | assumption | (simp [*]; done) | (apply Below.drew; assumption)))
        (first
          | (go_at_call 35
             refine (HEQ.out _).mono ?_
             rintro e w3 ⟨rfl, hb3⟩
             have hs1 : Below wr.heap.size wr w3 := hB0.drew.trans hb3
             have z0 : w3.cell? ⟨g1, i * 3, none⟩ = some (.int .i64 tk) := (hb3.cell hgl1).trans x0
             have z1 : w3.cell? ⟨g1, i * 3 + 1, none⟩ = some (.string tx) := (hb3.cell hgl1).trans x1
             have z2 : w3.cell? ⟨g1, i * 3 + 2, none⟩ = some (.int .i64 tf) := (hb3.cell hgl1).trans x2
             have z3 : w3.cell? ⟨g2, i * 3, none⟩ = some (.int .i64 tk) := (hb3.cell hgl2).trans y0
             have z4 : w3.cell? ⟨g2, i * 3 + 1, none⟩ = some (.string tx) := (hb3.cell hgl2).trans y1
             have z5 : w3.cell? ⟨g2, i * 3 + 2, none⟩ = some (.int .i64 tf) := (hb3.cell hgl2).trans y2
             clear hb3))
      go_wp2
      go_roundw
      case rel => exact ⟨i + 1, by go_num, by omega, HB.out.trans (Below.mono (by assumption) HB.out.size)⟩
      case measure => simp [intOf]; omega
    · obtain rfl : i = ts.length := by omega
      have hlt2 : decide ((ts.length : Int) < (ts.length : Int)) = false := by simp
      go_wp2
      go_ret
      exact ⟨rfl, hb⟩

end Go.Proofs.YtngnmfoephegmaaDoor
