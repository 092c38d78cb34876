/-
  laws.FnExactTermParts answers true.
-/
import Derived.Test.YtmjjofjhnjkgmaaDoorText
namespace Go.Proofs.YtmjjofjhnjkgmaaDoor
open Go Go.RowKit Go.Maps Go.WideMaps

theorem strs_inj : ∀ {xs ys : List ByteArray}, xs.map lst = ys.map lst → xs = ys
  | [], [], _ => rfl
  | [], y :: ys, h => by simp at h
  | x :: xs, [], h => by simp at h
  | x :: xs, y :: ys, h => by
    simp only [List.map_cons, List.cons.injEq] at h
    rw [lst_inj h.1, strs_inj h.2]

/-- A row outlives a call that leaves old memory alone. -/
theorem row_kept {w w' : World} {base : Nat} {e : TypeId} {size : Nat} {v : Value} {n : Nat} {xs : List Value} (h : w.ownsRow base e size v n xs) (hb : Below w.heap.size w w') : w'.ownsRow base e size v n xs := by
  have hg : w.grownBy w' none := ⟨hb.os, hb.tape, hb.output, hb.size, fun k hk _ => hb.block k hk⟩
  exact h.kept hg (by cases hv : v.ownBlock <;> simp)

def EqRel (w : World) (n : Nat) (v : Value) (wr : World) : Prop := ∃ k : Nat, Below w.heap.size w wr ∧ v = .int .i64 (k : Int) ∧ k ≤ n

set_option maxRecDepth 100000 in
set_option maxHeartbeats 1000000 in
theorem eqStringS_any (xs : List ByteArray) (b1 b2 : Nat) (u v : Value) (w : World) (hu : w.ownsRow b1 9 1 u xs.length (strCells xs)) (hv : w.ownsRow b2 9 1 v xs.length (strCells xs)) (hn : xs.length ≤ 2000000) :
    Calls Tryd.prog 30 #[u, v] w fun e w' => e = .returned (.bool true) ∧ Below w.heap.size w w' := by
  obtain ⟨a1, c1, rfl⟩ := owns_shape hu
  obtain ⟨a2, c2, rfl⟩ := owns_shape hv
  have HU := Lib.hid hu
  have HV := Lib.hid hv
  clear hu hv
  have hne : ((xs.length : Int) != (xs.length : Int)) = false := by simp
  go_enter Tryd.func30, Tryd.ntmps30
  go_wp2
  go_loopw [5] (fun v wr => EqRel w xs.length v wr) (fun v _ => (xs.length - (intOf v).toNat))
  case atStart => exact ⟨0, Below.refl _ _, rfl, Nat.zero_le _⟩
  case round =>
    obtain ⟨k, hb, rfl, hk⟩ := hrel
    by_cases hlt : k < xs.length
    · have hu := row_kept HU.out hb
      have hv := row_kept HV.out hb
      obtain ⟨g1, cap1, hg1, _, _⟩ := hu.form (by omega)
      simp only [Value.slice.injEq, true_and] at hg1
      obtain ⟨rfl, rfl⟩ := hg1
      obtain ⟨g2, cap2, hg2, _, _⟩ := hv.form (by omega)
      simp only [Value.slice.injEq, true_and] at hg2
      obtain ⟨rfl, rfl⟩ := hg2
      have hx : wr.cell? ⟨g1, k, none⟩ = some (.string xs[k]) := by
        rw [hu.cellAt k (by omega)]
        simp [strCells, hlt]
      have hy : wr.cell? ⟨g2, k, none⟩ = some (.string xs[k]) := by
        rw [hv.cellAt k (by omega)]
        simp [strCells, hlt]
      generalize xs[k] = x at *
      have hxx : (x.toList != x.toList) = false := by simp
      have HR := Lib.hid (fun q => (⟨k + 1, below_drewN hb q, by go_num, by omega⟩ : EqRel w xs.length (.int .i64 ((k : Int) + 1)) (wr.drewN q)))
      clear hu hv hb
      go_wp2
      go_quiet (fail)
      go_wp2
      go_roundw
      case rel => exact HR.out _
      case measure => simp [intOf]; omega
    · have hlt2 : decide ((k : Int) < (xs.length : Int)) = false := decide_eq_false (by omega)
      go_wp2
      go_ret
      exact ⟨rfl, hb⟩

/-- The digits of k, ahead of those that are there. -/
def digs : Nat → Nat → List UInt8 → List UInt8
  | 0, _, acc => acc
  | f + 1, k, acc => if k = 0 then acc else digs f (k / 10) (UInt8.ofNat (48 + k % 10) :: acc)
def markOf (k : Nat) : List UInt8 := 109 :: digs 2000 k []
theorem digs_zero (f : Nat) (acc : List UInt8) : digs f 0 acc = acc := by
  cases f with
  | zero => rw [digs]
  | succ f => rw [digs, if_pos rfl]
theorem digs_step {f k : Nat} (acc : List UInt8) (h : 0 < k) (hf : k ≤ f) : ∃ f', k / 10 ≤ f' ∧ digs f k acc = digs f' (k / 10) (UInt8.ofNat (48 + k % 10) :: acc) := by
  cases f with
  | zero => omega
  | succ f => exact ⟨f, by omega, by rw [digs, if_neg (by omega)]⟩

def MarkRel (w : World) (k : Nat) (v0 v3 : Value) (wr : World) : Prop :=
  ∃ (f k' : Nat) (s : ByteArray), Below w.heap.size w wr ∧ v0 = .int .i64 (k' : Int) ∧ v3 = .string s ∧ k' ≤ f ∧ s.size + k' ≤ k ∧ digs f k' (lst s) = digs 2000 k []

set_option maxRecDepth 100000 in
set_option maxHeartbeats 1000000 in
theorem markText_any (k : Nat) (hk : 1 ≤ k) (hk2 : k ≤ 1000) (w : World) :
    Calls Tryd.prog 60 #[.int .i64 (k : Int)] w fun e w' => (∃ s : ByteArray, e = .returned (.string s) ∧ lst s = markOf k) ∧ Below w.heap.size w w' := by
  have hle : decide ((k : Int) ≤ 0) = false := decide_eq_false (by omega)
  go_enter Tryd.func60, Tryd.ntmps60
  go_wp2
  go_loopw [0, 3] (fun v0 v3 wr => MarkRel w k v0 v3 wr) (fun v0 _ _ => (intOf v0).toNat)
  case atStart => exact ⟨2000, k, ⟨#[]⟩, Below.refl _ _, rfl, rfl, by omega, Nat.le_of_eq (Nat.zero_add k), rfl⟩
  case round =>
    obtain ⟨f, k', s, hb, rfl, rfl, hkf, hsz, hd⟩ := hrel
    by_cases h0 : 0 < k'
    · have hgt : decide ((0 : Int) < (k' : Int)) = true := decide_eq_true (by omega)
      obtain ⟨f', hf', hd'⟩ := digs_step (lst s) h0 hkf
      have hcv : (convert 22 9 (.slice (some ⟨wr.heap.size, 0, none⟩) 1 1)).run Tryd.prog (wr.alloc (.cells #[.int .u8 (48 + (k' : Int) % 10)] 5)) = .ok (.string ⟨#[UInt8.ofNat (48 + k' % 10)]⟩) (wr.alloc (.cells #[.int .u8 (48 + (k' : Int) % 10)] 5)) :=
        run_convert_bytes_back _ 22 9 5 ⟨wr.heap.size, 0, none⟩ 1 [UInt8.ofNat (48 + k' % 10)] Tryd.underlying22 Tryd.underlying5 Tryd.underlying9
          (fun j hj => by
            obtain rfl : j = 0 := by simpa using hj
            have e : ((UInt8.ofNat (48 + k' % 10)).toNat : Int) = 48 + (k' : Int) % 10 := by
              rw [UInt8.toNat_ofNat_of_lt' (by show 48 + k' % 10 < 256; omega)]
              omega
            rw [show ((⟨wr.heap.size, 0, none⟩ : Addr).add 0) = ⟨wr.heap.size, 0, none⟩ from rfl, cell_of_row _ _ _ _ _ _ (heap_alloc_new wr _)]
            simp
            omega)
      have HR := Lib.hid (show MarkRel w k (.int .i64 ((k' : Int) / 10)) (.string (⟨#[UInt8.ofNat (48 + k' % 10)]⟩ ++ s)) (wr.alloc (.cells #[.int .u8 (48 + (k' : Int) % 10)] 5)) from
        ⟨f', k' / 10, _, hb.alloc hb.size _, by rw [Int.natCast_ediv]; rfl, rfl, hf', by
          rw [ByteArray.size_append]
          show 1 + s.size + k' / 10 ≤ k
          omega, by
          rw [← hd, hd']
          congr 1⟩)
      have hq : k' / 10 < k' := by omega
      have hss : s.size ≤ 1000 := by omega
      have hk1 : k' ≤ 1000 := by omega
      clear hd hd' hb hkf hf' hsz
      generalize UInt8.ofNat (48 + k' % 10) = d at *
      go_wp2
      go_roundw
      case rel => exact HR.out
      case measure => simp [intOf]; omega
    · obtain rfl : k' = 0 := by omega
      rw [digs_zero] at hd
      have HD := Lib.hid hd
      have hss : s.size ≤ 1000 := by omega
      clear hd hkf hsz
      go_wp2
      go_ret
      refine ⟨⟨_, rfl, ?_⟩, hb⟩
      have hz : ∀ a b : ByteArray, lst (a ++ b) = lst a ++ lst b := fun a b => by simp [lst]
      rw [hz, HD.out]
      rfl

theorem owns_set {w : World} {base : Nat} {e : TypeId} {g cap n : Nat} {cells : List Value} (h : w.ownsRow base e 1 (.slice (some ⟨g, 0, none⟩) n cap) n cells) {i : Nat} (_hi : i < n) (u : Value) :
    (w.setCell ⟨g, i, none⟩ u).ownsRow base e 1 (.slice (some ⟨g, 0, none⟩) n cap) n (cells.set i u) := by
  refine ⟨by rw [List.length_set]; exact h.1, ?_⟩
  rcases h.2 with ⟨h', _⟩ | ⟨g', cap', cur, hv, hg, hh, h1, h2, h3, h4⟩
  · cases h'
  · simp only [Value.slice.injEq, Option.some.injEq, Addr.mk.injEq, true_and, and_true] at hv
    obtain ⟨rfl, rfl⟩ := hv
    refine .inr ⟨g, cap, cur.setIfInBounds i u, rfl, hg, heap_setCell_same w g i _ _ u hh, h1, h2, by rw [Array.size_setIfInBounds]; exact h3, ?_⟩
    rw [Array.toList_setIfInBounds, ← h4, List.take_set]

def MarksOk (ms : List ByteArray) : Prop := ∀ j (h : j < ms.length), lst ms[j] = markOf (1 + j)

def MarkRowRel (w : World) (B : Nat) (v : Value) (xs : List ByteArray) (v1 v5 : Value) (wr : World) : Prop :=
  ∃ (i : Nat) (ms : List ByteArray), v5 = .int .i64 (i : Int) ∧ v1 = .int .i64 (1 + (i : Int)) ∧ i ≤ xs.length ∧ ms.length = i ∧ MarksOk ms ∧ wr.ownsRow B 9 1 v xs.length (strCells (ms ++ xs.drop i)) ∧ Below B w wr

set_option maxRecDepth 100000 in
set_option maxHeartbeats 1000000 in
theorem markStringS_any (xs : List ByteArray) (B : Nat) (v : Value) (w : World) (hB : B ≤ w.heap.size) (hown : w.ownsRow B 9 1 v xs.length (strCells xs)) (hn : xs.length ≤ 200) :
    Calls Tryd.prog 31 #[v, .int .i64 1] w fun e w' => e = .returned (.int .i64 (1 + (xs.length : Int))) ∧ (∃ ms : List ByteArray, ms.length = xs.length ∧ MarksOk ms ∧ w'.ownsRow B 9 1 v ms.length (strCells ms)) ∧ Below B w w' := by
  obtain ⟨av, cv, rfl⟩ := owns_shape hown
  have HO := Lib.hid hown
  clear hown
  go_enter Tryd.func31, Tryd.ntmps31
  go_wp2
  go_loopw [1, 5] (fun v1 v5 wr => MarkRowRel w B (.slice av xs.length cv) xs v1 v5 wr) (fun _ v5 _ => (xs.length - (intOf v5).toNat))
  case atStart => exact ⟨0, [], rfl, rfl, Nat.zero_le _, rfl, fun j h => by simp at h, HO.out, Below.refl _ _⟩
  case round =>
    obtain ⟨i, ms, rfl, rfl, hi, hml, hmk, hown, hb⟩ := hrel
    have HML := Lib.hid hml
    have HMK := Lib.hid hmk
    have hBs : B ≤ wr.heap.size := Nat.le_trans hB hb.size
    clear hml hmk
    by_cases hlt : i < xs.length
    · obtain ⟨g, cap, hgv, hbg, hgl⟩ := hown.form (by omega)
      simp only [Value.slice.injEq, true_and] at hgv
      obtain ⟨rfl, rfl⟩ := hgv
      have Z : ∀ (w3 : World) (m : ByteArray), lst m = markOf (1 + i) → Below wr.heap.size wr w3 → (∃ u, w3.cell? ⟨g, i, none⟩ = some u) ∧ w3.frozen? ⟨g, i, none⟩ = false ∧ MarkRowRel w B (.slice (some ⟨g, 0, none⟩) xs.length cv) xs (.int .i64 (1 + (i : Int) + 1)) (.int .i64 ((i : Int) + 1)) (w3.setCell ⟨g, i, none⟩ (.string m)) := fun w3 m hm hb3 => by
        have ho3 := row_kept hown hb3
        have hos := owns_set ho3 hlt (.string m)
        have hcl : (strCells (ms ++ xs.drop i)).set i (.string m) = strCells ((ms ++ [m]) ++ xs.drop (i + 1)) := by
          have e1 : xs.drop i = xs[i] :: xs.drop (i + 1) := List.drop_eq_getElem_cons hlt
          have e2 : (strCells ms).length = i := by simp [strCells, HML.out]
          rw [e1]
          simp only [strCells, List.map_append, List.map_cons] at e2 ⊢
          rw [List.set_append_right _ _ (by omega), e2]
          simp
        rw [hcl] at hos
        refine ⟨⟨_, ho3.cellAt i (by omega) |>.trans (List.getElem?_eq_getElem (by simp [strCells, HML.out]; omega))⟩, ?_, i + 1, ms ++ [m], by go_num, by congr 1, by omega, by rw [List.length_append, HML.out]; rfl, ?_, hos, ?_⟩
        · rcases ho3.2 with ⟨h', _⟩ | ⟨g', cap', cur, hv', _, hh', _⟩
          · cases h'
          · simp only [Value.slice.injEq, Option.some.injEq, Addr.mk.injEq, true_and, and_true] at hv'
            obtain ⟨rfl, rfl⟩ := hv'
            simp [World.frozen?, hh']
        · intro j hj
          by_cases hjm : j < ms.length
          · rw [List.getElem_append_left hjm]
            exact HMK.out j hjm
          · have hji : j = i := by rw [List.length_append] at hj; simp at hj; have := HML.out; omega
            subst hji
            rw [List.getElem_append_right (by omega)]
            simp [hm]
        · exact (hb.trans (hb3.mono hBs)).setCell (p := ⟨g, i, none⟩) hbg _
      have HZ := Lib.hid Z
      clear Z hown hb
      have HMT := Lib.hid (fun W => markText_any (1 + i) (by omega) (by omega) W)
      have ecast : (((1 + i : Nat)) : Int) = 1 + (i : Int) := by omega
      rw [ecast] at HMT
      clear ecast
      go_wp2_with fail
      refine (HMT.out _).mono ?_
      rintro e w3 ⟨⟨m, rfl, hm⟩, hb3⟩
      obtain ⟨⟨u, hu⟩, hfz, hr⟩ := HZ.out w3 m hm hb3
      have HR := Lib.hid hr
      clear HZ hb3 hr hm HMT
      go_wp2
      go_roundw
      case rel => exact HR.out
      case measure => simp [intOf]; omega
    · obtain rfl : i = xs.length := by omega
      rw [List.drop_length, List.append_nil] at hown
      have HOW := Lib.hid hown
      clear hown
      go_wp2
      go_ret
      exact ⟨rfl, ⟨ms, HML.out, HMK.out, by rw [HML.out]; exact HOW.out⟩, hb⟩

def HeldRel (w : World) (n : Nat) (v1 v5 : Value) (wr : World) : Prop := ∃ i : Nat, Below w.heap.size w wr ∧ v1 = .int .i64 (1 + (i : Int)) ∧ v5 = .int .i64 (i : Int) ∧ i ≤ n

set_option maxRecDepth 100000 in
set_option maxHeartbeats 1000000 in
theorem heldStringS_any (ms : List ByteArray) (B : Nat) (v : Value) (w : World) (hown : w.ownsRow B 9 1 v ms.length (strCells ms)) (hm : MarksOk ms) (hn : ms.length ≤ 200) :
    Calls Tryd.prog 32 #[v, .int .i64 1] w fun e w' => e = .returned (.int .i64 (1 + (ms.length : Int))) ∧ Below w.heap.size w w' := by
  obtain ⟨av, cv, rfl⟩ := owns_shape hown
  have HO := Lib.hid hown
  have HM := Lib.hid hm
  clear hown hm
  go_enter Tryd.func32, Tryd.ntmps32
  go_wp2
  go_loopw [1, 5] (fun v1 v5 wr => HeldRel w ms.length v1 v5 wr) (fun _ v5 _ => (ms.length - (intOf v5).toNat))
  case atStart => exact ⟨0, Below.refl _ _, rfl, rfl, Nat.zero_le _⟩
  case round =>
    obtain ⟨i, hb, rfl, rfl, hi⟩ := hrel
    by_cases hlt : i < ms.length
    · have hown := row_kept HO.out hb
      obtain ⟨g, cap, hgv, hbg, hgl⟩ := hown.form (by omega)
      simp only [Value.slice.injEq, true_and] at hgv
      obtain ⟨rfl, rfl⟩ := hgv
      have hx : wr.cell? ⟨g, i, none⟩ = some (.string ms[i]) := by
        rw [hown.cellAt i (by omega)]
        simp [strCells, hlt]
      have HX := Lib.hid (HM.out i hlt)
      have hB0 : Below wr.heap.size wr wr := Below.refl _ _
      have HR := Lib.hid (fun (w3 : World) (h : Below wr.heap.size wr w3) => (⟨i + 1, hb.trans (h.mono hb.size), by congr 1, by go_num, by omega⟩ : HeldRel w ms.length (.int .i64 (1 + (i : Int) + 1)) (.int .i64 ((i : Int) + 1)) w3))
      have HMT := Lib.hid (fun W => markText_any (1 + i) (by omega) (by omega) W)
      have ecast : (((1 + i : Nat)) : Int) = 1 + (i : Int) := by omega
      rw [ecast] at HMT
      clear hown ecast
      generalize ms[i] = x at *
      go_wp2
      go_region_held3 (fun w' => w'.cell? ⟨g, i, none⟩ = some (.string x) ∧ Below wr.heap.size wr w') (first | exact ⟨by assumption, by assumption⟩ | (refine ⟨?_, ?_⟩ <;> first | assumption | (simp [*]; done) | (apply Below.drew; assumption)))
        (first
          | (go_at_call 60
             refine (HMT.out _).mono ?_
             rintro e w3 ⟨⟨m, rfl, hm⟩, hb3⟩
             have hs1 : Below wr.heap.size wr w3 := hB0.drew.trans hb3
             have hs2 : w3.cell? ⟨g, i, none⟩ = some (.string x) := (hb3.cell hgl).trans hx
             obtain rfl : x = m := lst_inj (by rw [HX.out, hm])
             clear hm hb3))
      have hxx : (x.toList != x.toList) = false := by simp
      go_wp2
      go_roundw
      case rel => exact HR.out _ (by assumption)
      case measure => simp [intOf]; omega
    · obtain rfl : i = ms.length := by omega
      go_wp2
      go_ret
      exact ⟨rfl, hb⟩

end Go.Proofs.YtmjjofjhnjkgmaaDoor
