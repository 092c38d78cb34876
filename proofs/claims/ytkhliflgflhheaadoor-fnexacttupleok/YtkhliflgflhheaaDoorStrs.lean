/-
  THE LAWS' OWN HELPERS over slices of strings that came in: szStringS, toStringS.
-/
import Derived.Test.YtkhliflgflhheaaDoorMake
namespace Go.Proofs.YtkhliflgflhheaaDoor
open Go Go.RowKit Go.Maps Go.WideMaps

/-- Strings to read: a slice that came in. -/
def StrsAt (w : World) (a : Option Addr) (xs : List ByteArray) : Prop :=
  ∀ i (h : i < xs.length), ∃ (b off : Nat), a = some ⟨b, off, none⟩ ∧ b < w.heap.size ∧ w.cell? ⟨b, off + i, none⟩ = some (.string xs[i])
theorem StrsAt.kept {w w' : World} {a : Option Addr} {xs : List ByteArray} (h : StrsAt w a xs) (hb : Below w.heap.size w w') : StrsAt w' a xs := by
  intro i hi
  obtain ⟨b, off, rfl, h1, h2⟩ := h i hi
  exact ⟨b, off, rfl, Nat.lt_of_lt_of_le h1 hb.size, (hb.cell h1).trans h2⟩

def tot : List ByteArray → Nat
  | [] => 0
  | x :: r => x.size + tot r
theorem tot_append : ∀ (l r : List ByteArray), tot (l ++ r) = tot l + tot r
  | [], r => by rw [List.nil_append, tot]; omega
  | a :: l, r => by rw [List.cons_append, tot, tot, tot_append l r]; omega
theorem tot_take {l : List ByteArray} {k : Nat} (h : k < l.length) : tot (l.take (k + 1)) = tot (l.take k) + l[k].size := by
  rw [List.take_succ_eq_append_getElem h, tot_append, tot, tot]; omega
theorem tot_mem : ∀ {l : List ByteArray} {x : ByteArray}, x ∈ l → x.size ≤ tot l
  | a :: l, x, h => by
    rw [tot]
    rcases List.mem_cons.1 h with rfl | h
    · omega
    · have := tot_mem h; omega
theorem join_tot : ∀ (xs : List ByteArray), (Lib.join (xs.map lst) [44]).length ≤ tot xs + xs.length := by
  have key : ∀ r : List ByteArray, (Lib.joinTail [44] (r.map lst)).length ≤ tot r + r.length := fun r => by
    induction r with
    | nil => simp [Lib.joinTail]
    | cons a r ih =>
      have e : Lib.joinTail [44] ((a :: r).map lst) = 44 :: (lst a ++ Lib.joinTail [44] (r.map lst)) := by simp [Lib.joinTail]
      have := lst_len a
      rw [e, List.length_cons, List.length_append, tot, List.length_cons]
      omega
  intro xs
  cases xs with
  | nil => simp [Lib.join, List.intercalate]
  | cons a r =>
    have := key r
    have h2 := lst_len a
    rw [List.map_cons, Lib.join_cons, List.length_append, tot, List.length_cons]
    omega

def SzRel (w : World) (xs : List ByteArray) (v1 v5 : Value) (wr : World) : Prop :=
  ∃ k : Nat, Below w.heap.size w wr ∧ v5 = .int .i64 (k : Int) ∧ k ≤ xs.length ∧ v1 = .int .i64 (1048576 - (xs.length : Int) - (tot (xs.take k) : Int)) ∧ tot (xs.take k) + xs.length ≤ 1048576

set_option maxRecDepth 100000 in
set_option maxHeartbeats 1000000 in
theorem szStringS_any (a : Option Addr) (cap : Nat) (xs : List ByteArray) (w : World) (hrow : StrsAt w a xs) (hn : xs.length ≤ 9223372036854775807) (hs : ∀ x ∈ xs, x.size ≤ 9223372036854775807) :
    Calls Tryd.prog 43 #[.slice a xs.length cap, .int .i64 1048576] w fun e w' => (∃ r : Int, e = .returned (.int .i64 r) ∧ (r < 0 ∨ (0 ≤ r ∧ tot xs + xs.length ≤ 1048576))) ∧ Below w.heap.size w w' := by
  have HR := Lib.hid hrow
  have HS := Lib.hid hs
  clear hrow hs
  by_cases hb0 : xs.length ≤ 1048576
  · have hd : decide (1048576 - (xs.length : Int) < 0) = false := decide_eq_false (by omega)
    go_enter Tryd.func43, Tryd.ntmps43
    go_wp2
    go_loopw [1, 5] (fun v1 v5 wr => SzRel w xs v1 v5 wr) (fun _ v5 _ => (xs.length - (intOf v5).toNat))
    case atStart => exact ⟨0, Below.refl _ _, rfl, Nat.zero_le _, by rw [List.take_zero, tot]; congr 1; omega, by rw [List.take_zero, tot]; omega⟩
    case round =>
      obtain ⟨k, hb, rfl, hk, rfl, htk⟩ := hrel
      by_cases hlt : k < xs.length
      · obtain ⟨b, off, rfl, hbl, hx⟩ := HR.out.kept hb k hlt
        have hxs := HS.out xs[k] (List.getElem_mem hlt)
        have ht := tot_take hlt
        have Z : tot (xs.take k) + xs[k].size + xs.length ≤ 1048576 → SzRel w xs (.int .i64 (1048576 - (xs.length : Int) - (tot (xs.take k) : Int) - (xs[k].size : Int))) (.int .i64 ((k : Int) + 1)) wr := fun hh =>
          ⟨k + 1, hb, by go_num, by omega, by rw [ht]; congr 1; omega, by rw [ht]; omega⟩
        have HZ := Lib.hid Z
        clear Z ht
        generalize xs[k] = x at *
        generalize tot (xs.take k) = y at *
        by_cases hneg : y + x.size + xs.length ≤ 1048576
        · have HRR := Lib.hid (HZ.out hneg)
          have hd2 : decide (1048576 - (xs.length : Int) - (y : Int) - (x.size : Int) < 0) = false := decide_eq_false (by omega)
          clear HZ
          go_wp2
          go_roundw
          case rel => exact HRR.out
          case measure => simp [intOf]; omega
        · have hd2 : decide (1048576 - (xs.length : Int) - (y : Int) - (x.size : Int) < 0) = true := decide_eq_true (by omega)
          clear HZ
          go_wp2
          go_ret
          exact ⟨⟨_, rfl, .inl (by omega)⟩, hb⟩
      · obtain rfl : k = xs.length := by omega
        rw [List.take_length] at htk ⊢
        have HTK := Lib.hid htk
        generalize tot xs = y at htk ⊢
        go_wp2
        go_ret
        exact ⟨⟨_, rfl, .inr ⟨by omega, HTK.out⟩⟩, hb⟩
  · have hd : decide (1048576 - (xs.length : Int) < 0) = true := decide_eq_true (by omega)
    go_enter Tryd.func43, Tryd.ntmps43
    go_wp2
    go_ret
    exact ⟨⟨_, rfl, .inl (by omega)⟩, Below.refl _ _⟩

def ToRel (w : World) (xs : List ByteArray) (g : Nat) (v4 : Value) (wr : World) : Prop :=
  ∃ k : Nat, v4 = .int .i64 (k : Int) ∧ k ≤ xs.length ∧ wr.ownsRow w.heap.size 9 1 (.slice (some ⟨g, 0, none⟩) xs.length xs.length) xs.length (strCells (xs.take k ++ List.replicate (xs.length - k) ⟨#[]⟩)) ∧ Below w.heap.size w wr

set_option maxRecDepth 100000 in
set_option maxHeartbeats 1000000 in
theorem toStringS_any (a : Option Addr) (cap : Nat) (xs : List ByteArray) (w : World) (hrow : StrsAt w a xs) (hn : xs.length ≤ 1048576) :
    Calls Tryd.prog 44 #[.slice a xs.length cap] w fun e w' => ∃ v : Value, e = .returned v ∧ w'.ownsRow w.heap.size 9 1 v xs.length (strCells xs) ∧ Below w.heap.size w w' := by
  have HR := Lib.hid hrow
  clear hrow
  obtain ⟨i0, hi0, hz0, hz1, hz2⟩ := info_parts info9
  have hmk : (Instr.makeSlice 26 (.int .i64 (xs.length : Int)) (.int .i64 (xs.length : Int))).run Tryd.prog w = .ok (.slice (some ⟨w.heap.size, 0, none⟩) xs.length xs.length) (w.alloc (.cells (madeCells #[.string ⟨#[]⟩] xs.length) 9)) := by
    rw [run_make w 26 9 i0 _ Tryd.underlying26 hi0 hz0 .i64 .i64 _ _ (by omega) (by omega) (by rw [hz2]; omega) (by omega), hz1, Int.toNat_natCast, Nat.mul_one]
    rfl
  have hown0 : (w.alloc (.cells (madeCells #[.string ⟨#[]⟩] xs.length) 9)).ownsRow w.heap.size 9 1 (.slice (some ⟨w.heap.size, 0, none⟩) xs.length xs.length) xs.length (strCells ([] ++ List.replicate xs.length ⟨#[]⟩)) := by
    refine ⟨by simp [strCells], .inr ⟨w.heap.size, xs.length, _, rfl, Nat.le_refl _, heap_alloc_new w _, Nat.le_refl _, by unfold maxLen; omega, by rw [size_madeCells, Nat.mul_one], ?_⟩⟩
    rw [toList_madeCells_one, Nat.mul_one]
    simp [strCells]
  have hb0 := (Below.refl w.heap.size w).alloc (Nat.le_refl _) (Obj.cells (madeCells #[.string ⟨#[]⟩] xs.length) 9)
  generalize w.alloc (.cells (madeCells #[.string ⟨#[]⟩] xs.length) 9) = W0 at *
  clear hi0 hz0 hz1 hz2
  go_enter Tryd.func44, Tryd.ntmps44
  go_wp2
  clear hmk
  go_loopw [4] (fun v4 wr => ToRel w xs w.heap.size v4 wr) (fun v4 _ => (xs.length - (intOf v4).toNat))
  case atStart => exact ⟨0, rfl, Nat.zero_le _, hown0, hb0⟩
  case round =>
    obtain ⟨k, rfl, hk, hown, hb⟩ := hrel
    by_cases hlt : k < xs.length
    · obtain ⟨b, off, rfl, hbl, hx⟩ := HR.out k hlt
      have hx' : wr.cell? ⟨b, off + k, none⟩ = some (.string xs[k]) := (hb.cell hbl).trans hx
      obtain ⟨u, hu⟩ : ∃ u, wr.cell? ⟨w.heap.size, k, none⟩ = some u := ⟨_, (hown.cellAt k (by omega)).trans (List.getElem?_eq_getElem (by simp [strCells]; omega))⟩
      have hfz : wr.frozen? ⟨w.heap.size, k, none⟩ = false := by
        rcases hown.2 with ⟨h', _⟩ | ⟨g', cap', cur, hv', _, hh', _⟩
        · cases h'
        · simp only [Value.slice.injEq, Option.some.injEq, Addr.mk.injEq, true_and, and_true] at hv'
          obtain ⟨rfl, rfl⟩ := hv'
          simp [World.frozen?, hh']
      have HRR := Lib.hid ((⟨k + 1, by go_num, by omega, by
          have hos := owns_set hown hlt (.string xs[k])
          have hcl : (strCells (xs.take k ++ List.replicate (xs.length - k) ⟨#[]⟩)).set k (.string xs[k]) = strCells (xs.take (k + 1) ++ List.replicate (xs.length - (k + 1)) ⟨#[]⟩) := by
            have e2 : (strCells (xs.take k)).length = k := by simp [strCells]; omega
            rw [List.take_succ_eq_append_getElem hlt, show xs.length - k = (xs.length - (k + 1)) + 1 from by omega, List.replicate_succ]
            simp only [strCells, List.map_append, List.map_cons] at e2 ⊢
            rw [List.set_append_right _ _ (by omega), e2]
            simp
          rw [hcl] at hos
          exact hos, hb.setCell (p := ⟨w.heap.size, k, none⟩) (Nat.le_refl _) _⟩ : ToRel w xs w.heap.size (.int .i64 ((k : Int) + 1)) (wr.setCell ⟨w.heap.size, k, none⟩ (.string xs[k]))))
      clear hown hb hx
      generalize xs[k] = x at *
      go_wp2
      go_roundw
      case rel => exact HRR.out
      case measure => simp [intOf]; omega
    · obtain rfl : k = xs.length := by omega
      rw [List.take_length, Nat.sub_self, List.replicate_zero, List.append_nil] at hown
      have HO := Lib.hid hown
      clear hown
      go_wp2
      go_ret
      exact ⟨_, rfl, HO.out, hb⟩

theorem make_same {nm : ByteArray} {xs : List ByteArray} {e1 e2 : Ending} (h1 : MakeAns nm xs e1) (h2 : MakeAns nm xs e2) : ∃ (s : ByteArray) (ok : Bool), e1 = .returned (.tuple #[.string s, .bool ok]) ∧ e2 = .returned (.tuple #[.string s, .bool ok]) := by
  obtain ⟨s1, ok1, rfl, k1, t1⟩ := h1
  obtain ⟨s2, ok2, rfl, k2, t2⟩ := h2
  have e : ok1 = ok2 := by
    have := k1.trans k2.symm
    cases ok1 <;> cases ok2 <;> simp at this ⊢
  subst e
  have e2 : s1 = s2 := lst_inj (t1.trans t2.symm)
  subst e2
  exact ⟨s1, ok1, rfl, rfl⟩

/-- From the opened argument. -/
theorem strs_of {w : World} {x : Addr} {l c : Nat} {ss : List ByteArray} (hl : l ≤ c) (hm : c ≤ maxLen) (hz : ss.length = c) (hcell : ∀ i, i < ss.length → w.cell? (x.add i) = some (.string (ss.getD i ByteArray.empty))) (hwz : ∀ s ∈ ss, s.size ≤ maxLen) :
    ∃ xs : List ByteArray, l = xs.length ∧ StrsAt w (some x) xs ∧ xs.length ≤ 9223372036854775807 ∧ ∀ y ∈ xs, y.size ≤ 9223372036854775807 := by
  have hml : maxLen = 9223372036854775807 := by unfold maxLen; rfl
  have hlen : (ss.take l).length = l := by rw [List.length_take]; omega
  refine ⟨ss.take l, hlen.symm, fun i hi => ?_, by rw [hlen]; omega, fun y hy => by rw [← hml]; exact hwz y (List.mem_of_mem_take hy)⟩
  rw [hlen] at hi
  obtain ⟨b, off, spot⟩ := x
  have hc0 := hcell 0 (by omega)
  have hspot : spot = none := by simpa [Addr.add] using World.cell?_spot hc0
  subst hspot
  have hc := hcell i (by omega)
  have ha : (Addr.add ⟨b, off, none⟩ i) = ⟨b, off + i, none⟩ := by
    unfold Addr.add
    by_cases e : i = 0
    · simp [e]
    · simp [e]
  rw [ha] at hc
  have hil : i < ss.length := by omega
  refine ⟨b, off, rfl, cell_lt hc, ?_⟩
  rw [hc, List.getElem_take]
  simp [List.getD, List.getElem?_eq_getElem hil]

end Go.Proofs.YtkhliflgflhheaaDoor
