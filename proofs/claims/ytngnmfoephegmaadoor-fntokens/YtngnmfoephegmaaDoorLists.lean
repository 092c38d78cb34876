/-
  THE WALKS over newTermStore, (*termStore).putList, listItems, argsOf.
-/
import Derived.Test.YtngnmfoephegmaaDoorPutCell
import Derived.Deep.LoopGhost
namespace Go.Proofs.YtngnmfoephegmaaDoor
open Go Go.RowKit Go.Maps Go.WideMaps

theorem run_mk_cells (w : World) : (Instr.makeSlice 61 (.int .i64 1) (.int .i64 1)).run Tryd.prog w = .ok (.slice (some ⟨w.heap.size, 0, none⟩) 1 1) (w.alloc (.cells #[.int .i64 0, .int .i64 0] 85)) := by
  obtain ⟨i0, hi, hz0, hz1, hz2⟩ := info_parts infoC
  have em : madeCells (Value.agg #[Value.int IntKind.i64 0, Value.int IntKind.i64 0]).cells (Int.toNat 1 * 2) = #[.int .i64 0, .int .i64 0] := by kernel_rfl
  rw [run_make w 61 85 i0 _ Tryd.underlying61 hi hz0 .i64 .i64 1 1 (by omega) (by omega) (by rw [hz2]; omega) (by omega), hz1, em]
  rfl

/-- newTermStore: an empty store, in new memory. -/
theorem newStore_lies (w : World) : StoreAt ((((w.alloc (.cells #[.int .i64 0, .int .i64 0] 85)).alloc (.map #[] 0)).alloc (.map #[] 0)).alloc
    (.cells #[.slice none 0 0, .slice (some ⟨w.heap.size, 0, none⟩) 1 1, .map (some (w.heap.size + 1)), .map (some (w.heap.size + 2))] 65)) w.heap.size (w.heap.size + 3) [] [] := by
  have s1 : (w.alloc (.cells #[.int .i64 0, .int .i64 0] 85)).heap.size = w.heap.size + 1 := by simp
  have s2 : ((w.alloc (.cells #[.int .i64 0, .int .i64 0] 85)).alloc (.map #[] 0)).heap.size = w.heap.size + 2 := by simp
  have s3 : (((w.alloc (.cells #[.int .i64 0, .int .i64 0] 85)).alloc (.map #[] 0)).alloc (.map #[] 0)).heap.size = w.heap.size + 3 := by simp
  have o1 : (w.alloc (.cells #[.int .i64 0, .int .i64 0] 85)).ownsRow w.heap.size 85 2 (.slice (some ⟨w.heap.size, 0, none⟩) 1 1) 1 (listCells []) :=
    ⟨rfl, .inr ⟨w.heap.size, 1, #[.int .i64 0, .int .i64 0], rfl, Nat.le_refl _, heap_alloc_new _ _, Nat.le_refl _, by simp [maxLen], rfl, rfl⟩⟩
  have m1 := World.ownsMap_made (H := Unit) (w.alloc (.cells #[.int .i64 0, .int .i64 0] 85)) Tryd.prog 59 (plainElem Tryd.prog 3)
  have m2 := World.ownsMap_made (H := Unit) ((w.alloc (.cells #[.int .i64 0, .int .i64 0] 85)).alloc (.map #[] 0)) Tryd.prog 85 (plainElem Tryd.prog 3)
  rw [s1] at m1
  rw [s2] at m2
  refine ⟨_, _, _, _, _, _, by omega, by omega, by omega, by omega, ?_, World.ownsRow_nil _ _ _ _, ((o1.alloc _).alloc _).alloc _, (m1.alloc _).alloc _, mapIs_nil _ _, m2.alloc _, mapIs_nil _ _⟩
  have := heap_alloc_new (((w.alloc (.cells #[.int .i64 0, .int .i64 0] 85)).alloc (.map #[] 0)).alloc (.map #[] 0)) (.cells #[.slice none 0 0, .slice (some ⟨w.heap.size, 0, none⟩) 1 1, .map (some (w.heap.size + 1)), .map (some (w.heap.size + 2))] 65)
  rw [s3] at this
  exact this

set_option maxRecDepth 100000 in
set_option maxHeartbeats 400000 in
theorem newTermStore_any (w : World) : Calls Tryd.prog 42 #[] w fun e w' => ∃ b, e = .returned (.pointer (some ⟨b, 0, none⟩)) ∧ StoreAt w' w.heap.size b [] [] ∧ Below w.heap.size w w' := by
  have hmm := @run_makeMap Tryd.prog
  have hms := run_mk_cells
  have HL := Lib.hid (newStore_lies w)
  go_enter Tryd.func42, Tryd.ntmps42
  go_wp2
  go_ret
  refine ⟨_, rfl, HL.out, ?_⟩
  exact ((((Below.refl _ _).alloc (Nat.le_refl _) _).alloc (by simp) _).alloc (by simp; omega) _).alloc (by simp; omega) _

/-! ### Lists of places -/

/-- The list that begins at place l of the cells. -/
def ListAt (cs : List Cl) : Nat → List Nat → Prop
  | l, [] => l = 0
  | l, x :: xs => ∃ i l', l = i + 1 ∧ cs[i]? = some ⟨x, l'⟩ ∧ ListAt cs l' xs

theorem ListAt.mono {cs cs' : List Cl} (h : ∀ (i : Nat) (c : Cl), cs[i]? = some c → cs'[i]? = some c) : ∀ {xs : List Nat} {l : Nat}, ListAt cs l xs → ListAt cs' l xs
  | [], _, hl => hl
  | _ :: _, _, ⟨i, l', e, hi, ht⟩ => ⟨i, l', e, h i _ hi, ListAt.mono h ht⟩
theorem ListAt.le {cs : List Cl} : ∀ {xs : List Nat} {l : Nat}, ListAt cs l xs → l ≤ cs.length
  | [], _, hl => by have : _ = 0 := hl; omega
  | _ :: _, _, ⟨i, l', e, hi, ht⟩ => by have := (List.getElem?_eq_some_iff.1 hi).1; omega
theorem ListAt.fn {cs : List Cl} : ∀ {xs ys : List Nat} {l : Nat}, ListAt cs l xs → ListAt cs l ys → xs = ys
  | [], [], _, _, _ => rfl
  | [], _ :: _, _, h, ⟨i, l', e, _⟩ => by have : _ = 0 := h; omega
  | _ :: _, [], _, ⟨i, l', e, _⟩, h => by have : _ = 0 := h; omega
  | x :: xs, y :: ys, l, ⟨i, l', e, hi, ht⟩, ⟨j, k', e', hj, hk⟩ => by
    obtain rfl : i = j := by omega
    rw [hi] at hj
    obtain ⟨rfl, rfl⟩ : x = y ∧ l' = k' := by simpa using hj
    rw [ListAt.fn ht hk]

/-- More cells at the end. -/
def Ext {α : Type} (xs ys : List α) : Prop := ∃ zs, ys = xs ++ zs
theorem Ext.refl {α : Type} (xs : List α) : Ext xs xs := ⟨[], by simp⟩
theorem Ext.trans {α : Type} {xs ys zs : List α} (h : Ext xs ys) (k : Ext ys zs) : Ext xs zs := by
  obtain ⟨a, rfl⟩ := h
  obtain ⟨b, rfl⟩ := k
  exact ⟨a ++ b, by simp⟩
theorem Ext.get {α : Type} {xs ys : List α} (h : Ext xs ys) (i : Nat) (c : α) (hi : xs[i]? = some c) : ys[i]? = some c := by
  obtain ⟨zs, rfl⟩ := h
  rw [List.getElem?_append_left (List.getElem?_eq_some_iff.1 hi).1]
  exact hi
theorem Ext.len {α : Type} {xs ys : List α} (h : Ext xs ys) : xs.length ≤ ys.length := by
  obtain ⟨zs, rfl⟩ := h
  simp
theorem ext_of_put {α : Type} {xs ys : List α} {c : α} (h : ys = xs ∨ ys = xs ++ [c]) : Ext xs ys ∧ ys.length ≤ xs.length + 1 := by
  rcases h with rfl | rfl
  · exact ⟨Ext.refl _, by omega⟩
  · exact ⟨⟨[c], rfl⟩, by simp⟩

def intCells (xs : List Nat) : List Value := xs.map fun x : Nat => Value.int .i64 (x : Int)
theorem intCells_length (xs : List Nat) : (intCells xs).length = xs.length * 1 := by simp [intCells]
theorem intCells_one (l : List Nat) : ∀ u ∈ intCells l, u.oneCell' = true := fun u hu => by
  obtain ⟨_, _, rfl⟩ := List.mem_map.1 hu
  rfl

/-- What the loop of putList holds behind the places from k on. -/
def PutRel (w : World) (base b base' : Nat) (ns : List Nd) (cs : List Cl) (items : List Nat) (v : Value) (lv iv : Value) (wr : World) : Prop :=
  ∃ (k L : Nat) (cs' : List Cl), k ≤ items.length ∧ iv = .int .i64 ((k : Int) - 1) ∧ lv = .int .i64 (L : Int) ∧ ListAt cs' L (items.drop k) ∧ Ext cs cs' ∧ cs'.length ≤ cs.length + (items.length - k) ∧
    StoreAt wr base b ns cs' ∧ Fr base w wr ∧ wr.ownsRow base' 3 1 v items.length (intCells items)

set_option maxRecDepth 100000 in
set_option maxHeartbeats 1000000 in
theorem putList_none {base b : Nat} {ns : List Nd} {cs : List Cl} (av : Option Addr) (cv : Nat) (w : World) (_hS : StoreAt w base b ns cs) :
    Calls Tryd.prog 62 #[.pointer (some ⟨b, 0, none⟩), .slice av 0 cv] w fun e w' => e = .returned (.int .i64 0) ∧ w = w' := by
  go_enter Tryd.func62, Tryd.ntmps62
  go_wp2
  refine wp_loop_rounds 1 ?_
  rw [rounds_succ]
  go_wp2
  go_ret
  exact ⟨rfl, rfl⟩

set_option maxRecDepth 100000 in
set_option maxHeartbeats 1000000 in
theorem putList_some {base b base' : Nat} {ns : List Nd} {cs : List Cl} (items : List Nat) (g cv : Nat) (w : World) (hS : StoreAt w base b ns cs) (hB : base ≤ w.heap.size)
    (hv : w.ownsRow base' 3 1 (.slice (some ⟨g, 0, none⟩) items.length cv) items.length (intCells items)) (hit : ∀ x ∈ items, x ≤ 1000000) (hlen : cs.length + items.length ≤ 900000) :
    Calls Tryd.prog 62 #[.pointer (some ⟨b, 0, none⟩), .slice (some ⟨g, 0, none⟩) items.length cv] w fun e w' => ∃ (L : Nat) (cs' : List Cl), e = .returned (.int .i64 (L : Int)) ∧ ListAt cs' L items ∧ Ext cs cs' ∧ cs'.length ≤ cs.length + items.length ∧
      StoreAt w' base b ns cs' ∧ Fr base w w' := by
  have hln : (items.length : Int) ≤ 900000 := by omega
  have HIT := Lib.hid hit
  clear hit
  go_enter Tryd.func62, Tryd.ntmps62
  go_wp2
  go_loopw [5, 6] (fun lv iv wr => PutRel w base b base' ns cs items (.slice (some ⟨g, 0, none⟩) items.length cv) lv iv wr) (fun _ iv _ => (intOf iv + 1).toNat)
  case atStart => exact ⟨items.length, 0, cs, Nat.le_refl _, rfl, rfl, by rw [List.drop_length]; rfl, Ext.refl _, by omega, hS, Fr.refl _ _, hv⟩
  case round =>
    obtain ⟨k, L, cs', hk, rfl, rfl, hL, hE, hc, hSr, hF, hvr⟩ := hrel
    have hLc := hL.le
    cases k with
    | zero =>
      rw [List.drop_zero] at hL
      have h1 : decide ((0 : Int) ≤ ((0 : Nat) : Int) - 1) = false := by decide
      go_wp2
      go_ret
      exact ⟨L, cs', rfl, hL, hE, by omega, hSr, hF⟩
    | succ j =>
      have e1 : (((j + 1 : Nat) : Int) - 1) = (j : Int) := by omega
      rw [e1]
      clear e1
      have hj : j < items.length := by omega
      have hx : wr.cell? ⟨g, j, none⟩ = some (.int .i64 (items[j] : Int)) := by
        rw [hvr.cellAt j (by omega)]
        simp [intCells, hj]
      have hxl := HIT.out items[j] (List.getElem_mem hj)
      have hB1 : base ≤ wr.heap.size := Nat.le_trans hB hF.below.size
      have hdrop : items.drop j = items[j] :: items.drop (j + 1) := List.drop_eq_getElem_cons hj
      have HD := Lib.hid hdrop
      clear hdrop
      generalize items[j] = x at *
      go_wp2_with fail
      refine (putCell_any ⟨x, L⟩ ⟨hxl, by show L ≤ 1000000; omega⟩ wr hSr hB1 (by omega)).mono ?_
      rintro e w2 ⟨i, cs2, rfl, hi2, hor, hS2, hF2⟩
      have hx2 := ext_of_put hor
      have R : PutRel w base b base' ns cs items (.slice (some ⟨g, 0, none⟩) items.length cv) (.int .i64 ((i + 1 : Nat) : Int)) (.int .i64 ((j : Int) - 1)) w2 :=
        ⟨j, i + 1, cs2, by omega, rfl, rfl, by rw [HD.out]; exact ⟨i, L, rfl, hi2, hL.mono hx2.1.get⟩, hE.trans hx2.1, by omega, hS2, hF.trans hF2, hF2.ints (by decide) (by decide) (by decide) hvr⟩
      clear hor hx2 hS2 hF2 hi2 hx hSr hF hvr hL hE
      go_wp2
      go_roundw
      case rel => exact R
      case measure => simp [intOf]

theorem putList_any {base b base' : Nat} {ns : List Nd} {cs : List Cl} (items : List Nat) (v : Value) (w : World) (hS : StoreAt w base b ns cs) (hB : base ≤ w.heap.size)
    (hv : w.ownsRow base' 3 1 v items.length (intCells items)) (hit : ∀ x ∈ items, x ≤ 1000000) (hlen : cs.length + items.length ≤ 900000) :
    Calls Tryd.prog 62 #[.pointer (some ⟨b, 0, none⟩), v] w fun e w' => ∃ (L : Nat) (cs' : List Cl), e = .returned (.int .i64 (L : Int)) ∧ ListAt cs' L items ∧ Ext cs cs' ∧ cs'.length ≤ cs.length + items.length ∧
      StoreAt w' base b ns cs' ∧ Fr base w w' := by
  cases items with
  | nil =>
    obtain ⟨av, cv, rfl⟩ := owns_shape hv
    exact (putList_none av cv w hS).mono fun e w' ⟨he, hw⟩ => ⟨0, cs, he, rfl, Ext.refl _, by omega, hw ▸ hS, hw ▸ Fr.refl _ _⟩
  | cons x xs =>
    obtain ⟨g, cap, rfl, _⟩ := hv.form (by simp)
    exact putList_some (x :: xs) g cap w hS hB hv hit hlen

theorem listCells_at {cs : List Cl} {i : Nat} {c : Cl} (h : cs[i]? = some c) : (listCells cs)[(i + 1) * 2]? = some (.int .i64 (c.head : Int)) ∧ (listCells cs)[(i + 1) * 2 + 1]? = some (.int .i64 (c.tail : Int)) := by
  have key : ∀ (cs : List Cl) (i : Nat) (c : Cl), cs[i]? = some c → (cs.flatMap Cl.cells)[i * 2]? = some (.int .i64 (c.head : Int)) ∧ (cs.flatMap Cl.cells)[i * 2 + 1]? = some (.int .i64 (c.tail : Int)) := by
    intro cs
    induction cs with
    | nil => intro i c h; simp at h
    | cons x xs ih =>
      intro i c h
      cases i with
      | zero =>
        obtain rfl : x = c := by simpa using h
        exact ⟨rfl, rfl⟩
      | succ i =>
        have := ih i c (by simpa using h)
        rw [List.flatMap_cons]
        have e : x.cells.length = 2 := rfl
        rw [List.getElem?_append_right (by omega), List.getElem?_append_right (by omega), e, show (i + 1) * 2 - 2 = i * 2 from by omega, show (i + 1) * 2 + 1 - 2 = i * 2 + 1 from by omega]
        exact this
  have := key cs i c h
  unfold listCells
  rw [show (i + 1) * 2 = i * 2 + 1 + 1 from by omega, show i * 2 + 1 + 1 + 1 = (i * 2 + 1) + 1 + 1 from by omega]
  simpa using this

theorem info3 : (Tryd.prog.info? 3).map (fun i => (i.zero, i.size, i.bytes)) = some (some (.int .i64 0), 1, 8) := by kernel_rfl

/-- What listItems holds: those gone by, in a row of its own, and the place of the rest. -/
def ItemsRel (w : World) (cs : List Cl) (items : List Nat) (k : Nat) (lv v : Value) (wr : World) : Prop :=
  ∃ (l : Nat) (gone todo : List Nat), items = gone ++ todo ∧ k = todo.length ∧ lv = .int .i64 (l : Int) ∧ ListAt cs l todo ∧ wr.ownsRow w.heap.size 3 1 v gone.length (intCells gone) ∧ Below w.heap.size w wr

end Go.Proofs.YtngnmfoephegmaaDoor
