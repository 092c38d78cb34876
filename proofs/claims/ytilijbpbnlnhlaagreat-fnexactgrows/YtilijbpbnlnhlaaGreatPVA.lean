/-
  APPENDS: one text to a list of texts; a list of numbers to a list of numbers.
-/
import Derived.Test.YtilijbpbnlnhlaaGreatPMk
import Derived.Test.YtilijbpbnlnhlaaGreatPI7
import Derived.Deep.AppendSrc
namespace Go.Proofs.YtilijbpbnlnhlaaGreat.Pr
open Go Go.RowKit Go.Maps Go.WideMaps

theorem append_txt (w : World) (base : Nat) (v : Value) (n : Nat) (xs : List Value) (hown : w.ownsRow base 9 1 v n xs) (x : ByteArray) (g : Nat) (hg : w.heap[g]? = some (.cells #[.string x] 9 (0, 0))) (hn : n ≤ 1048576) (hbase : base ≤ w.heap.size) :
    ∃ g' cap w', (∀ ty, (Builtin.append_ #[30, 30] ty #[v, .slice (some ⟨g, 0, none⟩) 1 1]).run Tryz.prog w = .ok (.slice (some ⟨g', 0, none⟩) (n + 1) cap) w') ∧ w'.ownsRow base 9 1 (.slice (some ⟨g', 0, none⟩) (n + 1) cap) (n + 1) (xs ++ [.string x]) ∧ w.grownBy w' v.ownBlock ∧ (v.ownBlock = some g' ∨ g' = w.heap.size) := by
  obtain ⟨i0, hi0, hz0, hz1, hz2⟩ := info_parts infoStringS
  obtain ⟨g', cap, w', a1, a2, a3, a4, a5⟩ := run_append_lies (P := Tryz.prog) w 30 0 base 9 i0 _ 1 16 Tryz.underlying30 hi0 hz0 hz1 hz2 rfl (by omega) v n xs hown ⟨g, 0, none⟩ 1 1 [.string x] rfl
    (fun j u hu => by
      cases j with
      | zero => simp only [List.getElem?_cons_zero, Option.some.injEq] at hu; rw [hown_add, cell_of_row _ _ _ _ _ _ hg, ← hu]; rfl
      | succ j => simp at hu) (by intro u hu; rw [List.mem_singleton.1 hu]; rfl) (by omega) (by unfold maxLen; omega) (by omega) hbase w.heap.size rfl
  exact ⟨g', cap, w', fun ty => a1, a2, a3, a4⟩

/-- A text more in a list of one's own, the append's own cell laid first. -/
theorem push_txt {B : Nat} {v : Value} {xs : List ByteArray} {w w0 : World} (hown : w.ownsRow B 9 1 v xs.length (txtCells xs)) (x : ByteArray) (hn : xs.length ≤ 1048576) (hb : Below B w0 w) (hB : B ≤ w.heap.size) :
    ∃ g' cap w', (∀ ty, (Builtin.append_ #[30, 30] ty #[v, .slice (some ⟨w.heap.size, 0, none⟩) 1 1]).run Tryz.prog (w.alloc (.cells #[.string x] 9)) = .ok (.slice (some ⟨g', 0, none⟩) (xs.length + 1) cap) w') ∧
      w'.ownsRow B 9 1 (.slice (some ⟨g', 0, none⟩) (xs.length + 1) cap) (xs ++ [x]).length (txtCells (xs ++ [x])) ∧ Below B w0 w' ∧ (∀ b, B ≤ b → b < w.heap.size → v.ownBlock ≠ some b → w'.heap[b]? = w.heap[b]?) ∧ (v.ownBlock = some g' ∨ w.heap.size ≤ g') := by
  obtain ⟨g', cap, w', h1, h2, h3, h4⟩ := append_txt (w.alloc (.cells #[.string x] 9)) B v xs.length _ (hown.alloc _) x w.heap.size (heap_alloc_new w _) hn (by simp; omega)
  refine ⟨g', cap, w', h1, ?_, ?_, ?_, ?_⟩
  · rw [List.length_append, txtCells, List.map_append]; exact h2
  · exact (hb.alloc hB _).grown h3 (by simp; omega) (own_ge hown)
  · intro b _ hb2 hne
    rw [h3.block b (by simp; omega) (fun e => hne e.symm), heap_alloc_old w _ hb2]
  · rcases h4 with h4 | h4
    · exact .inl h4
    · right; simp at h4; omega

theorem hown_add2 (g o j : Nat) : (⟨g, o, none⟩ : Addr).add j = ⟨g, o + j, none⟩ := by
  unfold Addr.add
  by_cases h : j = 0 <;> simp [h]

theorem append_ints {B : Nat} {g cap : Nat} {L : List Int} {w w0 : World} (hown : w.ownsRow B 3 1 (.slice (some ⟨g, 0, none⟩) L.length cap) L.length (intCells L)) (S : Nat → Prop) (a : Option Addr) (c : Nat) (xs : List Int) (hxs : IntsIn S w a xs) (hn : L.length ≤ 1048576) (hm : xs.length ≤ 1048576) (hb : Below B w0 w) (hB : B ≤ w.heap.size) :
    ∃ g' cap' w', (∀ ty, (Builtin.append_ #[23, 23] ty #[.slice (some ⟨g, 0, none⟩) L.length cap, .slice a xs.length c]).run Tryz.prog w = .ok (.slice (some ⟨g', 0, none⟩) (L.length + xs.length) cap') w') ∧
      w'.ownsRow B 3 1 (.slice (some ⟨g', 0, none⟩) (L.length + xs.length) cap') (L ++ xs).length (intCells (L ++ xs)) ∧ Below B w0 w' := by
  obtain ⟨i0, hi0, hz0, hz1, hz2⟩ := info_parts infoIntS
  by_cases h0 : xs.length = 0
  · obtain rfl : xs = [] := List.length_eq_zero_iff.1 h0
    obtain ⟨g', cap', cur, hv, hg, hh, h1, h2, h3, h4⟩ : ∃ g' cap' cur, Value.slice (some ⟨g, 0, none⟩) L.length cap = .slice (some ⟨g', 0, none⟩) L.length cap' ∧ B ≤ g' ∧ w.heap[g']? = some (.cells cur 3 (0, 0)) ∧ L.length ≤ cap' ∧ cap' ≤ maxLen ∧ cur.size = cap' * 1 ∧ cur.toList.take (L.length * 1) = intCells L := by
      rcases hown.2 with ⟨h', _⟩ | h
      · cases h'
      · exact h
    simp only [Value.slice.injEq, Option.some.injEq, Addr.mk.injEq, true_and, and_true] at hv
    obtain ⟨rfl, rfl⟩ := hv
    have hsrc : Src Tryz.prog i0.size 23 (.slice a 0 c) 0 [] w := by
      cases a with
      | none => exact Src.ofNil w Tryz.underlying23 c
      | some ad => exact Src.ofSlice w Tryz.underlying23 ad 0 c [] (by simp) (fun j u hu => by simp at hu) (fun u hu => by cases hu)
    refine ⟨g, cap, w, fun ty => ?_, ?_, hb⟩
    · have := run_append_room_src (P := Tryz.prog) w 23 23 ty 3 i0 Tryz.underlying23 hi0 g 0 L.length cap (.slice a 0 c) 0 [] hsrc (by omega) (fun j hj => by simp at hj) (fun j hj => by simp at hj)
      simpa [World.setCells] using this
    · rw [List.append_nil]; exact hown
  · obtain ⟨b, off, rfl, _, _⟩ := hxs 0 (by omega)
    obtain ⟨g', cap', w', a1, a2, a3, a4, a5⟩ := run_append_lies (P := Tryz.prog) w 23 0 B 3 i0 _ 1 8 Tryz.underlying23 hi0 hz0 hz1 hz2 rfl (by omega) _ L.length _ hown ⟨b, off, none⟩ xs.length c (intCells xs) (by simp [intCells])
      (fun j u hu => by
        have hj : j < xs.length := by have := (List.getElem?_eq_some_iff.1 hu).1; simpa [intCells] using this
        obtain ⟨b', off', he, _, hc⟩ := hxs j hj
        obtain ⟨rfl, rfl⟩ : b = b' ∧ off = off' := by simpa using he
        have : u = .int .i64 xs[j] := by simp [intCells, hj] at hu; exact hu.symm
        rw [this, hown_add2]
        exact hc) (by intro u hu; obtain ⟨_, _, rfl⟩ := List.mem_map.1 hu; rfl) (by omega) (by unfold maxLen; omega) (by omega) hB w.heap.size rfl
    refine ⟨g', cap', w', fun ty => a1, ?_, hb.grown a3 hB (own_ge hown)⟩
    rw [List.length_append]
    simp only [intCells, List.map_append]
    exact a2

end Go.Proofs.YtilijbpbnlnhlaaGreat.Pr
