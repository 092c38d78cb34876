/-
  THE WALKS over the drawing of terms: once, term, any, DrawTermKind.
-/
import Derived.Test.YtkhliflgflhheaaDoorDraw
namespace Go.Proofs.YtkhliflgflhheaaDoor
open Go Go.RowKit Go.Maps Go.WideMaps

/-- The symbols that are drawn. -/
def drawnSyms : List (List UInt8) := [[], [97], [98, 32, 99], [40, 44, 41], [120]]
/-- A term with no symbol but those that are drawn. -/
inductive Nice : Tm → Prop
  | num (n : Int) (h0 : -1000000 ≤ n) (h1 : n ≤ 1000000) : Nice (.num n)
  | sym (b : List UInt8) (h : b ∈ drawnSyms) : Nice (.sym b)
  | con (name : List UInt8) (args : List Tm) (h : bigName name = true) (ha : ∀ a ∈ args, Nice a) : Nice (.con name args)
theorem Nice.wf {t : Tm} (h : Nice t) : Wf t := by
  induction h with
  | num n h0 h1 => exact .num n h0 h1
  | sym b h =>
    simp only [drawnSyms, List.mem_cons, List.not_mem_nil, or_false] at h
    rcases h with rfl | rfl | rfl | rfl | rfl <;> exact .sym _ (by decide) (by decide)
  | con name args h _ ih => exact .con name args h ih

/-- The memory that was there is as it was, but for the cursor's. -/
def Kept (c : Nat) (w w' : World) : Prop := w.heap.size ≤ w'.heap.size ∧ ∀ j : Nat, j < w.heap.size → j ≠ c → w'.heap[j]? = w.heap[j]?
theorem Kept.refl (c : Nat) (w : World) : Kept c w w := ⟨Nat.le_refl _, fun _ _ _ => rfl⟩
theorem Kept.trans {c : Nat} {a b d : World} (h : Kept c a b) (k : Kept c b d) : Kept c a d :=
  ⟨Nat.le_trans h.1 k.1, fun j hj hc => (k.2 j (Nat.lt_of_lt_of_le hj h.1) hc).trans (h.2 j hj hc)⟩
theorem Kept.of_below {c : Nat} {w w' : World} (h : Below w.heap.size w w') : Kept c w w' := ⟨h.size, fun j hj _ => h.block j hj⟩
theorem Kept.of_only {w0 w w' : World} {c : Nat} {a : Option Addr} {len cap N : Nat} (hC : CurAt w0 w' c a len cap N) (h : ∀ j : Nat, j ≠ c → w'.heap[j]? = w.heap[j]?) : Kept c w w' := by
  refine ⟨?_, fun j _ hc => h j hc⟩
  have hl := hC.lt
  rcases Nat.lt_or_ge w'.heap.size w.heap.size with hlt | hge
  · exfalso
    by_cases e : w'.heap.size = c
    · omega
    · have h1 := h w'.heap.size e
      rw [Array.getElem?_eq_none (Nat.le_refl _), Array.getElem?_eq_getElem hlt] at h1
      cases h1
  · exact hge
theorem Kept.of_alloc (c : Nat) (w : World) (o : Obj) : Kept c w (w.alloc o) := .of_below ((Below.refl w.heap.size w).alloc (Nat.le_refl _) o)

theorem CurAt.more {w0 w : World} {c : Nat} {a : Option Addr} {len cap N N' : Nat} (h : CurAt w0 w c a len cap N) (hN : N ≤ N') : CurAt w0 w c a len cap N' := by
  obtain ⟨hnew, hcode, hbel, k, sd, hk, hsd, hh⟩ := h
  exact ⟨hnew, hcode, hbel, k, sd, by omega, hsd, hh⟩

theorem eightN : ∀ r : Nat, r < 8 → ∃ z : Int, (#[Value.int .i64 0, Value.int .i64 1, Value.int .i64 2, Value.int .i64 3, Value.int .i64 (-1), Value.int .i64 10, Value.int .i64 1000000, Value.int .i64 (-1000000)] : Array Value)[r]? = some (.int .i64 z) ∧ -1000000 ≤ z ∧ z ≤ 1000000
  | 0, _ => ⟨_, rfl, by omega, by omega⟩
  | 1, _ => ⟨_, rfl, by omega, by omega⟩
  | 2, _ => ⟨_, rfl, by omega, by omega⟩
  | 3, _ => ⟨_, rfl, by omega, by omega⟩
  | 4, _ => ⟨_, rfl, by omega, by omega⟩
  | 5, _ => ⟨_, rfl, by omega, by omega⟩
  | 6, _ => ⟨_, rfl, by omega, by omega⟩
  | 7, _ => ⟨_, rfl, by omega, by omega⟩
  | r + 8, h => by omega
theorem fiveS : ∀ r : Nat, r < 5 → ∃ s : ByteArray, (#[Value.string ⟨#[34, 34]⟩, Value.string ⟨#[34, 97, 34]⟩, Value.string ⟨#[34, 98, 32, 99, 34]⟩, Value.string ⟨#[34, 40, 44, 41, 34]⟩, Value.string ⟨#[34, 120, 34]⟩] : Array Value)[r]? = some (.string s) ∧ ∃ b ∈ drawnSyms, lst s = (Tm.sym b).text ∧ s.size ≤ 8
  | 0, _ => ⟨_, rfl, [], by decide, rfl, by decide⟩
  | 1, _ => ⟨_, rfl, [97], by decide, rfl, by decide⟩
  | 2, _ => ⟨_, rfl, [98, 32, 99], by decide, rfl, by decide⟩
  | 3, _ => ⟨_, rfl, [40, 44, 41], by decide, rfl, by decide⟩
  | 4, _ => ⟨_, rfl, [120], by decide, rfl, by decide⟩
  | r + 5, h => by omega
theorem fourC : ∀ r : Nat, r < 4 → ∃ s : ByteArray, (#[Value.string ⟨#[78, 105, 108]⟩, Value.string ⟨#[76, 101, 97, 102]⟩, Value.string ⟨#[65]⟩, Value.string ⟨#[90, 101, 114, 111]⟩] : Array Value)[r]? = some (.string s) ∧ bigName (lst s) = true ∧ s.size ≤ 8
  | 0, _ => ⟨_, rfl, by decide, by decide⟩
  | 1, _ => ⟨_, rfl, by decide, by decide⟩
  | 2, _ => ⟨_, rfl, by decide, by decide⟩
  | 3, _ => ⟨_, rfl, by decide, by decide⟩
  | r + 4, h => by omega

theorem itoa_len8 {z : Int} (h0 : -1000000 ≤ z) (h1 : z ≤ 1000000) : (Lib.itoa z).length ≤ 8 := by
  obtain ⟨ds, _, h2, _, (⟨_, h3, _⟩ | ⟨_, h3, _⟩)⟩ := itoa_shape h0 h1
  · rw [h3]; omega
  · rw [h3, List.length_cons]; omega

/-- What drawing a term answers. -/
def DrawAns (w0 : World) (c : Nat) (a : Option Addr) (len cap N C P : Nat) (w : World) (e : Ending) (w' : World) : Prop :=
  ∃ (s : ByteArray) (t : Tm), e = .returned (.string s) ∧ lst s = t.text ∧ Nice t ∧ s.size ≤ C ∧ CurAt w0 w' c a len cap (N + P) ∧ Kept c w w'
def DrawSaid (d : Int) (C P M : Nat) : Prop := ∀ (w0 : World) (c : Nat) (a : Option Addr) (len cap N : Nat) (w : World), N ≤ M → CurAt w0 w c a len cap N →
  Calls Tryd.prog 55 #[.pointer (some ⟨c, 0, none⟩), .int .i64 d] w (DrawAns w0 c a len cap N C P w)

theorem num_ans {w0 w w3 : World} {c : Nat} {a : Option Addr} {len cap N C P : Nat} {z : Int} (h0 : -1000000 ≤ z) (h1 : z ≤ 1000000) (hC : 8 ≤ C) (hcur : CurAt w0 w3 c a len cap (N + P)) (hk : Kept c w w3) : DrawAns w0 c a len cap N C P w (.returned (.string ⟨(Lib.itoa z).toArray⟩)) w3 :=
  ⟨_, .num z, rfl, rfl, .num z h0 h1, by have := itoa_len8 h0 h1; simp [ByteArray.size]; omega, hcur, hk⟩
theorem sym_ans {w0 w w3 : World} {c : Nat} {a : Option Addr} {len cap N C P : Nat} {s : ByteArray} (hs : ∃ b ∈ drawnSyms, lst s = (Tm.sym b).text ∧ s.size ≤ 8) (hC : 8 ≤ C) (hcur : CurAt w0 w3 c a len cap (N + P)) (hk : Kept c w w3) : DrawAns w0 c a len cap N C P w (.returned (.string s)) w3 := by
  obtain ⟨b, hb, h1, h2⟩ := hs
  exact ⟨_, .sym b, rfl, h1, .sym b hb, by omega, hcur, hk⟩
theorem nul_ans {w0 w w3 : World} {c : Nat} {a : Option Addr} {len cap N C P : Nat} {s : ByteArray} (hs : bigName (lst s) = true) (h8 : s.size ≤ 8) (hC : 8 ≤ C) (hcur : CurAt w0 w3 c a len cap (N + P)) (hk : Kept c w w3) : DrawAns w0 c a len cap N C P w (.returned (.string s)) w3 :=
  ⟨_, .con (lst s) [], rfl, by rw [Tm.text, argText, List.append_nil], .con _ _ hs (by simp), by omega, hcur, hk⟩

theorem lst_app (a b : ByteArray) : lst (a ++ b) = lst a ++ lst b := by simp [lst]

set_option maxRecDepth 100000 in
set_option maxHeartbeats 4000000 in
theorem term_flat (M : Nat) (hM : M ≤ 90000) : DrawSaid 0 8 2 M := by
  intro w0 c a len cap N w hN hC
  go_enter Tryd.func55, Tryd.ntmps55
  go_wp2_with fail
  refine (pick_any 9 (by omega) (by omega) (by omega) _ hC).mono ?_
  rintro e w1 ⟨r, hr, rfl, hC1, ho1⟩
  have hK1 := Kept.of_only hC1 ho1
  have hcl := hC1.lt
  clear ho1
  rcases (show r = 0 ∨ r = 1 ∨ r = 2 ∨ r = 3 ∨ r = 4 ∨ r = 5 ∨ r = 6 ∨ r = 7 ∨ r = 8 from by omega) with rfl | rfl | rfl | rfl | rfl | rfl | rfl | rfl | rfl
  · have hC1' := hC1.kept ((Below.refl w1.heap.size w1).alloc (Nat.le_refl _) (Obj.cells #[Value.int .i64 0, Value.int .i64 1, Value.int .i64 2, Value.int .i64 3, Value.int .i64 (-1), Value.int .i64 10, Value.int .i64 1000000, Value.int .i64 (-1000000)] 3))
    have hK1' := hK1.trans (Kept.of_alloc c w1 (Obj.cells #[Value.int .i64 0, Value.int .i64 1, Value.int .i64 2, Value.int .i64 3, Value.int .i64 (-1), Value.int .i64 10, Value.int .i64 1000000, Value.int .i64 (-1000000)] 3))
    go_wp2_with fail
    refine (pick_any 8 (by omega) (by omega) (by omega) _ hC1').mono ?_
    rintro e w2 ⟨r2, hr2, rfl, hC2, ho2⟩
    have hrow := (ho2 w1.heap.size (by omega)).trans (heap_alloc_new w1 _)
    have HK2 := Lib.hid (hK1'.trans (Kept.of_only hC2 ho2))
    obtain ⟨z, hz, hz0, hz1⟩ := eightN r2 hr2
    have hx : w2.cell? ⟨w1.heap.size, r2, none⟩ = some (.int .i64 z) := by rw [cell_of_row w2 _ _ _ _ _ hrow]; exact hz
    have HC2 := Lib.hid hC2
    clear hC hC1 hC2 hC1' ho2 hrow hz hK1 hK1'
    go_wp2_with fail
    refine (specNumText z (by omega) (by omega) _).mono ?_
    rintro e w3 ⟨rfl, hb3⟩
    have HF := Lib.hid (num_ans (N := N) (P := 2) hz0 hz1 (C := 8) (by omega) ((HC2.out.kept hb3).more (by omega)) (HK2.out.trans (.of_below hb3)))
    clear hb3
    go_wp2
    go_ret
    exact HF.out
  · have hC1' := hC1.kept ((Below.refl w1.heap.size w1).alloc (Nat.le_refl _) (Obj.cells #[Value.int .i64 0, Value.int .i64 1, Value.int .i64 2, Value.int .i64 3, Value.int .i64 (-1), Value.int .i64 10, Value.int .i64 1000000, Value.int .i64 (-1000000)] 3))
    have hK1' := hK1.trans (Kept.of_alloc c w1 (Obj.cells #[Value.int .i64 0, Value.int .i64 1, Value.int .i64 2, Value.int .i64 3, Value.int .i64 (-1), Value.int .i64 10, Value.int .i64 1000000, Value.int .i64 (-1000000)] 3))
    go_wp2_with fail
    refine (pick_any 8 (by omega) (by omega) (by omega) _ hC1').mono ?_
    rintro e w2 ⟨r2, hr2, rfl, hC2, ho2⟩
    have hrow := (ho2 w1.heap.size (by omega)).trans (heap_alloc_new w1 _)
    have HK2 := Lib.hid (hK1'.trans (Kept.of_only hC2 ho2))
    obtain ⟨z, hz, hz0, hz1⟩ := eightN r2 hr2
    have hx : w2.cell? ⟨w1.heap.size, r2, none⟩ = some (.int .i64 z) := by rw [cell_of_row w2 _ _ _ _ _ hrow]; exact hz
    have HC2 := Lib.hid hC2
    clear hC hC1 hC2 hC1' ho2 hrow hz hK1 hK1'
    go_wp2_with fail
    refine (specNumText z (by omega) (by omega) _).mono ?_
    rintro e w3 ⟨rfl, hb3⟩
    have HF := Lib.hid (num_ans (N := N) (P := 2) hz0 hz1 (C := 8) (by omega) ((HC2.out.kept hb3).more (by omega)) (HK2.out.trans (.of_below hb3)))
    clear hb3
    go_wp2
    go_ret
    exact HF.out
  · have hC1' := hC1.kept ((Below.refl w1.heap.size w1).alloc (Nat.le_refl _) (Obj.cells #[Value.int .i64 0, Value.int .i64 1, Value.int .i64 2, Value.int .i64 3, Value.int .i64 (-1), Value.int .i64 10, Value.int .i64 1000000, Value.int .i64 (-1000000)] 3))
    have hK1' := hK1.trans (Kept.of_alloc c w1 (Obj.cells #[Value.int .i64 0, Value.int .i64 1, Value.int .i64 2, Value.int .i64 3, Value.int .i64 (-1), Value.int .i64 10, Value.int .i64 1000000, Value.int .i64 (-1000000)] 3))
    go_wp2_with fail
    refine (pick_any 8 (by omega) (by omega) (by omega) _ hC1').mono ?_
    rintro e w2 ⟨r2, hr2, rfl, hC2, ho2⟩
    have hrow := (ho2 w1.heap.size (by omega)).trans (heap_alloc_new w1 _)
    have HK2 := Lib.hid (hK1'.trans (Kept.of_only hC2 ho2))
    obtain ⟨z, hz, hz0, hz1⟩ := eightN r2 hr2
    have hx : w2.cell? ⟨w1.heap.size, r2, none⟩ = some (.int .i64 z) := by rw [cell_of_row w2 _ _ _ _ _ hrow]; exact hz
    have HC2 := Lib.hid hC2
    clear hC hC1 hC2 hC1' ho2 hrow hz hK1 hK1'
    go_wp2_with fail
    refine (specNumText z (by omega) (by omega) _).mono ?_
    rintro e w3 ⟨rfl, hb3⟩
    have HF := Lib.hid (num_ans (N := N) (P := 2) hz0 hz1 (C := 8) (by omega) ((HC2.out.kept hb3).more (by omega)) (HK2.out.trans (.of_below hb3)))
    clear hb3
    go_wp2
    go_ret
    exact HF.out
  · have hC1' := hC1.kept ((Below.refl w1.heap.size w1).alloc (Nat.le_refl _) (Obj.cells #[Value.string ⟨#[34, 34]⟩, Value.string ⟨#[34, 97, 34]⟩, Value.string ⟨#[34, 98, 32, 99, 34]⟩, Value.string ⟨#[34, 40, 44, 41, 34]⟩, Value.string ⟨#[34, 120, 34]⟩] 9))
    have hK1' := hK1.trans (Kept.of_alloc c w1 (Obj.cells #[Value.string ⟨#[34, 34]⟩, Value.string ⟨#[34, 97, 34]⟩, Value.string ⟨#[34, 98, 32, 99, 34]⟩, Value.string ⟨#[34, 40, 44, 41, 34]⟩, Value.string ⟨#[34, 120, 34]⟩] 9))
    go_wp2_with fail
    refine (pick_any 5 (by omega) (by omega) (by omega) _ hC1').mono ?_
    rintro e w2 ⟨r2, hr2, rfl, hC2, ho2⟩
    have hrow := (ho2 w1.heap.size (by omega)).trans (heap_alloc_new w1 _)
    have HK2 := Lib.hid (hK1'.trans (Kept.of_only hC2 ho2))
    obtain ⟨s, hz, hs⟩ := fiveS r2 hr2
    have hx : w2.cell? ⟨w1.heap.size, r2, none⟩ = some (.string s) := by rw [cell_of_row w2 _ _ _ _ _ hrow]; exact hz
    have HF := Lib.hid (sym_ans (N := N) (P := 2) hs (C := 8) (by omega) (hC2.more (by omega)) HK2.out)
    clear hC hC1 hC2 hC1' ho2 hrow hz hK1 hK1' hs
    go_wp2
    go_ret
    exact HF.out
  · have hC1' := hC1.kept ((Below.refl w1.heap.size w1).alloc (Nat.le_refl _) (Obj.cells #[Value.string ⟨#[78, 105, 108]⟩, Value.string ⟨#[76, 101, 97, 102]⟩, Value.string ⟨#[65]⟩, Value.string ⟨#[90, 101, 114, 111]⟩] 9))
    have hK1' := hK1.trans (Kept.of_alloc c w1 (Obj.cells #[Value.string ⟨#[78, 105, 108]⟩, Value.string ⟨#[76, 101, 97, 102]⟩, Value.string ⟨#[65]⟩, Value.string ⟨#[90, 101, 114, 111]⟩] 9))
    go_wp2_with fail
    refine (pick_any 4 (by omega) (by omega) (by omega) _ hC1').mono ?_
    rintro e w2 ⟨r2, hr2, rfl, hC2, ho2⟩
    have hrow := (ho2 w1.heap.size (by omega)).trans (heap_alloc_new w1 _)
    have HK2 := Lib.hid (hK1'.trans (Kept.of_only hC2 ho2))
    obtain ⟨s, hz, hs, hs8⟩ := fourC r2 hr2
    have hx : w2.cell? ⟨w1.heap.size, r2, none⟩ = some (.string s) := by rw [cell_of_row w2 _ _ _ _ _ hrow]; exact hz
    have HF := Lib.hid (nul_ans (N := N) (P := 2) hs hs8 (C := 8) (by omega) (hC2.more (by omega)) HK2.out)
    clear hC hC1 hC2 hC1' ho2 hrow hz hK1 hK1' hs
    go_wp2
    go_ret
    exact HF.out
  · have hC1' := hC1.kept ((Below.refl w1.heap.size w1).alloc (Nat.le_refl _) (Obj.cells #[Value.int .i64 0, Value.int .i64 1, Value.int .i64 2, Value.int .i64 3, Value.int .i64 (-1), Value.int .i64 10, Value.int .i64 1000000, Value.int .i64 (-1000000)] 3))
    have hK1' := hK1.trans (Kept.of_alloc c w1 (Obj.cells #[Value.int .i64 0, Value.int .i64 1, Value.int .i64 2, Value.int .i64 3, Value.int .i64 (-1), Value.int .i64 10, Value.int .i64 1000000, Value.int .i64 (-1000000)] 3))
    go_wp2_with fail
    refine (pick_any 8 (by omega) (by omega) (by omega) _ hC1').mono ?_
    rintro e w2 ⟨r2, hr2, rfl, hC2, ho2⟩
    have hrow := (ho2 w1.heap.size (by omega)).trans (heap_alloc_new w1 _)
    have HK2 := Lib.hid (hK1'.trans (Kept.of_only hC2 ho2))
    obtain ⟨z, hz, hz0, hz1⟩ := eightN r2 hr2
    have hx : w2.cell? ⟨w1.heap.size, r2, none⟩ = some (.int .i64 z) := by rw [cell_of_row w2 _ _ _ _ _ hrow]; exact hz
    have HC2 := Lib.hid hC2
    clear hC hC1 hC2 hC1' ho2 hrow hz hK1 hK1'
    go_wp2_with fail
    refine (specNumText z (by omega) (by omega) _).mono ?_
    rintro e w3 ⟨rfl, hb3⟩
    have HF := Lib.hid (num_ans (N := N) (P := 2) hz0 hz1 (C := 8) (by omega) ((HC2.out.kept hb3).more (by omega)) (HK2.out.trans (.of_below hb3)))
    clear hb3
    go_wp2
    go_ret
    exact HF.out
  · have hC1' := hC1.kept ((Below.refl w1.heap.size w1).alloc (Nat.le_refl _) (Obj.cells #[Value.int .i64 0, Value.int .i64 1, Value.int .i64 2, Value.int .i64 3, Value.int .i64 (-1), Value.int .i64 10, Value.int .i64 1000000, Value.int .i64 (-1000000)] 3))
    have hK1' := hK1.trans (Kept.of_alloc c w1 (Obj.cells #[Value.int .i64 0, Value.int .i64 1, Value.int .i64 2, Value.int .i64 3, Value.int .i64 (-1), Value.int .i64 10, Value.int .i64 1000000, Value.int .i64 (-1000000)] 3))
    go_wp2_with fail
    refine (pick_any 8 (by omega) (by omega) (by omega) _ hC1').mono ?_
    rintro e w2 ⟨r2, hr2, rfl, hC2, ho2⟩
    have hrow := (ho2 w1.heap.size (by omega)).trans (heap_alloc_new w1 _)
    have HK2 := Lib.hid (hK1'.trans (Kept.of_only hC2 ho2))
    obtain ⟨z, hz, hz0, hz1⟩ := eightN r2 hr2
    have hx : w2.cell? ⟨w1.heap.size, r2, none⟩ = some (.int .i64 z) := by rw [cell_of_row w2 _ _ _ _ _ hrow]; exact hz
    have HC2 := Lib.hid hC2
    clear hC hC1 hC2 hC1' ho2 hrow hz hK1 hK1'
    go_wp2_with fail
    refine (specNumText z (by omega) (by omega) _).mono ?_
    rintro e w3 ⟨rfl, hb3⟩
    have HF := Lib.hid (num_ans (N := N) (P := 2) hz0 hz1 (C := 8) (by omega) ((HC2.out.kept hb3).more (by omega)) (HK2.out.trans (.of_below hb3)))
    clear hb3
    go_wp2
    go_ret
    exact HF.out
  · have hC1' := hC1.kept ((Below.refl w1.heap.size w1).alloc (Nat.le_refl _) (Obj.cells #[Value.string ⟨#[34, 34]⟩, Value.string ⟨#[34, 97, 34]⟩, Value.string ⟨#[34, 98, 32, 99, 34]⟩, Value.string ⟨#[34, 40, 44, 41, 34]⟩, Value.string ⟨#[34, 120, 34]⟩] 9))
    have hK1' := hK1.trans (Kept.of_alloc c w1 (Obj.cells #[Value.string ⟨#[34, 34]⟩, Value.string ⟨#[34, 97, 34]⟩, Value.string ⟨#[34, 98, 32, 99, 34]⟩, Value.string ⟨#[34, 40, 44, 41, 34]⟩, Value.string ⟨#[34, 120, 34]⟩] 9))
    go_wp2_with fail
    refine (pick_any 5 (by omega) (by omega) (by omega) _ hC1').mono ?_
    rintro e w2 ⟨r2, hr2, rfl, hC2, ho2⟩
    have hrow := (ho2 w1.heap.size (by omega)).trans (heap_alloc_new w1 _)
    have HK2 := Lib.hid (hK1'.trans (Kept.of_only hC2 ho2))
    obtain ⟨s, hz, hs⟩ := fiveS r2 hr2
    have hx : w2.cell? ⟨w1.heap.size, r2, none⟩ = some (.string s) := by rw [cell_of_row w2 _ _ _ _ _ hrow]; exact hz
    have HF := Lib.hid (sym_ans (N := N) (P := 2) hs (C := 8) (by omega) (hC2.more (by omega)) HK2.out)
    clear hC hC1 hC2 hC1' ho2 hrow hz hK1 hK1' hs
    go_wp2
    go_ret
    exact HF.out
  · have hC1' := hC1.kept ((Below.refl w1.heap.size w1).alloc (Nat.le_refl _) (Obj.cells #[Value.string ⟨#[78, 105, 108]⟩, Value.string ⟨#[76, 101, 97, 102]⟩, Value.string ⟨#[65]⟩, Value.string ⟨#[90, 101, 114, 111]⟩] 9))
    have hK1' := hK1.trans (Kept.of_alloc c w1 (Obj.cells #[Value.string ⟨#[78, 105, 108]⟩, Value.string ⟨#[76, 101, 97, 102]⟩, Value.string ⟨#[65]⟩, Value.string ⟨#[90, 101, 114, 111]⟩] 9))
    go_wp2_with fail
    refine (pick_any 4 (by omega) (by omega) (by omega) _ hC1').mono ?_
    rintro e w2 ⟨r2, hr2, rfl, hC2, ho2⟩
    have hrow := (ho2 w1.heap.size (by omega)).trans (heap_alloc_new w1 _)
    have HK2 := Lib.hid (hK1'.trans (Kept.of_only hC2 ho2))
    obtain ⟨s, hz, hs, hs8⟩ := fourC r2 hr2
    have hx : w2.cell? ⟨w1.heap.size, r2, none⟩ = some (.string s) := by rw [cell_of_row w2 _ _ _ _ _ hrow]; exact hz
    have HF := Lib.hid (nul_ans (N := N) (P := 2) hs hs8 (C := 8) (by omega) (hC2.more (by omega)) HK2.out)
    clear hC hC1 hC2 hC1' ho2 hrow hz hK1 hK1' hs
    go_wp2
    go_ret
    exact HF.out

set_option maxRecDepth 100000 in
set_option maxHeartbeats 4000000 in
theorem term_deep (d : Int) (h1 : 1 ≤ d) (h2 : d ≤ 2) (C P M : Nat) (hM : M ≤ 80000) (hCC : 8 ≤ C) (hC40 : C ≤ 40) (hPP : P ≤ 1000) (ih : DrawSaid (d - 1) C P (M + 3 * P + 2)) : DrawSaid d (3 * C + 10) (3 * P + 2) M := by
  intro w0 c a len cap N w hN hC
  have IH := Lib.hid ih
  have hd0 : decide (d ≤ 0) = false := decide_eq_false (by omega)
  clear ih
  go_enter Tryd.func55, Tryd.ntmps55
  go_wp2_with fail
  refine (pick_any 9 (by omega) (by omega) (by omega) _ hC).mono ?_
  rintro e w1 ⟨r, hr, rfl, hC1, ho1⟩
  have hK1 := Kept.of_only hC1 ho1
  have hcl := hC1.lt
  clear ho1
  rcases (show r = 0 ∨ r = 1 ∨ r = 2 ∨ r = 3 ∨ r = 4 ∨ r = 5 ∨ r = 6 ∨ r = 7 ∨ r = 8 from by omega) with rfl | rfl | rfl | rfl | rfl | rfl | rfl | rfl | rfl
  · have hC1' := hC1.kept ((Below.refl w1.heap.size w1).alloc (Nat.le_refl _) (Obj.cells #[Value.int .i64 0, Value.int .i64 1, Value.int .i64 2, Value.int .i64 3, Value.int .i64 (-1), Value.int .i64 10, Value.int .i64 1000000, Value.int .i64 (-1000000)] 3))
    have hK1' := hK1.trans (Kept.of_alloc c w1 (Obj.cells #[Value.int .i64 0, Value.int .i64 1, Value.int .i64 2, Value.int .i64 3, Value.int .i64 (-1), Value.int .i64 10, Value.int .i64 1000000, Value.int .i64 (-1000000)] 3))
    go_wp2_with fail
    refine (pick_any 8 (by omega) (by omega) (by omega) _ hC1').mono ?_
    rintro e w2 ⟨r2, hr2, rfl, hC2, ho2⟩
    have hrow := (ho2 w1.heap.size (by omega)).trans (heap_alloc_new w1 _)
    have HK2 := Lib.hid (hK1'.trans (Kept.of_only hC2 ho2))
    obtain ⟨z, hz, hz0, hz1⟩ := eightN r2 hr2
    have hx : w2.cell? ⟨w1.heap.size, r2, none⟩ = some (.int .i64 z) := by rw [cell_of_row w2 _ _ _ _ _ hrow]; exact hz
    have HC2 := Lib.hid hC2
    clear hC hC1 hC2 hC1' ho2 hrow hz hK1 hK1'
    go_wp2_with fail
    refine (specNumText z (by omega) (by omega) _).mono ?_
    rintro e w3 ⟨rfl, hb3⟩
    have HF := Lib.hid (num_ans (N := N) (P := (3 * P + 2)) hz0 hz1 (C := (3 * C + 10)) (by omega) ((HC2.out.kept hb3).more (by omega)) (HK2.out.trans (.of_below hb3)))
    clear hb3
    go_wp2
    go_ret
    exact HF.out
  · have hC1' := hC1.kept ((Below.refl w1.heap.size w1).alloc (Nat.le_refl _) (Obj.cells #[Value.int .i64 0, Value.int .i64 1, Value.int .i64 2, Value.int .i64 3, Value.int .i64 (-1), Value.int .i64 10, Value.int .i64 1000000, Value.int .i64 (-1000000)] 3))
    have hK1' := hK1.trans (Kept.of_alloc c w1 (Obj.cells #[Value.int .i64 0, Value.int .i64 1, Value.int .i64 2, Value.int .i64 3, Value.int .i64 (-1), Value.int .i64 10, Value.int .i64 1000000, Value.int .i64 (-1000000)] 3))
    go_wp2_with fail
    refine (pick_any 8 (by omega) (by omega) (by omega) _ hC1').mono ?_
    rintro e w2 ⟨r2, hr2, rfl, hC2, ho2⟩
    have hrow := (ho2 w1.heap.size (by omega)).trans (heap_alloc_new w1 _)
    have HK2 := Lib.hid (hK1'.trans (Kept.of_only hC2 ho2))
    obtain ⟨z, hz, hz0, hz1⟩ := eightN r2 hr2
    have hx : w2.cell? ⟨w1.heap.size, r2, none⟩ = some (.int .i64 z) := by rw [cell_of_row w2 _ _ _ _ _ hrow]; exact hz
    have HC2 := Lib.hid hC2
    clear hC hC1 hC2 hC1' ho2 hrow hz hK1 hK1'
    go_wp2_with fail
    refine (specNumText z (by omega) (by omega) _).mono ?_
    rintro e w3 ⟨rfl, hb3⟩
    have HF := Lib.hid (num_ans (N := N) (P := (3 * P + 2)) hz0 hz1 (C := (3 * C + 10)) (by omega) ((HC2.out.kept hb3).more (by omega)) (HK2.out.trans (.of_below hb3)))
    clear hb3
    go_wp2
    go_ret
    exact HF.out
  · have hC1' := hC1.kept ((Below.refl w1.heap.size w1).alloc (Nat.le_refl _) (Obj.cells #[Value.int .i64 0, Value.int .i64 1, Value.int .i64 2, Value.int .i64 3, Value.int .i64 (-1), Value.int .i64 10, Value.int .i64 1000000, Value.int .i64 (-1000000)] 3))
    have hK1' := hK1.trans (Kept.of_alloc c w1 (Obj.cells #[Value.int .i64 0, Value.int .i64 1, Value.int .i64 2, Value.int .i64 3, Value.int .i64 (-1), Value.int .i64 10, Value.int .i64 1000000, Value.int .i64 (-1000000)] 3))
    go_wp2_with fail
    refine (pick_any 8 (by omega) (by omega) (by omega) _ hC1').mono ?_
    rintro e w2 ⟨r2, hr2, rfl, hC2, ho2⟩
    have hrow := (ho2 w1.heap.size (by omega)).trans (heap_alloc_new w1 _)
    have HK2 := Lib.hid (hK1'.trans (Kept.of_only hC2 ho2))
    obtain ⟨z, hz, hz0, hz1⟩ := eightN r2 hr2
    have hx : w2.cell? ⟨w1.heap.size, r2, none⟩ = some (.int .i64 z) := by rw [cell_of_row w2 _ _ _ _ _ hrow]; exact hz
    have HC2 := Lib.hid hC2
    clear hC hC1 hC2 hC1' ho2 hrow hz hK1 hK1'
    go_wp2_with fail
    refine (specNumText z (by omega) (by omega) _).mono ?_
    rintro e w3 ⟨rfl, hb3⟩
    have HF := Lib.hid (num_ans (N := N) (P := (3 * P + 2)) hz0 hz1 (C := (3 * C + 10)) (by omega) ((HC2.out.kept hb3).more (by omega)) (HK2.out.trans (.of_below hb3)))
    clear hb3
    go_wp2
    go_ret
    exact HF.out
  · have hC1' := hC1.kept ((Below.refl w1.heap.size w1).alloc (Nat.le_refl _) (Obj.cells #[Value.string ⟨#[34, 34]⟩, Value.string ⟨#[34, 97, 34]⟩, Value.string ⟨#[34, 98, 32, 99, 34]⟩, Value.string ⟨#[34, 40, 44, 41, 34]⟩, Value.string ⟨#[34, 120, 34]⟩] 9))
    have hK1' := hK1.trans (Kept.of_alloc c w1 (Obj.cells #[Value.string ⟨#[34, 34]⟩, Value.string ⟨#[34, 97, 34]⟩, Value.string ⟨#[34, 98, 32, 99, 34]⟩, Value.string ⟨#[34, 40, 44, 41, 34]⟩, Value.string ⟨#[34, 120, 34]⟩] 9))
    go_wp2_with fail
    refine (pick_any 5 (by omega) (by omega) (by omega) _ hC1').mono ?_
    rintro e w2 ⟨r2, hr2, rfl, hC2, ho2⟩
    have hrow := (ho2 w1.heap.size (by omega)).trans (heap_alloc_new w1 _)
    have HK2 := Lib.hid (hK1'.trans (Kept.of_only hC2 ho2))
    obtain ⟨s, hz, hs⟩ := fiveS r2 hr2
    have hx : w2.cell? ⟨w1.heap.size, r2, none⟩ = some (.string s) := by rw [cell_of_row w2 _ _ _ _ _ hrow]; exact hz
    have HF := Lib.hid (sym_ans (N := N) (P := (3 * P + 2)) hs (C := (3 * C + 10)) (by omega) (hC2.more (by omega)) HK2.out)
    clear hC hC1 hC2 hC1' ho2 hrow hz hK1 hK1' hs
    go_wp2
    go_ret
    exact HF.out
  · have hC1' := hC1.kept ((Below.refl w1.heap.size w1).alloc (Nat.le_refl _) (Obj.cells #[Value.string ⟨#[78, 105, 108]⟩, Value.string ⟨#[76, 101, 97, 102]⟩, Value.string ⟨#[65]⟩, Value.string ⟨#[90, 101, 114, 111]⟩] 9))
    have hK1' := hK1.trans (Kept.of_alloc c w1 (Obj.cells #[Value.string ⟨#[78, 105, 108]⟩, Value.string ⟨#[76, 101, 97, 102]⟩, Value.string ⟨#[65]⟩, Value.string ⟨#[90, 101, 114, 111]⟩] 9))
    go_wp2_with fail
    refine (pick_any 4 (by omega) (by omega) (by omega) _ hC1').mono ?_
    rintro e w2 ⟨r2, hr2, rfl, hC2, ho2⟩
    have hrow := (ho2 w1.heap.size (by omega)).trans (heap_alloc_new w1 _)
    have HK2 := Lib.hid (hK1'.trans (Kept.of_only hC2 ho2))
    obtain ⟨s, hz, hs, hs8⟩ := fourC r2 hr2
    have hx : w2.cell? ⟨w1.heap.size, r2, none⟩ = some (.string s) := by rw [cell_of_row w2 _ _ _ _ _ hrow]; exact hz
    have HF := Lib.hid (nul_ans (N := N) (P := (3 * P + 2)) hs hs8 (C := (3 * C + 10)) (by omega) (hC2.more (by omega)) HK2.out)
    clear hC hC1 hC2 hC1' ho2 hrow hz hK1 hK1' hs
    go_wp2
    go_ret
    exact HF.out
  · go_wp2_with fail
    refine (IH.out w0 c a len cap (N + 1) w1 (by omega) hC1).mono ?_
    rintro e w2 ⟨s2, t2, rfl, hs2, hn2, hz2, hC2, hk2⟩
    have hK2 := hK1.trans hk2
    have HS2 := Lib.hid hs2
    have HN2 := Lib.hid hn2
    clear hs2 hn2 hk2
    go_wp2_with fail
    refine (IH.out w0 c a len cap (N + 1 + P) w2 (by omega) hC2).mono ?_
    rintro e w3 ⟨s3, t3, rfl, hs3, hn3, hz3, hC3, hk3⟩
    have hK3 := hK2.trans hk3
    have HS3 := Lib.hid hs3
    have HN3 := Lib.hid hn3
    clear hs3 hn3 hk3
    have HF : DrawAns w0 c a len cap N (3 * C + 10) (3 * P + 2) w (.returned (.string (⟨#[67, 111, 110, 115, 40]⟩ ++ s2 ++ ⟨#[44]⟩ ++ s3 ++ ⟨#[41]⟩))) w3 := by
      refine ⟨_, .con [67, 111, 110, 115] [t2, t3], rfl, ?_, .con _ _ (by decide) ?_, ?_, hC3.more (by omega), hK3⟩
      · simp only [lst_app, Tm.text, argText, moreText, HS2.out, HS3.out]
        simp [lst]
      · intro x hx
        simp only [List.mem_cons, List.not_mem_nil, or_false] at hx
        rcases hx with rfl | rfl
        · exact HN2.out
        · exact HN3.out
      · simp only [ByteArray.size_append]
        have e1 : (⟨#[67, 111, 110, 115, 40]⟩ : ByteArray).size = 5 := rfl
        have e2 : (⟨#[41]⟩ : ByteArray).size = 1 := rfl
        have e3 : (⟨#[44]⟩ : ByteArray).size = 1 := rfl
        omega
    have HFF := Lib.hid HF
    clear HF hC1 hK1 hC2 hK2 hC3 hK3
    go_wp2
    go_ret
    exact HFF.out
  · go_wp2_with fail
    refine (IH.out w0 c a len cap (N + 1) w1 (by omega) hC1).mono ?_
    rintro e w2 ⟨s2, t2, rfl, hs2, hn2, hz2, hC2, hk2⟩
    have hK2 := hK1.trans hk2
    have HS2 := Lib.hid hs2
    have HN2 := Lib.hid hn2
    clear hs2 hn2 hk2
    go_wp2_with fail
    refine (IH.out w0 c a len cap (N + 1 + P) w2 (by omega) hC2).mono ?_
    rintro e w3 ⟨s3, t3, rfl, hs3, hn3, hz3, hC3, hk3⟩
    have hK3 := hK2.trans hk3
    have HS3 := Lib.hid hs3
    have HN3 := Lib.hid hn3
    clear hs3 hn3 hk3
    have HF : DrawAns w0 c a len cap N (3 * C + 10) (3 * P + 2) w (.returned (.string (⟨#[67, 111, 110, 115, 40]⟩ ++ s2 ++ ⟨#[44]⟩ ++ s3 ++ ⟨#[41]⟩))) w3 := by
      refine ⟨_, .con [67, 111, 110, 115] [t2, t3], rfl, ?_, .con _ _ (by decide) ?_, ?_, hC3.more (by omega), hK3⟩
      · simp only [lst_app, Tm.text, argText, moreText, HS2.out, HS3.out]
        simp [lst]
      · intro x hx
        simp only [List.mem_cons, List.not_mem_nil, or_false] at hx
        rcases hx with rfl | rfl
        · exact HN2.out
        · exact HN3.out
      · simp only [ByteArray.size_append]
        have e1 : (⟨#[67, 111, 110, 115, 40]⟩ : ByteArray).size = 5 := rfl
        have e2 : (⟨#[41]⟩ : ByteArray).size = 1 := rfl
        have e3 : (⟨#[44]⟩ : ByteArray).size = 1 := rfl
        omega
    have HFF := Lib.hid HF
    clear HF hC1 hK1 hC2 hK2 hC3 hK3
    go_wp2
    go_ret
    exact HFF.out
  · go_wp2_with fail
    refine (IH.out w0 c a len cap (N + 1) w1 (by omega) hC1).mono ?_
    rintro e w2 ⟨s2, t2, rfl, hs2, hn2, hz2, hC2, hk2⟩
    have hK2 := hK1.trans hk2
    have HS2 := Lib.hid hs2
    have HN2 := Lib.hid hn2
    clear hs2 hn2 hk2
    have HF : DrawAns w0 c a len cap N (3 * C + 10) (3 * P + 2) w (.returned (.string (⟨#[83, 40]⟩ ++ s2 ++ ⟨#[41]⟩))) w2 := by
      refine ⟨_, .con [83] [t2], rfl, ?_, .con _ _ (by decide) ?_, ?_, hC2.more (by omega), hK2⟩
      · simp only [lst_app, Tm.text, argText, moreText, HS2.out]
        simp [lst]
      · intro x hx
        simp only [List.mem_cons, List.not_mem_nil, or_false] at hx
        subst hx
        exact HN2.out
      · simp only [ByteArray.size_append]
        have e1 : (⟨#[83, 40]⟩ : ByteArray).size = 2 := rfl
        have e2 : (⟨#[41]⟩ : ByteArray).size = 1 := rfl
        have e3 : (⟨#[44]⟩ : ByteArray).size = 1 := rfl
        omega
    have HFF := Lib.hid HF
    clear HF hC1 hK1 hC2 hK2
    go_wp2
    go_ret
    exact HFF.out
  · go_wp2_with fail
    refine (IH.out w0 c a len cap (N + 1) w1 (by omega) hC1).mono ?_
    rintro e w2 ⟨s2, t2, rfl, hs2, hn2, hz2, hC2, hk2⟩
    have hK2 := hK1.trans hk2
    have HS2 := Lib.hid hs2
    have HN2 := Lib.hid hn2
    clear hs2 hn2 hk2
    go_wp2_with fail
    refine (IH.out w0 c a len cap (N + 1 + P) w2 (by omega) hC2).mono ?_
    rintro e w3 ⟨s3, t3, rfl, hs3, hn3, hz3, hC3, hk3⟩
    have hK3 := hK2.trans hk3
    have HS3 := Lib.hid hs3
    have HN3 := Lib.hid hn3
    clear hs3 hn3 hk3
    go_wp2_with fail
    refine (IH.out w0 c a len cap (N + 1 + P + P) w3 (by omega) hC3).mono ?_
    rintro e w4 ⟨s4, t4, rfl, hs4, hn4, hz4, hC4, hk4⟩
    have hK4 := hK3.trans hk4
    have HS4 := Lib.hid hs4
    have HN4 := Lib.hid hn4
    clear hs4 hn4 hk4
    have HF : DrawAns w0 c a len cap N (3 * C + 10) (3 * P + 2) w (.returned (.string (⟨#[78, 111, 100, 101, 40]⟩ ++ s2 ++ ⟨#[44]⟩ ++ s3 ++ ⟨#[44]⟩ ++ s4 ++ ⟨#[41]⟩))) w4 := by
      refine ⟨_, .con [78, 111, 100, 101] [t2, t3, t4], rfl, ?_, .con _ _ (by decide) ?_, ?_, hC4.more (by omega), hK4⟩
      · simp only [lst_app, Tm.text, argText, moreText, HS2.out, HS3.out, HS4.out]
        simp [lst]
      · intro x hx
        simp only [List.mem_cons, List.not_mem_nil, or_false] at hx
        rcases hx with rfl | rfl | rfl
        · exact HN2.out
        · exact HN3.out
        · exact HN4.out
      · simp only [ByteArray.size_append]
        have e1 : (⟨#[78, 111, 100, 101, 40]⟩ : ByteArray).size = 5 := rfl
        have e2 : (⟨#[41]⟩ : ByteArray).size = 1 := rfl
        have e3 : (⟨#[44]⟩ : ByteArray).size = 1 := rfl
        omega
    have HFF := Lib.hid HF
    clear HF hC1 hK1 hC2 hK2 hC3 hK3 hC4 hK4
    go_wp2
    go_ret
    exact HFF.out

theorem term1 (M : Nat) (hM : M ≤ 80000) : DrawSaid 1 34 8 M := term_deep 1 (by omega) (by omega) 8 2 M hM (by omega) (by omega) (by omega) (term_flat _ (by omega))
theorem term2 (M : Nat) (hM : M ≤ 70000) : DrawSaid 2 112 26 M := term_deep 2 (by omega) (by omega) 34 8 M (by omega) (by omega) (by omega) (by omega) (term1 _ (by omega))

end Go.Proofs.YtkhliflgflhheaaDoor
