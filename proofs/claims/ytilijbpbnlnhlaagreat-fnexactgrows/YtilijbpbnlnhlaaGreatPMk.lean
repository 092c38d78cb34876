/-
  THE LAWS' OWN MARKING: of a text, of a list of texts (and its looking again), of a rule.
-/
import Derived.Test.YtilijbpbnlnhlaaGreatPTq
namespace Go.Proofs.YtilijbpbnlnhlaaGreat.Pr
open Go Go.RowKit Go.Maps Go.WideMaps

abbrev lst (s : ByteArray) : List UInt8 := s.data.toList
theorem lst_inj {a b : ByteArray} (h : lst a = lst b) : a = b := by
  cases a; cases b
  simp only [lst] at h
  congr 1
  exact Array.toList_inj.1 h

/-- The digits of k, ahead of those that are there. -/
def digs : Nat → Nat → List UInt8 → List UInt8
  | 0, _, acc => acc
  | f + 1, k, acc => if k = 0 then acc else digs f (k / 10) (UInt8.ofNat (48 + k % 10) :: acc)
def markOf (k : Nat) : List UInt8 := 109 :: digs k k []
theorem digs_zero (f : Nat) (acc : List UInt8) : digs f 0 acc = acc := by
  cases f with
  | zero => rw [digs]
  | succ f => rw [digs, if_pos rfl]
theorem digs_step {f k : Nat} (acc : List UInt8) (h : 0 < k) (hf : k ≤ f) : ∃ f', k / 10 ≤ f' ∧ digs f k acc = digs f' (k / 10) (UInt8.ofNat (48 + k % 10) :: acc) := by
  cases f with
  | zero => omega
  | succ f => exact ⟨f, by omega, by rw [digs, if_neg (by omega)]⟩

def MkTRel (w : World) (k : Nat) (v0 v3 : Value) (wr : World) : Prop :=
  ∃ (f k' : Nat) (s : ByteArray), Below w.heap.size w wr ∧ v0 = .int .i64 (k' : Int) ∧ v3 = .string s ∧ k' ≤ f ∧ s.size + k' ≤ k ∧ digs f k' (lst s) = digs k k []

set_option maxRecDepth 100000 in
set_option maxHeartbeats 1000000 in
theorem markText_any (k : Nat) (hk : 1 ≤ k) (hk2 : k ≤ 4611686018427387904) (w : World) :
    Calls Tryz.prog 37 #[.int .i64 (k : Int)] w fun e w' => (∃ s : ByteArray, e = .returned (.string s) ∧ lst s = markOf k) ∧ Below w.heap.size w w' := by
  have hle : decide ((k : Int) ≤ 0) = false := decide_eq_false (by omega)
  go_enter Tryz.func37, Tryz.ntmps37
  go_wp2
  go_loopw [0, 3] (fun v0 v3 wr => MkTRel w k v0 v3 wr) (fun v0 _ _ => (intOf v0).toNat)
  case atStart => exact ⟨k, k, ⟨#[]⟩, Below.refl _ _, rfl, rfl, by omega, Nat.le_of_eq (Nat.zero_add k), rfl⟩
  case round =>
    obtain ⟨f, k', s, hb, rfl, rfl, hkf, hsz, hd⟩ := hrel
    by_cases h0 : 0 < k'
    · have hgt : decide ((0 : Int) < (k' : Int)) = true := decide_eq_true (by omega)
      obtain ⟨f', hf', hd'⟩ := digs_step (lst s) h0 hkf
      have hcv : (convert 90 9 (.slice (some ⟨wr.heap.size, 0, none⟩) 1 1)).run Tryz.prog (wr.alloc (.cells #[.int .u8 (48 + (k' : Int) % 10)] 5)) = .ok (.string ⟨#[UInt8.ofNat (48 + k' % 10)]⟩) (wr.alloc (.cells #[.int .u8 (48 + (k' : Int) % 10)] 5)) :=
        run_convert_bytes_back _ 90 9 5 ⟨wr.heap.size, 0, none⟩ 1 [UInt8.ofNat (48 + k' % 10)] Tryz.underlying90 Tryz.underlying5 Tryz.underlying9
          (fun j hj => by
            obtain rfl : j = 0 := by simpa using hj
            have e : ((UInt8.ofNat (48 + k' % 10)).toNat : Int) = 48 + (k' : Int) % 10 := by
              rw [UInt8.toNat_ofNat_of_lt' (by show 48 + k' % 10 < 256; omega)]
              omega
            rw [show ((⟨wr.heap.size, 0, none⟩ : Addr).add 0) = ⟨wr.heap.size, 0, none⟩ from rfl, cell_of_row _ _ _ _ _ _ (heap_alloc_new wr _)]
            simp
            omega)
      have HR := Lib.hid (show MkTRel w k (.int .i64 ((k' : Int) / 10)) (.string (⟨#[UInt8.ofNat (48 + k' % 10)]⟩ ++ s)) (wr.alloc (.cells #[.int .u8 (48 + (k' : Int) % 10)] 5)) from
        ⟨f', k' / 10, _, hb.alloc hb.size _, by rw [Int.natCast_ediv]; rfl, rfl, hf', by
          rw [ByteArray.size_append]
          show 1 + s.size + k' / 10 ≤ k
          omega, by
          rw [← hd, hd']
          congr 1⟩)
      have hq : k' / 10 < k' := by omega
      have hss : s.size ≤ 4611686018427387904 := by omega
      have hk1 : k' ≤ 4611686018427387904 := by omega
      clear hd hd' hb hkf hf' hsz
      generalize UInt8.ofNat (48 + k' % 10) = d at *
      go_wp2
      go_roundw
      case rel => exact HR.out
      case measure => simp [intOf]; omega
    · obtain rfl : k' = 0 := by omega
      rw [digs_zero] at hd
      have HD := Lib.hid hd
      have hss : s.size ≤ 4611686018427387904 := by omega
      clear hd hkf hsz
      go_wp2
      go_ret
      refine ⟨⟨_, rfl, ?_⟩, hb⟩
      have hz : ∀ a b : ByteArray, lst (a ++ b) = lst a ++ lst b := fun a b => by simp [lst]
      rw [hz, HD.out]
      rfl

def MarksOk (ms : List ByteArray) : Prop := ∀ j (h : j < ms.length), lst ms[j] = markOf (1 + j)

def MkSRel (w : World) (B : Nat) (v : Value) (xs : List ByteArray) (v1 v5 : Value) (wr : World) : Prop :=
  ∃ (i : Nat) (ms : List ByteArray), v5 = .int .i64 (i : Int) ∧ v1 = .int .i64 (1 + (i : Int)) ∧ i ≤ xs.length ∧ ms.length = i ∧ MarksOk ms ∧ wr.ownsRow B 9 1 v xs.length (txtCells (ms ++ xs.drop i)) ∧ Below B w wr

set_option maxRecDepth 100000 in
set_option maxHeartbeats 1000000 in
theorem markStringS_any (xs : List ByteArray) (B : Nat) (v : Value) (w : World) (hB : B ≤ w.heap.size) (hown : w.ownsRow B 9 1 v xs.length (txtCells xs)) (hn : xs.length ≤ 200) :
    Calls Tryz.prog 13 #[v, .int .i64 1] w fun e w' => e = .returned (.int .i64 (1 + (xs.length : Int))) ∧ (∃ ms : List ByteArray, ms.length = xs.length ∧ MarksOk ms ∧ w'.ownsRow B 9 1 v ms.length (txtCells ms)) ∧ Below B w w' := by
  obtain ⟨av, cv, rfl⟩ := owns_shape hown
  have HO := Lib.hid hown
  clear hown
  go_enter Tryz.func13, Tryz.ntmps13
  go_wp2
  go_loopw [1, 5] (fun v1 v5 wr => MkSRel w B (.slice av xs.length cv) xs v1 v5 wr) (fun _ v5 _ => (xs.length - (intOf v5).toNat))
  case atStart => exact ⟨0, [], rfl, rfl, Nat.zero_le _, rfl, fun j h => by simp at h, HO.out, Below.refl _ _⟩
  case round =>
    obtain ⟨i, ms, rfl, rfl, hi, hml, hmk, hown, hb⟩ := hrel
    have HML := Lib.hid hml
    have HMK := Lib.hid hmk
    have hBs : B ≤ wr.heap.size := Nat.le_trans hB hb.size
    clear hml hmk
    by_cases hlt : i < xs.length
    · obtain ⟨g, cap, hgv, hbg, hgl⟩ := hown.form (by omega)
      simp only [Value.slice.injEq, true_and] at hgv
      obtain ⟨rfl, rfl⟩ := hgv
      have Z : ∀ (w3 : World) (m : ByteArray), lst m = markOf (1 + i) → Below wr.heap.size wr w3 → (∃ u, w3.cell? ⟨g, i, none⟩ = some u) ∧ w3.frozen? ⟨g, i, none⟩ = false ∧ MkSRel w B (.slice (some ⟨g, 0, none⟩) xs.length cv) xs (.int .i64 (1 + (i : Int) + 1)) (.int .i64 ((i : Int) + 1)) (w3.setCell ⟨g, i, none⟩ (.string m)) := fun w3 m hm hb3 => by
        have ho3 := row_kept hown hb3
        have hos := owns_set ho3 hlt (.string m)
        have hcl : (txtCells (ms ++ xs.drop i)).set i (.string m) = txtCells ((ms ++ [m]) ++ xs.drop (i + 1)) := by
          have e1 : xs.drop i = xs[i] :: xs.drop (i + 1) := List.drop_eq_getElem_cons hlt
          have e2 : (txtCells ms).length = i := by simp [txtCells, HML.out]
          rw [e1]
          simp only [txtCells, List.map_append, List.map_cons] at e2 ⊢
          rw [List.set_append_right _ _ (by omega), e2]
          simp
        rw [hcl] at hos
        refine ⟨⟨_, ho3.cellAt i (by omega) |>.trans (List.getElem?_eq_getElem (by simp [txtCells, HML.out]; omega))⟩, ?_, i + 1, ms ++ [m], by go_num, by congr 1, by omega, by rw [List.length_append, HML.out]; rfl, ?_, hos, ?_⟩
        · rcases ho3.2 with ⟨h', _⟩ | ⟨g', cap', cur, hv', _, hh', _⟩
          · cases h'
          · simp only [Value.slice.injEq, Option.some.injEq, Addr.mk.injEq, true_and, and_true] at hv'
            obtain ⟨rfl, rfl⟩ := hv'
            simp [World.frozen?, hh']
        · intro j hj
          by_cases hjm : j < ms.length
          · rw [List.getElem_append_left hjm]
            exact HMK.out j hjm
          · have hji : j = i := by rw [List.length_append] at hj; simp at hj; have := HML.out; omega
            subst hji
            rw [List.getElem_append_right (by omega)]
            simp [hm]
        · exact (hb.trans (hb3.mono hBs)).setCell (p := ⟨g, i, none⟩) hbg _
      have HZ := Lib.hid Z
      clear Z hown hb
      have HMT := Lib.hid (fun W => markText_any (1 + i) (by omega) (by omega) W)
      have ecast : (((1 + i : Nat)) : Int) = 1 + (i : Int) := by omega
      rw [ecast] at HMT
      clear ecast
      go_wp2_with fail
      refine (HMT.out _).mono ?_
      rintro e w3 ⟨⟨m, rfl, hm⟩, hb3⟩
      obtain ⟨⟨u, hu⟩, hfz, hr⟩ := HZ.out w3 m hm hb3
      have HR := Lib.hid hr
      clear HZ hb3 hr hm HMT
      go_wp2
      go_roundw
      case rel => exact HR.out
      case measure => simp [intOf]; omega
    · obtain rfl : i = xs.length := by omega
      rw [List.drop_length, List.append_nil] at hown
      have HOW := Lib.hid hown
      clear hown
      go_wp2
      go_ret
      exact ⟨rfl, ⟨ms, HML.out, HMK.out, by rw [HML.out]; exact HOW.out⟩, hb⟩

def HdSRel (w : World) (n : Nat) (v1 v5 : Value) (wr : World) : Prop := ∃ i : Nat, Below w.heap.size w wr ∧ v1 = .int .i64 (1 + (i : Int)) ∧ v5 = .int .i64 (i : Int) ∧ i ≤ n

set_option maxRecDepth 100000 in
set_option maxHeartbeats 1000000 in
theorem heldStringS_any (ms : List ByteArray) (B : Nat) (v : Value) (w : World) (hown : w.ownsRow B 9 1 v ms.length (txtCells ms)) (hm : MarksOk ms) (hn : ms.length ≤ 200) :
    Calls Tryz.prog 14 #[v, .int .i64 1] w fun e w' => e = .returned (.int .i64 (1 + (ms.length : Int))) ∧ Below w.heap.size w w' := by
  obtain ⟨av, cv, rfl⟩ := owns_shape hown
  have HO := Lib.hid hown
  have HM := Lib.hid hm
  clear hown hm
  go_enter Tryz.func14, Tryz.ntmps14
  go_wp2
  go_loopw [1, 5] (fun v1 v5 wr => HdSRel w ms.length v1 v5 wr) (fun _ v5 _ => (ms.length - (intOf v5).toNat))
  case atStart => exact ⟨0, Below.refl _ _, rfl, rfl, Nat.zero_le _⟩
  case round =>
    obtain ⟨i, hb, rfl, rfl, hi⟩ := hrel
    by_cases hlt : i < ms.length
    · have hown := row_kept HO.out hb
      obtain ⟨g, cap, hgv, hbg, hgl⟩ := hown.form (by omega)
      simp only [Value.slice.injEq, true_and] at hgv
      obtain ⟨rfl, rfl⟩ := hgv
      have hx : wr.cell? ⟨g, i, none⟩ = some (.string ms[i]) := by
        rw [hown.cellAt i (by omega)]
        simp [txtCells, hlt]
      have HX := Lib.hid (HM.out i hlt)
      have hB0 : Below wr.heap.size wr wr := Below.refl _ _
      have HR := Lib.hid (fun (w3 : World) (h : Below wr.heap.size wr w3) => (⟨i + 1, hb.trans (h.mono hb.size), by congr 1, by go_num, by omega⟩ : HdSRel w ms.length (.int .i64 (1 + (i : Int) + 1)) (.int .i64 ((i : Int) + 1)) w3))
      have HMT := Lib.hid (fun W => markText_any (1 + i) (by omega) (by omega) W)
      have ecast : (((1 + i : Nat)) : Int) = 1 + (i : Int) := by omega
      rw [ecast] at HMT
      clear hown ecast
      generalize ms[i] = x at *
      go_wp2
      go_region_held3 (fun w' => w'.cell? ⟨g, i, none⟩ = some (.string x) ∧ Below wr.heap.size wr w') (first | exact ⟨by assumption, by assumption⟩ | (refine ⟨?_, ?_⟩ <;> first | assumption | (simp [*]; done) | (apply Below.drew; assumption)))
        (first
          | (go_at_call 37
             refine (HMT.out _).mono ?_
             rintro e w3 ⟨⟨m, rfl, hm⟩, hb3⟩
             have hs1 : Below wr.heap.size wr w3 := hB0.drew.trans hb3
             have hs2 : w3.cell? ⟨g, i, none⟩ = some (.string x) := (hb3.cell hgl).trans hx
             obtain rfl : x = m := lst_inj (by rw [HX.out, hm])
             clear hm hb3))
      have hxx : (x.toList != x.toList) = false := by simp
      go_wp2
      go_roundw
      case rel => exact HR.out _ (by assumption)
      case measure => simp [intOf]; omega
    · obtain rfl : i = ms.length := by omega
      go_wp2
      go_ret
      exact ⟨rfl, hb⟩

/-! ### Marking leaves the kinds of cells as they are -/

/-- From w to w' only cells of S were written: numbers with numbers, texts with texts; and new memory came. -/
structure Mkd (S : Nat → Prop) (w w' : World) : Prop where
  os : w'.os = w.os
  tape : w'.tape = w.tape
  output : w'.output = w.output
  size : w.heap.size ≤ w'.heap.size
  block : ∀ b, b < w.heap.size → ¬ S b → w'.heap[b]? = w.heap[b]?
  slice : ∀ b o a n c, S b → w.cell? ⟨b, o, none⟩ = some (.slice a n c) → w'.cell? ⟨b, o, none⟩ = some (.slice a n c)
  int : ∀ b o x, S b → w.cell? ⟨b, o, none⟩ = some (.int .i64 x) → ∃ y, w'.cell? ⟨b, o, none⟩ = some (.int .i64 y)
  str : ∀ b o x, S b → w.cell? ⟨b, o, none⟩ = some (.string x) → ∃ y, w'.cell? ⟨b, o, none⟩ = some (.string y)
  frozen : ∀ b o, S b → w.frozen? ⟨b, o, none⟩ = false → w'.frozen? ⟨b, o, none⟩ = false
theorem Mkd.refl (S : Nat → Prop) (w : World) : Mkd S w w := ⟨rfl, rfl, rfl, Nat.le_refl _, fun _ _ _ => rfl, fun _ _ _ _ _ _ h => h, fun _ _ x _ h => ⟨x, h⟩, fun _ _ x _ h => ⟨x, h⟩, fun _ _ _ h => h⟩
theorem Mkd.trans {S : Nat → Prop} {a b c : World} (h : Mkd S a b) (g : Mkd S b c) : Mkd S a c := by
  refine ⟨g.os.trans h.os, g.tape.trans h.tape, g.output.trans h.output, Nat.le_trans h.size g.size, fun k hk hs => ?_, fun k o x n d hs hc => g.slice k o x n d hs (h.slice k o x n d hs hc), fun k o x hs hc => ?_, fun k o x hs hc => ?_, fun k o hs hf => g.frozen k o hs (h.frozen k o hs hf)⟩
  · rw [g.block k (Nat.lt_of_lt_of_le hk h.size) hs, h.block k hk hs]
  · obtain ⟨y, hy⟩ := h.int k o x hs hc
    exact g.int k o y hs hy
  · obtain ⟨y, hy⟩ := h.str k o x hs hc
    exact g.str k o y hs hy
theorem Mkd.below {S : Nat → Prop} {w w' : World} (hS : ∀ b, S b → b < w.heap.size) (h : Below w.heap.size w w') : Mkd S w w' := by
  have hc : ∀ b o, S b → w'.cell? ⟨b, o, none⟩ = w.cell? ⟨b, o, none⟩ := fun b o hb => h.cell (p := ⟨b, o, none⟩) (hS b hb)
  refine ⟨h.os, h.tape, h.output, h.size, fun b hb _ => h.block b hb, fun b o a n c hs h1 => (hc b o hs).trans h1, fun b o x hs h1 => ⟨x, (hc b o hs).trans h1⟩, fun b o x hs h1 => ⟨x, (hc b o hs).trans h1⟩, fun b o hs hf => ?_⟩
  unfold World.frozen? at hf ⊢
  rw [show (⟨b, o, none⟩ : Addr).block = b from rfl, h.block b (hS b hs)]
  exact hf
theorem Mkd.setInt {S : Nat → Prop} {w : World} {g o : Nat} {x : Int} (hg : S g) (hc : w.cell? ⟨g, o, none⟩ = some (.int .i64 x)) (y : Int) : Mkd S w (w.setCell ⟨g, o, none⟩ (.int .i64 y)) := by
  have hsame := World.cell?_setCell_same w ⟨g, o, none⟩ (.int .i64 y) hc
  have hoth : ∀ b p, (⟨g, o, none⟩ : Addr) ≠ ⟨b, p, none⟩ → (w.setCell ⟨g, o, none⟩ (.int .i64 y)).cell? ⟨b, p, none⟩ = w.cell? ⟨b, p, none⟩ := fun b p h => World.cell?_setCell_other w _ _ _ h
  have hG := grown_set w g o (.int .i64 y)
  refine ⟨hG.os, hG.tape, hG.output, hG.size, fun b hb hs => hG.block b hb (fun e => hs (by cases e; exact hg)), fun b p a n c _ h1 => ?_, fun b p z _ h1 => ?_, fun b p z _ h1 => ?_, fun b p _ hf => by rw [World.frozen?_setCell]; exact hf⟩
  · by_cases e : (⟨g, o, none⟩ : Addr) = ⟨b, p, none⟩
    · rw [← e] at h1; rw [hc] at h1; cases h1
    · rw [hoth b p e]; exact h1
  · by_cases e : (⟨g, o, none⟩ : Addr) = ⟨b, p, none⟩
    · rw [← e]; exact ⟨y, hsame⟩
    · rw [hoth b p e]; exact ⟨z, h1⟩
  · by_cases e : (⟨g, o, none⟩ : Addr) = ⟨b, p, none⟩
    · rw [← e] at h1; rw [hc] at h1; cases h1
    · rw [hoth b p e]; exact ⟨z, h1⟩
theorem Mkd.setStr {S : Nat → Prop} {w : World} {g o : Nat} {x : ByteArray} (hg : S g) (hc : w.cell? ⟨g, o, none⟩ = some (.string x)) (y : ByteArray) : Mkd S w (w.setCell ⟨g, o, none⟩ (.string y)) := by
  have hsame := World.cell?_setCell_same w ⟨g, o, none⟩ (.string y) hc
  have hoth : ∀ b p, (⟨g, o, none⟩ : Addr) ≠ ⟨b, p, none⟩ → (w.setCell ⟨g, o, none⟩ (.string y)).cell? ⟨b, p, none⟩ = w.cell? ⟨b, p, none⟩ := fun b p h => World.cell?_setCell_other w _ _ _ h
  have hG := grown_set w g o (.string y)
  refine ⟨hG.os, hG.tape, hG.output, hG.size, fun b hb hs => hG.block b hb (fun e => hs (by cases e; exact hg)), fun b p a n c _ h1 => ?_, fun b p z _ h1 => ?_, fun b p z _ h1 => ?_, fun b p _ hf => by rw [World.frozen?_setCell]; exact hf⟩
  · by_cases e : (⟨g, o, none⟩ : Addr) = ⟨b, p, none⟩
    · rw [← e] at h1; rw [hc] at h1; cases h1
    · rw [hoth b p e]; exact h1
  · by_cases e : (⟨g, o, none⟩ : Addr) = ⟨b, p, none⟩
    · rw [← e] at h1; rw [hc] at h1; cases h1
    · rw [hoth b p e]; exact ⟨z, h1⟩
  · by_cases e : (⟨g, o, none⟩ : Addr) = ⟨b, p, none⟩
    · rw [← e]; exact ⟨y, hsame⟩
    · rw [hoth b p e]; exact ⟨z, h1⟩
theorem Mkd.toBelow {S : Nat → Prop} {w w' : World} {B : Nat} (h : Mkd S w w') (hB : B ≤ w.heap.size) (hS : ∀ b, S b → B ≤ b) : Below B w w' := ⟨h.os, h.tape, h.output, h.size, fun b hb => h.block b (by omega) (fun hs => by have := hS b hs; omega)⟩

/-- n numbers lie there. -/
def IntSh (S : Nat → Prop) (w : World) (a : Option Addr) (n : Nat) : Prop := ∀ i, i < n → ∃ (b off : Nat) (x : Int), a = some ⟨b, off, none⟩ ∧ S b ∧ w.cell? ⟨b, off + i, none⟩ = some (.int .i64 x)
theorem IntsIn.sh {S : Nat → Prop} {w : World} {a : Option Addr} {xs : List Int} (h : IntsIn S w a xs) : IntSh S w a xs.length := by
  intro i hi
  obtain ⟨b, off, h1, h2, h3⟩ := h i hi
  exact ⟨b, off, _, h1, h2, h3⟩
theorem IntSh.kept {S : Nat → Prop} {w w' : World} {a : Option Addr} {n : Nat} (h : IntSh S w a n) (m : Mkd S w w') : IntSh S w' a n := by
  intro i hi
  obtain ⟨b, off, x, h1, h2, h3⟩ := h i hi
  obtain ⟨y, hy⟩ := m.int _ _ _ h2 h3
  exact ⟨b, off, y, h1, h2, hy⟩
/-- n exps (or literals) lie there. -/
def ItSh (S : Nat → Prop) (w : World) (a : Option Addr) (n : Nat) : Prop := ∀ i, i < n → ∃ (b off : Nat) (x : Int) (s : ByteArray) (ka : Option Addr) (m kc : Nat), a = some ⟨b, off, none⟩ ∧ S b ∧ w.cell? ⟨b, off + i * 3, none⟩ = some (.int .i64 x) ∧ w.cell? ⟨b, off + i * 3 + 1, none⟩ = some (.string s) ∧ w.cell? ⟨b, off + i * 3 + 2, none⟩ = some (.slice ka m kc) ∧ m ≤ 2097152 ∧ IntSh S w ka m
theorem RowIn.sh {S : Nat → Prop} {w : World} {a : Option Addr} {l : List It} (h : RowIn FIt 3 S w a l) (hl : ∀ x ∈ l, x.xs.length ≤ 2097152) : ItSh S w a l.length := by
  intro i hi
  obtain ⟨b, off, vs, h1, h2, h3, h4, axs, cxs, rfl, h6⟩ := h i hi
  exact ⟨b, off, _, _, axs, _, cxs, h1, h2, h4 0 (by simp), h4 1 (by simp), h4 2 (by simp), hl _ (List.getElem_mem hi), h6.sh⟩
theorem ItSh.kept {S : Nat → Prop} {w w' : World} {a : Option Addr} {n : Nat} (h : ItSh S w a n) (m : Mkd S w w') : ItSh S w' a n := by
  intro i hi
  obtain ⟨b, off, x, s, ka, q, kc, h1, h2, h3, h4, h5, h6, h7⟩ := h i hi
  obtain ⟨y, hy⟩ := m.int _ _ _ h2 h3
  obtain ⟨t, ht⟩ := m.str _ _ _ h2 h4
  exact ⟨b, off, y, t, ka, q, kc, h1, h2, hy, ht, m.slice _ _ _ _ _ h2 h5, h6, h7.kept m⟩

def MkIRel (S : Nat → Prop) (w : World) (n : Nat) (k : Int) (v1 v5 : Value) (wr : World) : Prop := ∃ (i : Nat) (z : Int), v5 = .int .i64 (i : Int) ∧ v1 = .int .i64 z ∧ z = k + i ∧ i ≤ n ∧ Mkd S w wr

set_option maxRecDepth 100000 in
set_option maxHeartbeats 2000000 in
theorem markIntS_any (a : Option Addr) (cap n : Nat) (S : Nat → Prop) (w : World) (h : IntSh S w a n) (hz : ∀ b o, S b → w.frozen? ⟨b, o, none⟩ = false) (k : Int) (hk0 : 0 ≤ k) (hk : k ≤ 1125899906842624) (hn : n ≤ 2097152) :
    Calls Tryz.prog 60 #[.slice a n cap, .int .i64 k] w fun e w' => (∃ z : Int, e = .returned (.int .i64 z) ∧ k ≤ z ∧ z ≤ k + 2097152) ∧ Mkd S w w' := by
  have HI := Lib.hid h
  have HF := Lib.hid hz
  clear h hz
  go_enter Tryz.func60, Tryz.ntmps60
  go_wp2
  go_loopw [1, 5] (fun v1 v5 wr => MkIRel S w n k v1 v5 wr) (fun _ v5 _ => (n - (intOf v5).toNat))
  case atStart => exact ⟨0, k, rfl, rfl, by omega, Nat.zero_le _, Mkd.refl _ _⟩
  case round =>
    obtain ⟨i, z, rfl, rfl, hzk, hi, hm⟩ := hrel
    by_cases hlt : i < n
    · obtain ⟨b, off, x, rfl, hb, hc⟩ := HI.out.kept hm i hlt
      have hfz : wr.frozen? ⟨b, off + i, none⟩ = false := hm.frozen _ _ hb (HF.out _ _ hb)
      have hz1 : 0 ≤ z := by omega
      have hz2 : z ≤ 1125899908939776 := by omega
      have HR := Lib.hid (⟨i + 1, z + 1, by go_num, rfl, by omega, by omega, hm.trans (Mkd.setInt hb hc z)⟩ : MkIRel S w n k (.int .i64 (z + 1)) (.int .i64 ((i : Int) + 1)) (wr.setCell ⟨b, off + i, none⟩ (.int .i64 z)))
      clear hzk hm hb
      go_wp2
      go_roundw
      case rel => exact HR.out
      case measure => simp [intOf]; omega
    · obtain rfl : i = n := by omega
      have HM := Lib.hid hm
      have hlt2 : decide ((i : Int) < (i : Int)) = false := by simp
      clear hm
      go_wp2
      go_ret
      exact ⟨⟨z, rfl, by omega, by omega⟩, HM.out⟩

def MkExpRel (S : Nat → Prop) (w : World) (n : Nat) (k : Int) (v1 v5 : Value) (wr : World) : Prop := ∃ (i : Nat) (z : Int), v5 = .int .i64 (i : Int) ∧ v1 = .int .i64 z ∧ k ≤ z ∧ z ≤ k + 2097156 * i ∧ i ≤ n ∧ Mkd S w wr

set_option maxRecDepth 100000 in
set_option maxHeartbeats 2000000 in
theorem markExpS_any (a : Option Addr) (cap n : Nat) (S : Nat → Prop) (w : World) (h : ItSh S w a n) (hS : ∀ b, S b → b < w.heap.size) (hz : ∀ b o, S b → w.frozen? ⟨b, o, none⟩ = false) (k : Int) (hk0 : 0 ≤ k) (hk : k ≤ 70368744177664) (hn : n ≤ 2097152) :
    Calls Tryz.prog 34 #[.slice a n cap, .int .i64 k] w fun e w' => (∃ z : Int, e = .returned (.int .i64 z) ∧ k ≤ z ∧ z ≤ k + 4398054899712) ∧ Mkd S w w' := by
  have HI := Lib.hid h
  have HF := Lib.hid hz
  have HS := Lib.hid hS
  clear h hz hS
  go_enter Tryz.func34, Tryz.ntmps34
  go_wp2
  go_loopw [1, 5] (fun v1 v5 wr => MkExpRel S w n k v1 v5 wr) (fun _ v5 _ => (n - (intOf v5).toNat))
  case atStart => exact ⟨0, k, rfl, rfl, by omega, by omega, Nat.zero_le _, Mkd.refl _ _⟩
  case round =>
    obtain ⟨i, z, rfl, rfl, hz0, hzk, hi, hm⟩ := hrel
    by_cases hlt : i < n
    · obtain ⟨b, off, x, s, ka, q, kc, rfl, hb, hc0, hc1, hc2, hq, hki⟩ := HI.out.kept hm i hlt
      have hf0 : wr.frozen? ⟨b, off + i * 3, none⟩ = false := hm.frozen _ _ hb (HF.out _ _ hb)
      have hz1 : 0 ≤ z := by omega
      have hz2 : z ≤ 74766799077376 := by omega
      have HZB := Lib.hid (⟨hz0, hzk⟩ : k ≤ z ∧ z ≤ k + 2097156 * i)
      have hm1 := Mkd.setInt hb hc0 z
      have HM1 := Lib.hid hm1
      have HM := Lib.hid hm
      have HC1 := Lib.hid hc1
      have HC2 := Lib.hid hc2
      have HKI := Lib.hid hki
      have HBB := Lib.hid hb
      have HMT := Lib.hid (fun W => markText_any (z + 1).toNat (by omega) (by omega) W)
      rw [show (((z + 1).toNat : Nat) : Int) = z + 1 from by omega] at HMT
      clear hm hm1 hb hc1 hc2 hki hz0 hzk
      go_wp2_with fail
      refine (HMT.out _).mono ?_
      rintro e w3 ⟨⟨m, rfl, _⟩, hb3⟩
      have hS1 : ∀ b', S b' → b' < (wr.setCell ⟨b, off + i * 3, none⟩ (.int .i64 z)).heap.size := fun b' h' => Nat.lt_of_lt_of_le (HS.out b' h') (Nat.le_trans HM.out.size HM1.out.size)
      have hm3 := (HM.out.trans HM1.out).trans (Mkd.below hS1 hb3)
      have hm13 := HM1.out.trans (Mkd.below hS1 hb3)
      obtain ⟨s3, c3⟩ := hm13.str _ _ _ HBB.out HC1.out
      have f3 : w3.frozen? ⟨b, off + i * 3 + 1, none⟩ = false := hm3.frozen _ _ HBB.out (HF.out _ _ HBB.out)
      have hm4 := hm3.trans (Mkd.setStr HBB.out c3 m)
      have hm14 := hm13.trans (Mkd.setStr HBB.out c3 m)
      have c4 := hm14.slice _ _ _ _ _ HBB.out HC2.out
      have HMI := Lib.hid (markIntS_any ka kc q S _ (HKI.out.kept hm14) (fun b' o' h' => hm4.frozen _ _ h' (HF.out _ _ h')) (z + 1 + 1) (by omega) (by omega) hq)
      have HM4 := Lib.hid hm4
      clear hm3 hm13 hm4 hm14 hb3 hS1 HMT HM1 HC1 HC2 HKI HM
      go_wp2_with fail
      refine HMI.out.mono ?_
      rintro e w5 ⟨⟨y, rfl, hy0, hy1⟩, hm5⟩
      have HR := Lib.hid (⟨i + 1, y, by go_num, rfl, by have := HZB.out; omega, by have := HZB.out; omega, by omega, HM4.out.trans hm5⟩ : MkExpRel S w n k (.int .i64 y) (.int .i64 ((i : Int) + 1)) w5)
      clear HMI HM4 hm5 HBB hy0 hy1
      go_wp2
      go_roundw
      case rel => exact HR.out
      case measure => simp [intOf]; omega
    · obtain rfl : i = n := by omega
      have HM := Lib.hid hm
      have hlt2 : decide ((i : Int) < (i : Int)) = false := by simp
      clear hm
      go_wp2
      go_ret
      exact ⟨⟨z, rfl, by omega, by omega⟩, HM.out⟩

def MkLitRel (S : Nat → Prop) (w : World) (n : Nat) (k : Int) (v1 v5 : Value) (wr : World) : Prop := ∃ (i : Nat) (z : Int), v5 = .int .i64 (i : Int) ∧ v1 = .int .i64 z ∧ k ≤ z ∧ z ≤ k + 2097156 * i ∧ i ≤ n ∧ Mkd S w wr

set_option maxRecDepth 100000 in
set_option maxHeartbeats 2000000 in
theorem markLitS_any (a : Option Addr) (cap n : Nat) (S : Nat → Prop) (w : World) (h : ItSh S w a n) (hS : ∀ b, S b → b < w.heap.size) (hz : ∀ b o, S b → w.frozen? ⟨b, o, none⟩ = false) (k : Int) (hk0 : 0 ≤ k) (hk : k ≤ 70368744177664) (hn : n ≤ 2097152) :
    Calls Tryz.prog 36 #[.slice a n cap, .int .i64 k] w fun e w' => (∃ z : Int, e = .returned (.int .i64 z) ∧ k ≤ z ∧ z ≤ k + 4398054899712) ∧ Mkd S w w' := by
  have HI := Lib.hid h
  have HF := Lib.hid hz
  have HS := Lib.hid hS
  clear h hz hS
  go_enter Tryz.func36, Tryz.ntmps36
  go_wp2
  go_loopw [1, 5] (fun v1 v5 wr => MkLitRel S w n k v1 v5 wr) (fun _ v5 _ => (n - (intOf v5).toNat))
  case atStart => exact ⟨0, k, rfl, rfl, by omega, by omega, Nat.zero_le _, Mkd.refl _ _⟩
  case round =>
    obtain ⟨i, z, rfl, rfl, hz0, hzk, hi, hm⟩ := hrel
    by_cases hlt : i < n
    · obtain ⟨b, off, x, s, ka, q, kc, rfl, hb, hc0, hc1, hc2, hq, hki⟩ := HI.out.kept hm i hlt
      have hf0 : wr.frozen? ⟨b, off + i * 3, none⟩ = false := hm.frozen _ _ hb (HF.out _ _ hb)
      have hz1 : 0 ≤ z := by omega
      have hz2 : z ≤ 74766799077376 := by omega
      have HZB := Lib.hid (⟨hz0, hzk⟩ : k ≤ z ∧ z ≤ k + 2097156 * i)
      have hm1 := Mkd.setInt hb hc0 z
      have HM1 := Lib.hid hm1
      have HM := Lib.hid hm
      have HC1 := Lib.hid hc1
      have HC2 := Lib.hid hc2
      have HKI := Lib.hid hki
      have HBB := Lib.hid hb
      have HMT := Lib.hid (fun W => markText_any (z + 1).toNat (by omega) (by omega) W)
      rw [show (((z + 1).toNat : Nat) : Int) = z + 1 from by omega] at HMT
      clear hm hm1 hb hc1 hc2 hki hz0 hzk
      go_wp2_with fail
      refine (HMT.out _).mono ?_
      rintro e w3 ⟨⟨m, rfl, _⟩, hb3⟩
      have hS1 : ∀ b', S b' → b' < (wr.setCell ⟨b, off + i * 3, none⟩ (.int .i64 z)).heap.size := fun b' h' => Nat.lt_of_lt_of_le (HS.out b' h') (Nat.le_trans HM.out.size HM1.out.size)
      have hm3 := (HM.out.trans HM1.out).trans (Mkd.below hS1 hb3)
      have hm13 := HM1.out.trans (Mkd.below hS1 hb3)
      obtain ⟨s3, c3⟩ := hm13.str _ _ _ HBB.out HC1.out
      have f3 : w3.frozen? ⟨b, off + i * 3 + 1, none⟩ = false := hm3.frozen _ _ HBB.out (HF.out _ _ HBB.out)
      have hm4 := hm3.trans (Mkd.setStr HBB.out c3 m)
      have hm14 := hm13.trans (Mkd.setStr HBB.out c3 m)
      have c4 := hm14.slice _ _ _ _ _ HBB.out HC2.out
      have HMI := Lib.hid (markIntS_any ka kc q S _ (HKI.out.kept hm14) (fun b' o' h' => hm4.frozen _ _ h' (HF.out _ _ h')) (z + 1 + 1) (by omega) (by omega) hq)
      have HM4 := Lib.hid hm4
      clear hm3 hm13 hm4 hm14 hb3 hS1 HMT HM1 HC1 HC2 HKI HM
      go_wp2_with fail
      refine HMI.out.mono ?_
      rintro e w5 ⟨⟨y, rfl, hy0, hy1⟩, hm5⟩
      have HR := Lib.hid (⟨i + 1, y, by go_num, rfl, by have := HZB.out; omega, by have := HZB.out; omega, by omega, HM4.out.trans hm5⟩ : MkLitRel S w n k (.int .i64 y) (.int .i64 ((i : Int) + 1)) w5)
      clear HMI HM4 hm5 HBB hy0 hy1
      go_wp2
      go_roundw
      case rel => exact HR.out
      case measure => simp [intOf]; omega
    · obtain rfl : i = n := by omega
      have HM := Lib.hid hm
      have hlt2 : decide ((i : Int) < (i : Int)) = false := by simp
      clear hm
      go_wp2
      go_ret
      exact ⟨⟨z, rfl, by omega, by omega⟩, HM.out⟩

set_option maxRecDepth 100000 in
set_option maxHeartbeats 2000000 in
theorem markLit_any (l : It) (vs : List Value) (S : Nat → Prop) (w : World) (hc : ∃ ka n kc, vs = [.int .i64 l.k, .string l.s, .slice ka n kc] ∧ n ≤ 2097152 ∧ IntSh S w ka n) (hS : ∀ b, S b → b < w.heap.size) (hz : ∀ b o, S b → w.frozen? ⟨b, o, none⟩ = false) (k : Int) (hk0 : 0 ≤ k) (hk : k ≤ 1125899906842624) :
    Calls Tryz.prog 35 #[.agg vs.toArray, .int .i64 k] w fun e w' => (∃ z : Int, e = .returned (.int .i64 z) ∧ k ≤ z ∧ z ≤ k + 2097152) ∧ Mkd S w w' := by
  obtain ⟨ka, n, kc, rfl, hn, hI⟩ := hc
  have hb0 : Below w.heap.size w (w.alloc (.cells #[.int .i64 l.k, .string l.s, .slice ka n kc] 33)) := (Below.refl _ _).alloc (Nat.le_refl _) _
  have hm0 := Mkd.below hS hb0
  have HMI := Lib.hid (markIntS_any ka kc n S _ (hI.kept hm0) (fun b o h => hm0.frozen _ _ h (hz b o h)) k hk0 hk hn)
  have HM0 := Lib.hid hm0
  clear hb0 hm0 hI hS hz
  go_enter Tryz.func35, Tryz.ntmps35
  go_wp2_with fail
  refine HMI.out.mono ?_
  rintro e w1 ⟨⟨z, rfl, h0, h1⟩, hm1⟩
  have HM1 := Lib.hid (HM0.out.trans hm1)
  clear hm1 HMI
  go_wp2
  go_ret
  exact ⟨⟨z, rfl, h0, h1⟩, HM1.out⟩

set_option maxRecDepth 100000 in
set_option maxHeartbeats 2000000 in
theorem markRule_any (u : Ru) (vs : List Value) (S : Nat → Prop) (w : World) (hF : FRu S w vs u) (hw : u.wt ≤ 1048576) (hS : ∀ b, S b → b < w.heap.size) (hz : ∀ b o, S b → w.frozen? ⟨b, o, none⟩ = false) :
    Calls Tryz.prog 12 #[.agg vs.toArray, .int .i64 1] w fun e w' => (∃ z : Int, e = .returned (.int .i64 z) ∧ 0 ≤ z) ∧ Mkd S w w' := by
  obtain ⟨aes, ces, ahd, chd, abd, cbd, rfl, r0, r1, r2⟩ := hF
  have hlen : ∀ (l : List It) (x : It), x ∈ l → wsum It.wt l ≤ 1048576 → x.xs.length ≤ 2097152 := fun l x hx hl => by
    have := wsum_mem It.wt hx
    have h2 : x.xs.length ≤ x.wt := by unfold It.wt wtIntS; omega
    omega
  have hwe : wsum It.wt u.es ≤ 1048576 ∧ wsum It.wt u.bd ≤ 1048576 ∧ u.es.length ≤ 1048576 ∧ u.bd.length ≤ 1048576 ∧ u.hd.xs.length ≤ 2097152 := by
    unfold Ru.wt wtExpS wtLitS It.wt wtIntS at hw
    refine ⟨?_, ?_, ?_, ?_, ?_⟩ <;> first | omega | (unfold It.wt wtIntS; omega)
  have s0 := r0.sh (fun x hx => hlen _ x hx hwe.1)
  have s2 := r2.sh (fun x hx => hlen _ x hx hwe.2.1)
  have s1 := IntsIn.sh r1
  have hb0 : Below w.heap.size w (w.alloc (.cells #[.slice aes u.es.length ces, .int .i64 u.hd.k, .string u.hd.s, .slice ahd u.hd.xs.length chd, .slice abd u.bd.length cbd] 36)) := (Below.refl _ _).alloc (Nat.le_refl _) _
  have k0 := heap_alloc_new w (.cells #[.slice aes u.es.length ces, .int .i64 u.hd.k, .string u.hd.s, .slice ahd u.hd.xs.length chd, .slice abd u.bd.length cbd] 36)
  have hm0 := Mkd.below hS hb0
  have HS := Lib.hid hS
  have HF := Lib.hid hz
  have n1 := hwe.2.2.1
  have n2 := hwe.2.2.2.1
  have n3 := hwe.2.2.2.2
  have HE := Lib.hid (markExpS_any aes ces u.es.length S _ (s0.kept hm0) (fun b h => Nat.lt_of_lt_of_le (hS b h) hb0.size) (fun b o h => hm0.frozen _ _ h (hz b o h)) 1 (by omega) (by omega) (by omega))
  obtain ⟨w0, hw0⟩ : ∃ w0, w.alloc (.cells #[.slice aes u.es.length ces, .int .i64 u.hd.k, .string u.hd.s, .slice ahd u.hd.xs.length chd, .slice abd u.bd.length cbd] 36) = w0 := ⟨_, rfl⟩
  rw [hw0] at hb0 k0 hm0 HE
  have HS0 := Lib.hid s0
  have HS1 := Lib.hid s1
  have HS2 := Lib.hid s2
  have HM0 := Lib.hid hm0
  have HB0 := Lib.hid hb0
  have HK0 := Lib.hid k0
  have q0 := cell_of_row _ w.heap.size 0 _ _ _ k0
  simp only [List.getElem?_toArray, List.getElem?_cons_zero] at q0
  clear r0 r1 r2 hlen hwe s0 s1 s2 hb0 k0 hm0 hS hz hw
  generalize u.es.length = ne at *
  generalize u.bd.length = nb at *
  generalize u.hd.xs.length = nh at *
  generalize u.hd.k = hk at *
  generalize u.hd.s = hs at *
  go_enter Tryz.func12, Tryz.ntmps12
  go_wp2_with fail
  refine HE.out.mono ?_
  rintro e w1 ⟨⟨z1, rfl, h0, h1⟩, hm1⟩
  have hnS : ¬ S w.heap.size := fun h => by have := HS.out _ h; omega
  have hk1 := (hm1.block w.heap.size (lt_of_block HK0.out) hnS).trans HK0.out
  have p1 := cell_of_row _ w.heap.size 1 _ _ _ hk1
  have p2 := cell_of_row _ w.heap.size 2 _ _ _ hk1
  have p3 := cell_of_row _ w.heap.size 3 _ _ _ hk1
  simp only [List.getElem?_toArray, List.getElem?_cons_zero, List.getElem?_cons_succ] at p1 p2 p3
  have HM1 := Lib.hid (HM0.out.trans hm1)
  have HL := Lib.hid (markLit_any ⟨hk, hs, []⟩ [.int .i64 hk, .string hs, .slice ahd nh chd] S w1 ⟨ahd, nh, chd, rfl, n3, HS1.out.kept HM1.out⟩ (fun b h => Nat.lt_of_lt_of_le (HS.out b h) HM1.out.size) (fun b o h => HM1.out.frozen _ _ h (HF.out b o h)) z1 (by omega) (by omega))
  have HK1 := Lib.hid hk1
  clear hm1 HE hk1 HM0 HK0 q0
  go_wp2_with fail
  refine HL.out.mono ?_
  rintro e w2 ⟨⟨z2, rfl, h2, h3⟩, hm2⟩
  have hk2 := (hm2.block w.heap.size (lt_of_block HK1.out) hnS).trans HK1.out
  clear p1 p2 p3
  have p4 := cell_of_row _ w.heap.size 4 _ _ _ hk2
  simp only [List.getElem?_toArray, List.getElem?_cons_zero, List.getElem?_cons_succ] at p4
  have HM2 := Lib.hid (HM1.out.trans hm2)
  have HLS := Lib.hid (markLitS_any abd cbd nb S w2 (HS2.out.kept HM2.out) (fun b h => Nat.lt_of_lt_of_le (HS.out b h) HM2.out.size) (fun b o h => HM2.out.frozen _ _ h (HF.out b o h)) z2 (by omega) (by omega) (by omega))
  clear hm2 HL hk2 HM1 HK1
  go_wp2_with fail
  refine HLS.out.mono ?_
  rintro e w3 ⟨⟨z3, rfl, h4, h5⟩, hm3⟩
  have HM3 := Lib.hid (HM2.out.trans hm3)
  clear hm3 HLS HM2 p4
  go_wp2
  go_ret
  exact ⟨⟨z3, rfl, by omega⟩, HM3.out⟩

end Go.Proofs.YtilijbpbnlnhlaaGreat.Pr
