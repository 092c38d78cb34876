/-
  THE LAWS' OWN MARKING of lists of graphs (a copy), as shapes.
-/
import Derived.Test.YtgjmefcognoepaaPQ2
import Derived.Test.YtgjmefcognoepaaPG6
namespace Go.Proofs.Ytgjmefcognoepaa.Pr
open Go Go.RowKit Go.Maps Go.WideMaps

/-- Numbers, signs and slices stay what they are; nothing else turns but in S. -/
structure Mgd (S : Nat → Prop) (w w' : World) : Prop where
  os : w'.os = w.os
  tape : w'.tape = w.tape
  output : w'.output = w.output
  size : w.heap.size ≤ w'.heap.size
  block : ∀ b, b < w.heap.size → ¬ S b → w'.heap[b]? = w.heap[b]?
  slice : ∀ b o a n c, S b → w.cell? ⟨b, o, none⟩ = some (.slice a n c) → w'.cell? ⟨b, o, none⟩ = some (.slice a n c)
  int : ∀ b o x, S b → w.cell? ⟨b, o, none⟩ = some (.int .i64 x) → ∃ y, w'.cell? ⟨b, o, none⟩ = some (.int .i64 y)
  bool : ∀ b o x, S b → w.cell? ⟨b, o, none⟩ = some (.bool x) → ∃ y, w'.cell? ⟨b, o, none⟩ = some (.bool y)
  frozen : ∀ b o, S b → w.frozen? ⟨b, o, none⟩ = false → w'.frozen? ⟨b, o, none⟩ = false
theorem Mgd.refl (S : Nat → Prop) (w : World) : Mgd S w w := ⟨rfl, rfl, rfl, Nat.le_refl _, fun _ _ _ => rfl, fun _ _ _ _ _ _ h => h, fun _ _ x _ h => ⟨x, h⟩, fun _ _ x _ h => ⟨x, h⟩, fun _ _ _ h => h⟩
theorem Mgd.trans {S : Nat → Prop} {a b c : World} (h : Mgd S a b) (g : Mgd S b c) : Mgd S a c := by
  refine ⟨g.os.trans h.os, g.tape.trans h.tape, g.output.trans h.output, Nat.le_trans h.size g.size, fun k hk hs => ?_, fun k o x n d hs hc => g.slice k o x n d hs (h.slice k o x n d hs hc), fun k o x hs hc => ?_, fun k o x hs hc => ?_, fun k o hs hf => g.frozen k o hs (h.frozen k o hs hf)⟩
  · rw [g.block k (Nat.lt_of_lt_of_le hk h.size) hs, h.block k hk hs]
  · obtain ⟨y, hy⟩ := h.int k o x hs hc
    exact g.int k o y hs hy
  · obtain ⟨y, hy⟩ := h.bool k o x hs hc
    exact g.bool k o y hs hy
theorem grown_setG (w : World) (g o : Nat) (u : Value) : w.grownBy (w.setCell ⟨g, o, none⟩ u) (some g) := by
  have h := Off.set (S := fun b => b = g) (Off.refl _ w) rfl o u
  exact ⟨h.os, h.tape, h.output, Nat.le_of_eq h.size.symm, fun b _ hne => h.block b (fun e => hne (by rw [e]))⟩
theorem Mgd.setCell {S : Nat → Prop} {w : World} {g o : Nat} {v u : Value} (hg : S g) (hc : w.cell? ⟨g, o, none⟩ = some v) (hk : (∃ x y, v = .int .i64 x ∧ u = .int .i64 y) ∨ (∃ x y, v = .bool x ∧ u = .bool y)) : Mgd S w (w.setCell ⟨g, o, none⟩ u) := by
  have hsame := World.cell?_setCell_same w ⟨g, o, none⟩ u hc
  have hoth : ∀ b p, (⟨g, o, none⟩ : Addr) ≠ ⟨b, p, none⟩ → (w.setCell ⟨g, o, none⟩ u).cell? ⟨b, p, none⟩ = w.cell? ⟨b, p, none⟩ := fun b p h => World.cell?_setCell_other w _ _ _ h
  have hG := grown_setG w g o u
  refine ⟨hG.os, hG.tape, hG.output, hG.size, fun b hb hs => hG.block b hb (fun e => hs (by cases e; exact hg)), fun b p a n c _ h1 => ?_, fun b p z _ h1 => ?_, fun b p z _ h1 => ?_, fun b p _ hf => by rw [World.frozen?_setCell]; exact hf⟩
  · by_cases e : (⟨g, o, none⟩ : Addr) = ⟨b, p, none⟩
    · rw [← e, hc] at h1
      rcases hk with ⟨x, y, rfl, _⟩ | ⟨x, y, rfl, _⟩ <;> cases h1
    · rw [hoth b p e]; exact h1
  · by_cases e : (⟨g, o, none⟩ : Addr) = ⟨b, p, none⟩
    · rw [← e, hc] at h1
      rcases hk with ⟨x, y, rfl, rfl⟩ | ⟨x, y, rfl, _⟩
      · rw [← e]; exact ⟨y, hsame⟩
      · cases h1
    · rw [hoth b p e]; exact ⟨z, h1⟩
  · by_cases e : (⟨g, o, none⟩ : Addr) = ⟨b, p, none⟩
    · rw [← e, hc] at h1
      rcases hk with ⟨x, y, rfl, _⟩ | ⟨x, y, rfl, rfl⟩
      · cases h1
      · rw [← e]; exact ⟨y, hsame⟩
    · rw [hoth b p e]; exact ⟨z, h1⟩

def ArSh (S : Nat → Prop) (w : World) (a : Option Addr) (n : Nat) : Prop := ∀ i, i < n → ∃ (b off : Nat) (x y : Int) (s : Bool), a = some ⟨b, off, none⟩ ∧ S b ∧ w.cell? ⟨b, off + i * 3, none⟩ = some (.int .i64 x) ∧ w.cell? ⟨b, off + i * 3 + 1, none⟩ = some (.int .i64 y) ∧ w.cell? ⟨b, off + i * 3 + 2, none⟩ = some (.bool s)
theorem RowIn.arSh {S : Nat → Prop} {w : World} {a : Option Addr} {l : List Ar} (h : RowIn FAr 3 S w a l) : ArSh S w a l.length := fun i hi => by
  obtain ⟨b, off, vs, ha, hS, hv, hc, hF⟩ := h i hi
  have hF2 : vs = [.int .i64 l[i].a, .int .i64 l[i].b, .bool l[i].s] := hF
  subst hF2
  exact ⟨b, off, _, _, _, ha, hS, hc 0 (by simp), hc 1 (by simp), hc 2 (by simp)⟩
theorem ArSh.kept {S : Nat → Prop} {w w' : World} {a : Option Addr} {n : Nat} (h : ArSh S w a n) (m : Mgd S w w') : ArSh S w' a n := fun i hi => by
  obtain ⟨b, off, x, y, s, ha, hS, c0, c1, c2⟩ := h i hi
  obtain ⟨x', d0⟩ := m.int b _ x hS c0
  obtain ⟨y', d1⟩ := m.int b _ y hS c1
  obtain ⟨s', d2⟩ := m.bool b _ s hS c2
  exact ⟨b, off, x', y', s', ha, hS, d0, d1, d2⟩
def GrSh (S : Nat → Prop) (w : World) (a : Option Addr) (n : Nat) : Prop := ∀ i, i < n → ∃ (b off : Nat) (x y : Int) (ka : Option Addr) (m kc : Nat), a = some ⟨b, off, none⟩ ∧ S b ∧ w.cell? ⟨b, off + i * 3, none⟩ = some (.int .i64 x) ∧ w.cell? ⟨b, off + i * 3 + 1, none⟩ = some (.int .i64 y) ∧ w.cell? ⟨b, off + i * 3 + 2, none⟩ = some (.slice ka m kc) ∧ m ≤ 1048576 ∧ ArSh S w ka m
theorem RowIn.grSh {S : Nat → Prop} {w : World} {a : Option Addr} {l : List Gr} (h : RowIn FGr 3 S w a l) (hl : ∀ g ∈ l, g.rs.length ≤ 1048576) : GrSh S w a l.length := fun i hi => by
  obtain ⟨b, off, vs, ha, hS, hv, hc, ar, cr, rfl, hr⟩ := h i hi
  exact ⟨b, off, _, _, ar, _, cr, ha, hS, hc 0 (by simp), hc 1 (by simp), hc 2 (by simp), hl _ (List.getElem_mem hi), hr.arSh⟩
theorem GrSh.kept {S : Nat → Prop} {w w' : World} {a : Option Addr} {n : Nat} (h : GrSh S w a n) (m : Mgd S w w') : GrSh S w' a n := fun i hi => by
  obtain ⟨b, off, x, y, ka, mm, kc, ha, hS, c0, c1, c2, hm, hr⟩ := h i hi
  obtain ⟨x', d0⟩ := m.int b _ x hS c0
  obtain ⟨y', d1⟩ := m.int b _ y hS c1
  exact ⟨b, off, x', y', ka, mm, kc, ha, hS, d0, d1, m.slice b _ _ _ _ hS c2, hm, hr.kept m⟩

def MSA (S : Nat → Prop) (w : World) (n : Nat) (k : Int) (v1 v5 : Value) (wr : World) : Prop := ∃ (i : Nat) (z : Int), v5 = .int .i64 (i : Int) ∧ v1 = .int .i64 z ∧ z = k + 3 * i ∧ i ≤ n ∧ Mgd S w wr

set_option maxRecDepth 100000 in
set_option maxHeartbeats 2000000 in
theorem markArcS_sh (a : Option Addr) (cap n : Nat) (S : Nat → Prop) (w : World) (h : ArSh S w a n) (hz : ∀ b o, S b → w.frozen? ⟨b, o, none⟩ = false) (k : Int) (hk0 : 0 ≤ k) (hk : k ≤ 1125899906842624) (hn : n ≤ 2097152) :
    Calls Try.prog 20 #[.slice a n cap, .int .i64 k] w fun e w' => e = .returned (.int .i64 (k + 3 * (n : Int))) ∧ Mgd S w w' := by
  have HC := Lib.hid h
  have HZ := Lib.hid hz
  clear h hz
  go_enter Try.func20, Try.ntmps20
  go_wp2
  go_loopw [1, 5] (fun v1 v5 wr => MSA S w n k v1 v5 wr) (fun _ v5 _ => (n - (intOf v5).toNat))
  case atStart => exact ⟨0, k, rfl, rfl, by omega, Nat.zero_le _, Mgd.refl _ _⟩
  case round =>
    obtain ⟨i, z, rfl, rfl, hz, hi, hm⟩ := hrel
    by_cases hlt : i < n
    · have hd : decide ((i : Int) < (n : Int)) = true := decide_eq_true (by omega)
      obtain ⟨b, off, x, y, s, rfl, hS, c0, c1, c2⟩ := (HC.out.kept hm) i hlt
      have m1 := Mgd.setCell (u := .int .i64 z) hS c0 (.inl ⟨_, _, rfl, rfl⟩)
      obtain ⟨y1, d1⟩ := m1.int b _ y hS c1
      obtain ⟨s1, d2⟩ := m1.bool b _ s hS c2
      obtain ⟨w1, hw1⟩ : ∃ w1, wr.setCell ⟨b, off + i * 3, none⟩ (.int .i64 z) = w1 := ⟨_, rfl⟩
      rw [hw1] at m1 d1 d2
      have m2 := Mgd.setCell (u := .int .i64 (z + 1)) hS d1 (.inl ⟨_, _, rfl, rfl⟩)
      obtain ⟨s2, e2⟩ := m2.bool b _ s1 hS d2
      obtain ⟨w2, hw2⟩ : ∃ w2, w1.setCell ⟨b, off + i * 3 + 1, none⟩ (.int .i64 (z + 1)) = w2 := ⟨_, rfl⟩
      rw [hw2] at m2 e2
      have f0 := hm.frozen b (off + i * 3) hS (HZ.out _ _ hS)
      have f1 := (hm.trans m1).frozen b (off + i * 3 + 1) hS (HZ.out _ _ hS)
      have f2 := ((hm.trans m1).trans m2).frozen b (off + i * 3 + 2) hS (HZ.out _ _ hS)
      have hz1 : 0 ≤ z := by omega
      have hz2 : z ≤ 1125899913134080 := by omega
      have HR := Lib.hid (fun (bv : Bool) => (⟨i + 1, z + 1 + 1 + 1, by go_num, rfl, by omega, by omega, ((hm.trans m1).trans m2).trans (Mgd.setCell (u := .bool bv) hS e2 (.inr ⟨_, _, rfl, rfl⟩))⟩ : MSA S w n k (.int .i64 (z + 1 + 1 + 1)) (.int .i64 ((i : Int) + 1)) (w2.setCell ⟨b, off + i * 3 + 2, none⟩ (.bool bv))))
      clear hm m1 m2 hz
      go_wp2
      go_roundw
      case rel => exact HR.out _
      case measure => (simp [intOf] <;> omega)
    · obtain rfl : i = n := by omega
      have hd : decide ((i : Int) < (i : Int)) = false := by simp
      have HO := Lib.hid hm
      clear hm
      go_wp2
      go_ret
      exact ⟨by rw [hz]; rfl, HO.out⟩

def MSG (S : Nat → Prop) (w : World) (n : Nat) (k : Int) (v1 v5 : Value) (wr : World) : Prop := ∃ (i : Nat) (z : Int), v5 = .int .i64 (i : Int) ∧ v1 = .int .i64 z ∧ k ≤ z ∧ z ≤ k + 3145730 * i ∧ i ≤ n ∧ Mgd S w wr

set_option maxRecDepth 100000 in
set_option maxHeartbeats 2000000 in
theorem markGraphS_sh (a : Option Addr) (cap n : Nat) (S : Nat → Prop) (w : World) (h : GrSh S w a n) (hz : ∀ b o, S b → w.frozen? ⟨b, o, none⟩ = false) (hn : n ≤ 1048576) :
    Calls Try.prog 9 #[.slice a n cap, .int .i64 1] w fun e w' => (∃ z : Int, e = .returned (.int .i64 z) ∧ 0 ≤ z) ∧ Mgd S w w' := by
  have HC := Lib.hid h
  have HZ := Lib.hid hz
  clear h hz
  go_enter Try.func9, Try.ntmps9
  go_wp2
  go_loopw [1, 5] (fun v1 v5 wr => MSG S w n 1 v1 v5 wr) (fun _ v5 _ => (n - (intOf v5).toNat))
  case atStart => exact ⟨0, 1, rfl, rfl, by omega, by omega, Nat.zero_le _, Mgd.refl _ _⟩
  case round =>
    obtain ⟨i, z, rfl, rfl, hz1, hz2, hi, hm⟩ := hrel
    by_cases hlt : i < n
    · have hd : decide ((i : Int) < (n : Int)) = true := decide_eq_true (by omega)
      obtain ⟨b, off, x, y, ka, mm, kc, rfl, hS, c0, c1, c2, hmm, hr⟩ := (HC.out.kept hm) i hlt
      have m1 := Mgd.setCell (u := .int .i64 z) hS c0 (.inl ⟨_, _, rfl, rfl⟩)
      obtain ⟨y1, d1⟩ := m1.int b _ y hS c1
      have d2 := m1.slice b _ _ _ _ hS c2
      obtain ⟨w1, hw1⟩ : ∃ w1, wr.setCell ⟨b, off + i * 3, none⟩ (.int .i64 z) = w1 := ⟨_, rfl⟩
      rw [hw1] at m1 d1 d2
      have m2 := Mgd.setCell (u := .int .i64 (z + 1)) hS d1 (.inl ⟨_, _, rfl, rfl⟩)
      have e2 := m2.slice b _ _ _ _ hS d2
      obtain ⟨w2, hw2⟩ : ∃ w2, w1.setCell ⟨b, off + i * 3 + 1, none⟩ (.int .i64 (z + 1)) = w2 := ⟨_, rfl⟩
      rw [hw2] at m2 e2
      have f0 := hm.frozen b (off + i * 3) hS (HZ.out _ _ hS)
      have f1 := (hm.trans m1).frozen b (off + i * 3 + 1) hS (HZ.out _ _ hS)
      have mm2 := (hm.trans m1).trans m2
      have HMA := Lib.hid (markArcS_sh ka kc mm S w2 ((hr.kept m1).kept m2) (fun b o hs => mm2.frozen b o hs (HZ.out _ _ hs)) (z + 1 + 1) (by omega) (by omega) (by omega))
      have HM := Lib.hid mm2
      have hzb : z ≤ 3298534883328 * 2 := by omega
      clear hm m1 m2 mm2 hr c1 c2 d2
      go_wp2_with fail
      refine HMA.out.mono ?_
      rintro e w3 ⟨rfl, hm3⟩
      have HR := Lib.hid (show MSG S w n 1 (.int .i64 (z + 1 + 1 + 3 * (mm : Int))) (.int .i64 ((i : Int) + 1)) w3 from ⟨i + 1, _, by go_num, rfl, by omega, by omega, by omega, HM.out.trans hm3⟩)
      clear hm3 HMA
      go_wp2
      go_roundw
      case rel => exact HR.out
      case measure => (simp [intOf] <;> omega)
    · obtain rfl : i = n := by omega
      have hd : decide ((i : Int) < (i : Int)) = false := by simp
      have HO := Lib.hid hm
      clear hm
      go_wp2
      go_ret
      exact ⟨⟨z, rfl, by omega⟩, HO.out⟩

end Go.Proofs.Ytgjmefcognoepaa.Pr
