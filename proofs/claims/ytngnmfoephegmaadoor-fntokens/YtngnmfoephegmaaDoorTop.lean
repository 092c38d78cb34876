/-
  THE WALKS over (*termStore).read, impl.TermKind, impl.TermNum.
-/
import Derived.Test.YtngnmfoephegmaaDoorReadAll
namespace Go.Proofs.YtngnmfoephegmaaDoor
open Go Go.RowKit Go.Maps Go.WideMaps

theorem said_all (f : Nat) : TermSaid f ∧ ArgsSaid f := by
  induction f using Nat.strongRecOn with
  | ind f ih =>
    refine ⟨?_, readArgs_of f fun m hm => (ih m hm).1⟩
    cases f with
    | zero => intro base b ns cs s p C w _ _ _ _ _ _ _ _ hf; omega
    | succ f => exact readTerm_of f fun m hm => (ih m (by omega)).2

/-- The term that a text is, as impl reads it. -/
def rdAll (l : List UInt8) : Option Tm :=
  if 200 < l.length then none
  else match rdTerm 500 l with
    | none => none
    | some x => if x.2 = [] then some x.1 else none

/-- What read answers. -/
def ReadPost (base b : Nat) (ns : List Nd) (cs : List Cl) (s : ByteArray) (C : Nat) (w : World) (e : Ending) (w' : World) : Prop :=
  ∃ (ns' : List Nd) (cs' : List Cl), Ext ns ns' ∧ Ext cs cs' ∧ ns'.length ≤ C + 200 ∧ cs'.length ≤ C + 200 ∧ StoreAt w' base b ns' cs' ∧ Fr base w w' ∧
    ((rdAll (lst s) = none ∧ e = .returned (.tuple #[.int .i64 0, .bool false])) ∨ (∃ (t : Tm) (i : Nat), rdAll (lst s) = some t ∧ At ns' cs' i t ∧ e = .returned (.tuple #[.int .i64 (i : Int), .bool true])))

set_option maxRecDepth 100000 in
set_option maxHeartbeats 1000000 in
theorem read_any (base b : Nat) (ns : List Nd) (cs : List Cl) (s : ByteArray) (hlim : s.size ≤ 140737488351232) (C : Nat) (w : World) (hS : StoreAt w base b ns cs) (hE : Env base w) (hn : ns.length ≤ C) (hc : cs.length ≤ C) (hC : 200 ≤ C) (hC2 : C ≤ 800000) :
    Calls Tryd.prog 43 #[.pointer (some ⟨b, 0, none⟩), .string s] w (ReadPost base b ns cs s C w) := by
  have hl := lst_len s
  by_cases hs : s.size ≤ 200
  · have hgt : decide ((200 : Int) < (s.size : Int)) = false := by simp; omega
    have hgt2 : decide (200 < s.size) = false := by simp; omega
    have hT := (said_all 500).1 base b ns cs s 0 C w hs (Nat.zero_le _) hS hE (by omega) (by omega) hC2 (by omega) (by omega)
    have hr : rdAll (lst s) = (match rdTerm 500 (lst s) with
      | none => none
      | some x => if x.2 = [] then some x.1 else none) := by unfold rdAll; rw [if_neg (by omega)]
    have HT := Lib.hid hT
    have HR := Lib.hid hr
    clear hr hT
    rw [List.drop_zero] at HT
    go_enter Tryd.func43, Tryd.ntmps43
    go_wp2_with fail
    refine HT.out.mono ?_
    rintro e w1 (⟨hr, rfl, ns2, cs2, h1, h2, h3, h4, h5, h6⟩ | ⟨t, q, i, ns2, cs2, hr, hq1, hq2, rfl, hat, h1, h2, h3, h4, h5, h6⟩)
    · have P : ReadPost base b ns cs s C w (.returned (.tuple #[.int .i64 0, .bool false])) w1 := ⟨ns2, cs2, h1, h2, by omega, by omega, h5, h6, .inl ⟨by rw [HR.out, hr], rfl⟩⟩
      clear hr h1 h2 h3 h4 h5 h6 HT
      go_wp2
      go_ret2
      exact P
    · rw [hr] at HR
      by_cases hq : q = s.size
      · have hne : ((q : Int) != (s.size : Int)) = false := by simp [hq]
        have P : ReadPost base b ns cs s C w (.returned (.tuple #[.int .i64 (i : Int), .bool true])) w1 :=
          ⟨ns2, cs2, h1, h2, by omega, by omega, h5, h6, .inr ⟨t, i, by rw [HR.out]; simp only; rw [if_pos (List.drop_eq_nil_of_le (by omega))], hat, rfl⟩⟩
        clear hr h1 h2 h3 h4 h5 h6 HT HR hat
        obtain rfl := hq
        go_wp2
        go_ret2
        exact P
      · have hne : ((q : Int) != (s.size : Int)) = true := by rw [bne_iff_ne]; omega
        have P : ReadPost base b ns cs s C w (.returned (.tuple #[.int .i64 0, .bool false])) w1 :=
          ⟨ns2, cs2, h1, h2, by omega, by omega, h5, h6, .inl ⟨by rw [HR.out]; simp only; rw [if_neg (fun h => by have := congrArg List.length h; rw [List.length_drop] at this; simp at this; omega)], rfl⟩⟩
        clear hr h1 h2 h3 h4 h5 h6 HT HR hat
        go_wp2
        go_ret2
        exact P
  · have P : ReadPost base b ns cs s C w (.returned (.tuple #[.int .i64 0, .bool false])) w :=
      ⟨ns, cs, Ext.refl _, Ext.refl _, by omega, by omega, hS, Fr.refl _ _, .inl ⟨by unfold rdAll; rw [if_pos (by omega)], rfl⟩⟩
    have hgt : decide ((200 : Int) < (s.size : Int)) = true := by simp; omega
    go_enter Tryd.func43, Tryd.ntmps43
    go_wp2
    go_ret2
    exact P

theorem nodeCells_at {ns : List Nd} {i : Nat} {n : Nd} (h : ns[i]? = some n) : (nodeCells ns)[i * 4]? = some (.int .i64 n.kind) ∧ (nodeCells ns)[i * 4 + 1]? = some (.string n.name) ∧ (nodeCells ns)[i * 4 + 2]? = some (.int .i64 n.num) ∧ (nodeCells ns)[i * 4 + 3]? = some (.int .i64 (n.args : Int)) := by
  induction ns generalizing i with
  | nil => simp at h
  | cons x xs ih =>
    have e : x.cells.length = 4 := rfl
    have e2 : nodeCells (x :: xs) = x.cells ++ nodeCells xs := rfl
    cases i with
    | zero =>
      obtain rfl : x = n := by simpa using h
      exact ⟨rfl, rfl, rfl, rfl⟩
    | succ i =>
      have := ih (i := i) (by simpa using h)
      rw [e2, List.getElem?_append_right (by omega), List.getElem?_append_right (by omega), List.getElem?_append_right (by omega), List.getElem?_append_right (by omega), e,
        show (i + 1) * 4 - 4 = i * 4 from by omega, show (i + 1) * 4 + 1 - 4 = i * 4 + 1 from by omega, show (i + 1) * 4 + 2 - 4 = i * 4 + 2 from by omega, show (i + 1) * 4 + 3 - 4 = i * 4 + 3 from by omega]
      exact this

structure NodeCellsAt (w : World) (b : Nat) (N : Nat) (i : Nat) (n : Nd) (gn capn : Nat) : Prop where
  lb : b < w.heap.size
  lg : gn < w.heap.size
  st : w.cell? ⟨b, 0, none⟩ = some (.slice (some ⟨gn, 0, none⟩) N capn)
  kind : w.cell? ⟨gn, i * 4, none⟩ = some (.int .i64 n.kind)
  name : w.cell? ⟨gn, i * 4 + 1, none⟩ = some (.string n.name)
  num : w.cell? ⟨gn, i * 4 + 2, none⟩ = some (.int .i64 n.num)
  args : w.cell? ⟨gn, i * 4 + 3, none⟩ = some (.int .i64 (n.args : Int))

theorem StoreAt.node {w : World} {base b : Nat} {ns : List Nd} {cs : List Cl} (h : StoreAt w base b ns cs) {i : Nat} {n : Nd} (hi : ns[i]? = some n) : ∃ gn capn, NodeCellsAt w b ns.length i n gn capn := by
  obtain ⟨vn, vc, mn, mc, Dn, Dc, a1, a2, a3, a4, a5, a6, a7, a8, a9, a10, a11⟩ := h.lies
  have hlt := (List.getElem?_eq_some_iff.1 hi).1
  obtain ⟨gn, capn, rfl, _, hgn⟩ := a6.form (by omega)
  obtain ⟨q0, q1, q2, q3⟩ := nodeCells_at hi
  refine ⟨gn, capn, lt_of_block a5, hgn, by rw [cell_of_row w b 0 _ _ _ a5]; rfl, ?_, ?_, ?_, ?_⟩
  · rw [a6.cellAt _ (by omega)]; exact q0
  · rw [a6.cellAt _ (by omega)]; exact q1
  · rw [a6.cellAt _ (by omega)]; exact q2
  · rw [a6.cellAt _ (by omega)]; exact q3

/-- TkNum, TkSym, TkCon. -/
def Tm.kind : Tm → Int
  | .num _ => 1
  | .sym _ => 2
  | .con _ _ => 3
theorem At.node {ns : List Nd} {cs : List Cl} {i : Nat} {t : Tm} (h : At ns cs i t) : ∃ n : Nd, ns[i]? = some n ∧ n.kind = t.kind := by
  cases h with
  | num i n h => exact ⟨_, h, rfl⟩
  | sym i y h => exact ⟨_, h, rfl⟩
  | con i name args l is h hl hlen ha => exact ⟨_, h, rfl⟩

/-- impl.TermKind. -/
def iKind (l : List UInt8) : Int := match rdAll l with | none => 0 | some t => t.kind

set_option maxRecDepth 100000 in
set_option maxHeartbeats 1000000 in
theorem implTermKind (s : ByteArray) (hlim : s.size ≤ 140737488351232) (w : World) (hE : Env w.heap.size w) :
    Calls Tryd.prog 23 #[.string s] w fun e w' => e = .returned (.int .i64 (iKind (lst s))) ∧ Below w.heap.size w w' := by
  go_enter Tryd.func23, Tryd.ntmps23
  go_wp2_with fail
  refine (newTermStore_any _).mono ?_
  rintro e w1 ⟨b, rfl, hS1, hb1⟩
  have hE1 := hE.stays hb1
  go_wp2_with fail
  refine (read_any w.heap.size b [] [] s hlim 200 w1 hS1 hE1 (by simp) (by simp) (by omega) (by omega)).mono ?_
  rintro e w2 ⟨ns, cs, h1, h2, h3, h4, h5, h6, (⟨hr, rfl⟩ | ⟨t, i, hr, hat, rfl⟩)⟩
  · have P : (Ending.returned (.int .i64 0) = .returned (.int .i64 (iKind (lst s)))) ∧ Below w.heap.size w w2 := ⟨by unfold iKind; rw [hr], hb1.trans h6.below⟩
    clear hr h1 h2 h3 h4 h5 h6 hb1 hS1 hE1
    go_wp2
    go_ret
    exact P
  · obtain ⟨n, hn, hk⟩ := hat.node
    obtain ⟨gn, capn, hN⟩ := h5.node hn
    have hlt := hat.lt
    have P : (Ending.returned (.int .i64 n.kind) = .returned (.int .i64 (iKind (lst s)))) ∧ Below w.heap.size w w2 := ⟨by unfold iKind; rw [hr, hk], hb1.trans h6.below⟩
    have x0 := hN.st
    have x1 := hN.kind
    have x2 : i * 4 < 10000 := by omega
    clear hr h1 h2 h4 h5 h6 hb1 hS1 hE1 hat hn hk hN
    go_wp2
    go_ret
    exact P

end Go.Proofs.YtngnmfoephegmaaDoor
