/-
  THE REFERENCE: is a text in a list (spec.l05In); which exps are in an exp (spec.l06Within).
-/
import Derived.Test.YtilijbpbnlnhlaaGreatPV1
import Derived.Test.YtilijbpbnlnhlaaGreatPMk
namespace Go.Proofs.YtilijbpbnlnhlaaGreat.Pr
open Go Go.RowKit Go.Maps Go.WideMaps

theorem txt_ne {a b : ByteArray} (h : a ≠ b) : (a.toList == b.toList) = false := beq_eq_false_iff_ne.2 (fun e => h (lst_inj (by rw [ByteArray.toList_eq, ByteArray.toList_eq] at e; exact e)))

def InSRel (w : World) (xs : List ByteArray) (s : ByteArray) (v : Value) (wr : World) : Prop := ∃ k : Nat, Below w.heap.size w wr ∧ v = .int .i64 (k : Int) ∧ k ≤ xs.length ∧ s ∉ xs.take k

set_option maxRecDepth 100000 in
set_option maxHeartbeats 2000000 in
theorem specIn_any (xs : List ByteArray) (s : ByteArray) (a : Option Addr) (cap : Nat) (S : Nat → Prop) (w : World) (h : TxtsIn S w a xs) (hS : ∀ b, S b → b < w.heap.size) (hn : xs.length ≤ 1048576) :
    Calls Tryz.prog 24 #[.slice a xs.length cap, .string s] w fun e w' => (∃ r : Bool, e = .returned (.bool r) ∧ (r = true ↔ s ∈ xs)) ∧ Below w.heap.size w w' := by
  have HX := Lib.hid h
  have HS := Lib.hid hS
  clear h hS
  go_enter Tryz.func24, Tryz.ntmps24
  go_wp2
  go_loopw [5] (fun v wr => InSRel w xs s v wr) (fun v _ => (xs.length - (intOf v).toNat))
  case atStart => exact ⟨0, Below.refl _ _, rfl, Nat.zero_le _, by simp⟩
  case round =>
    obtain ⟨k, hb, rfl, hk, hno⟩ := hrel
    by_cases hlt : k < xs.length
    · obtain ⟨b, off, rfl, hSb, hx⟩ := HX.out.kept (Same.below HS.out hb) k hlt
      have hmem : xs[k] ∈ xs := List.getElem_mem hlt
      have HT := Lib.hid (List.take_succ_eq_append_getElem hlt)
      have HNO := Lib.hid hno
      have HMM := Lib.hid hmem
      have HB := Lib.hid hb
      clear hno hmem hb hSb
      by_cases he : xs[k] = s
      · have HE := Lib.hid he
        generalize xs[k] = x at *
        have hee : (x.toList == s.toList) = true := by rw [HE.out]; simp
        clear he
        go_wp2
        go_ret
        exact ⟨⟨true, rfl, by rw [← HE.out]; simpa using HMM.out⟩, HB.out⟩
      · have HNN := Lib.hid (show s ∉ xs.take (k + 1) by
          rw [HT.out, List.mem_append]
          rintro (h | h)
          · exact HNO.out h
          · simp at h; exact he h.symm)
        have hee : (xs[k].toList == s.toList) = false := txt_ne he
        have HRR := Lib.hid (⟨k + 1, HB.out, by go_num, by omega, HNN.out⟩ : InSRel w xs s (.int .i64 ((k : Int) + 1)) wr)
        clear he HNO HT HMM HNN
        generalize xs[k] = x at *
        go_wp2
        go_roundw
        case rel => exact HRR.out
        case measure => simp [intOf]; omega
    · obtain rfl : k = xs.length := by omega
      have HNO := Lib.hid hno
      clear hno
      go_wp2
      go_ret
      exact ⟨⟨false, rfl, by have := HNO.out; simp at this; simpa using this⟩, hb⟩

/-! ### spec.l06Within -/

def allE : It → Bool := fun _ => true
theorem kidsE_all (es : List It) (m : Nat) : kidsE es allE m = (expAt es m).xs.map Int.toNat := by simp [kidsE, allE]
theorem nodup_len {L : List Nat} (h : L.Nodup) {n : Nat} (hl : ∀ m ∈ L, m < n) : L.length ≤ n := by
  classical
  have hp : L.Perm ((List.range n).filter fun m => decide (m ∈ L)) := by
    refine (List.perm_ext_iff_of_nodup h ((List.Pairwise.filter _ List.pairwise_lt_range).imp fun h => Nat.ne_of_lt h)).2 fun m => ?_
    rw [List.mem_filter]
    exact ⟨fun hm => ⟨List.mem_range.2 (hl m hm), decide_eq_true hm⟩, fun hm => of_decide_eq_true hm.2⟩
  rw [hp.length_eq]
  exact Nat.le_trans (List.length_filter_le _ _) (by simp)
theorem kids_len {es : List It} (T : TreeOk es) {m : Nat} (hm : m < es.length) : (expAt es m).xs.length ≤ 60 := by
  have := nodup_len (kidsE_nodup (en := allE) T hm) (fun x hx => kidsE_lt T hm hx)
  rw [kidsE_all, List.length_map] at this
  have := T.few
  omega
/-- What the reference has marked, the places from m on being done. -/
structure WInv (es : List It) (n : Nat) (bs : List Bool) (m : Nat) : Prop where
  len : bs.length = es.length
  self : bs[n]? = some true
  inn : ∀ j, bs[j]? = some true → In es allE n j
  done : ∀ j, m ≤ j → bs[j]? = some true → ∀ x ∈ kidsE es allE j, bs[x]? = some true
theorem WInv.start {es : List It} {n : Nat} (hn : n < es.length) (T : TreeOk es) : WInv es n ((List.replicate es.length false).set n true) (n + 1) := by
  have hg : ∀ j, ((List.replicate es.length false).set n true)[j]? = some true → j = n := by
    intro j hj
    rw [List.getElem?_set] at hj
    split at hj
    · rename_i h; exact h.symm
    · rw [List.getElem?_replicate] at hj
      split at hj <;> simp at hj
  refine ⟨by simp, by simp [hn], fun j hj => by rw [hg j hj]; exact .self, fun j h1 h2 => by have := hg j h2; omega⟩
theorem WInv.skip {es : List It} {n : Nat} {bs : List Bool} {m : Nat} (h : WInv es n bs (m + 1)) (hm : bs[m]? ≠ some true) : WInv es n bs m :=
  ⟨h.len, h.self, h.inn, fun j h1 h2 => by
    by_cases e : j = m
    · subst e; exact absurd h2 hm
    · exact h.done j (by omega) h2⟩
theorem WInv.mark {es : List It} {n : Nat} {bs : List Bool} {m x : Nat} (T : TreeOk es) (hml : m < es.length) (h : WInv es n bs (m + 1)) (hm : bs[m]? = some true) (hx : x ∈ kidsE es allE m) : WInv es n (bs.set x true) (m + 1) := by
  have hlt := kidsE_lt T hml hx
  have hxl : x < bs.length := by rw [h.len]; omega
  refine ⟨by rw [List.length_set, h.len], ?_, fun j hj => ?_, fun j h1 h2 y hy => ?_⟩
  · rw [List.getElem?_set]
    split
    · rename_i e; subst e; simp [hxl]
    · exact h.self
  · rw [List.getElem?_set] at hj
    split at hj
    · rename_i e; subst e; exact .kid (h.inn m hm) hx
    · exact h.inn j hj
  · rw [List.getElem?_set_ne (by omega)] at h2
    rw [List.getElem?_set]
    split
    · rename_i e; subst e; simp [hxl]
    · exact h.done j h1 h2 y hy
theorem WInv.close {es : List It} {n : Nat} {bs : List Bool} {m : Nat} (h : WInv es n bs (m + 1)) (hk : ∀ x ∈ kidsE es allE m, bs[x]? = some true) : WInv es n bs m :=
  ⟨h.len, h.self, h.inn, fun j h1 h2 => by
    by_cases e : j = m
    · subst e; exact hk
    · exact h.done j (by omega) h2⟩
theorem WInv.fin {es : List It} {n : Nat} {bs : List Bool} (h : WInv es n bs 0) (j : Nat) : bs[j]? = some true ↔ In es allE n j := by
  refine ⟨h.inn j, fun hi => ?_⟩
  induction hi with
  | self => exact h.self
  | kid _ hx ih => exact h.done _ (Nat.zero_le _) ih _ hx

def flagCells (bs : List Bool) : List Value := bs.map Value.bool
theorem infoB1 : (Tryz.prog.info? 4).map (fun i => (i.zero, i.size, i.bytes)) = some (some (.bool false), 1, 1) := by kernel_rfl

/-- Around the outer loop: v4 is the place that comes. -/
def WORel (w : World) (es : List It) (n g : Nat) (v4 : Value) (wr : World) : Prop :=
  ∃ (m : Nat) (i : Int) (bs : List Bool), v4 = .int .i64 i ∧ i = (m : Int) - 1 ∧ m ≤ n + 1 ∧ WInv es n bs m ∧ wr.ownsRow w.heap.size 4 1 (.slice (some ⟨g, 0, none⟩) es.length es.length) es.length (flagCells bs) ∧ Below w.heap.size w wr
/-- Around the inner one, which is at kid k of place m. -/
def WIRel (w : World) (es : List It) (n g m : Nat) (v5 : Value) (wr : World) : Prop :=
  ∃ (k : Nat) (bs : List Bool), v5 = .int .i64 (k : Int) ∧ k ≤ (expAt es m).xs.length ∧ WInv es n bs (m + 1) ∧ (bs[m]? = some true ∨ k = 0) ∧ (∀ x ∈ ((expAt es m).xs.take k).map Int.toNat, bs[x]? = some true) ∧ wr.ownsRow w.heap.size 4 1 (.slice (some ⟨g, 0, none⟩) es.length es.length) es.length (flagCells bs) ∧ Below w.heap.size w wr
theorem flagCells_set (bs : List Bool) (x : Nat) (b : Bool) : (flagCells bs).set x (.bool b) = flagCells (bs.set x b) := by simp [flagCells, List.map_set]
theorem boolAt {w : World} {base : Nat} {g N : Nat} {bs : List Bool} (h : w.ownsRow base 4 1 (.slice (some ⟨g, 0, none⟩) N N) N (flagCells bs)) (hl : bs.length = N) (i : Nat) (hi : i < N) : w.cell? ⟨g, i, none⟩ = some (.bool (bs.getD i false)) := by
  rw [h.cellAt i (by omega)]
  simp [flagCells, List.getD, List.getElem?_eq_getElem (show i < bs.length by omega)]

end Go.Proofs.YtilijbpbnlnhlaaGreat.Pr
