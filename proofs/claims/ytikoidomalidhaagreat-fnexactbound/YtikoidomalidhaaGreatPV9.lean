/-
  THE WALK of impl.ExpVars: hasForm, isExpPlace, partsOf, namesAt, inOrder.
-/
import Derived.Test.YtikoidomalidhaaGreatPV5
import Derived.Test.YtikoidomalidhaaGreatPV8
import Derived.Test.YtikoidomalidhaaGreatPIA
namespace Go.Proofs.YtikoidomalidhaaGreat.Pr
open Go Go.RowKit Go.Maps Go.WideMaps Go.Sort Go.Proofs

set_option maxRecDepth 100000 in
set_option maxHeartbeats 2000000 in
theorem entersAll : Enters (.func (.func 61) #[] #[]) allE := by
  refine ⟨_, rfl, enters_of Tryz.func61 (by kernel_rfl) rfl, fun w x a c => ?_⟩
  have hb0 : Below w.heap.size w (w.alloc (.cells #[.int .i64 x.k, .string x.s, .slice a x.xs.length c] 50)) := (Below.refl _ _).alloc (Nat.le_refl _) _
  generalize x.k = kk at *
  generalize x.s = ss at *
  generalize x.xs.length = nn at *
  go_enter Tryz.func61, Tryz.ntmps61
  go_wp2
  go_ret
  exact ⟨rfl, by first | exact hb0 | exact Below.refl _ _⟩

set_option maxRecDepth 100000 in
set_option maxHeartbeats 2000000 in
theorem partsOf_any (u : Ru) (n : Nat) (vs : List Value) (S : Nat → Prop) (w : World) (hF : FRu S w vs u) (hS : ∀ b, S b → b < w.heap.size) (T : TreeOk u.es) (hn : n < u.es.length) :
    Calls Tryz.prog 39 #[.agg vs.toArray, .int .i64 (n : Int)] w fun e w' => (∃ (g cap : Nat), e = .returned (.slice (some ⟨g, 0, none⟩) (parts u.es allE n).length cap) ∧ w'.ownsRow w.heap.size 3 1 (.slice (some ⟨g, 0, none⟩) (parts u.es allE n).length cap) (parts u.es allE n).length (intCells (ints (parts u.es allE n)))) ∧ Below w.heap.size w w' := by
  have hF0 := hF
  obtain ⟨aes, ces, ahd, chd, abd, cbd, rfl, r0, r1, r2⟩ := hF
  have hb0 : Below w.heap.size w (w.alloc (.cells #[.slice aes u.es.length ces, .int .i64 u.hd.k, .string u.hd.s, .slice ahd u.hd.xs.length chd, .slice abd u.bd.length cbd] 36)) := (Below.refl _ _).alloc (Nat.le_refl _) _
  have k0 := heap_alloc_new w (.cells #[.slice aes u.es.length ces, .int .i64 u.hd.k, .string u.hd.s, .slice ahd u.hd.xs.length chd, .slice abd u.bd.length cbd] 36)
  obtain ⟨w0, hw0⟩ : ∃ w0, w.alloc (.cells #[.slice aes u.es.length ces, .int .i64 u.hd.k, .string u.hd.s, .slice ahd u.hd.xs.length chd, .slice abd u.bd.length cbd] 36) = w0 := ⟨_, rfl⟩
  rw [hw0] at hb0 k0
  have HPW := Lib.hid (partsWhere_any u n _ allE entersAll _ S w0 (FRu_keeps.1 _ _ _ _ _ hF0 (Same.below hS hb0)) (fun b h => Nat.lt_of_lt_of_le (hS b h) hb0.size) T hn)
  have HB0 := Lib.hid hb0
  have q0 := cell_of_row _ w.heap.size 0 _ _ _ k0
  have q1 := cell_of_row _ w.heap.size 1 _ _ _ k0
  have q2 := cell_of_row _ w.heap.size 2 _ _ _ k0
  have q3 := cell_of_row _ w.heap.size 3 _ _ _ k0
  have q4 := cell_of_row _ w.heap.size 4 _ _ _ k0
  simp only [List.getElem?_toArray, List.getElem?_cons_zero, List.getElem?_cons_succ] at q0 q1 q2 q3 q4
  clear hF0 r0 r1 r2 hS hb0 k0 T hn
  go_enter Tryz.func39, Tryz.ntmps39
  go_wp2_with fail
  refine HPW.out.mono ?_
  rintro e w1 ⟨⟨g, cap, rfl, hown⟩, hb1⟩
  have HP := Lib.hid (And.intro (owns_mono HB0.out.size hown) (below_step HB0.out hb1))
  clear hown hb1 HPW
  go_wp2
  go_ret
  exact ⟨⟨g, cap, rfl, HP.out.1⟩, HP.out.2⟩

set_option maxRecDepth 100000 in
set_option maxHeartbeats 2000000 in
theorem hasForm_any (u : Ru) (vs : List Value) (S : Nat → Prop) (w : World) (hF : FRu S w vs u) (hS : ∀ b, S b → b < w.heap.size) (hw : u.wt ≤ 1048576) :
    Calls Tryz.prog 25 #[.agg vs.toArray] w fun e w' => (∃ r : Bool, e = .returned (.bool r) ∧ (r = true ↔ RuleOk u)) ∧ Below w.heap.size w w' := by
  have hF0 := hF
  obtain ⟨aes, ces, ahd, chd, abd, cbd, rfl, r0, r1, r2⟩ := hF
  have hb0 : Below w.heap.size w (w.alloc (.cells #[.slice aes u.es.length ces, .int .i64 u.hd.k, .string u.hd.s, .slice ahd u.hd.xs.length chd, .slice abd u.bd.length cbd] 36)) := (Below.refl _ _).alloc (Nat.le_refl _) _
  have k0 := heap_alloc_new w (.cells #[.slice aes u.es.length ces, .int .i64 u.hd.k, .string u.hd.s, .slice ahd u.hd.xs.length chd, .slice abd u.bd.length cbd] 36)
  obtain ⟨w0, hw0⟩ : ∃ w0, w.alloc (.cells #[.slice aes u.es.length ces, .int .i64 u.hd.k, .string u.hd.s, .slice ahd u.hd.xs.length chd, .slice abd u.bd.length cbd] 36) = w0 := ⟨_, rfl⟩
  rw [hw0] at hb0 k0
  have HI := Lib.hid (implRule_any u _ S w0 (FRu_keeps.1 _ _ _ _ _ hF0 (Same.below hS hb0)) (fun b h => Nat.lt_of_lt_of_le (hS b h) hb0.size) hw)
  have HB0 := Lib.hid hb0
  have q0 := cell_of_row _ w.heap.size 0 _ _ _ k0
  have q1 := cell_of_row _ w.heap.size 1 _ _ _ k0
  have q2 := cell_of_row _ w.heap.size 2 _ _ _ k0
  have q3 := cell_of_row _ w.heap.size 3 _ _ _ k0
  have q4 := cell_of_row _ w.heap.size 4 _ _ _ k0
  simp only [List.getElem?_toArray, List.getElem?_cons_zero, List.getElem?_cons_succ] at q0 q1 q2 q3 q4
  clear hF0 r0 r1 r2 hS hb0 k0 hw
  go_enter Tryz.func25, Tryz.ntmps25
  go_wp2_with fail
  refine HI.out.mono ?_
  rintro e w1 ⟨rfl, hb1⟩
  have HB1 := Lib.hid (below_step HB0.out hb1)
  clear hb1 HI q0 q1 q2 q3 q4
  by_cases hok : RuleOk u
  · have hne : (ruleAns u).toList.isEmpty = false := by have := ruleAns_some hok; cases h : (ruleAns u).toList with
      | nil => rw [h] at this; cases this
      | cons a l => rfl
    have HOK := Lib.hid hok
    clear hok
    generalize ruleAns u = A at *
    go_wp2
    go_ret
    exact ⟨⟨true, rfl, by simp [HOK.out]⟩, HB1.out⟩
  · have hne : (ruleAns u).toList.isEmpty = true := by have := ruleAns_none hok; cases h : (ruleAns u).toList with
      | nil => rfl
      | cons a l => rw [h] at this; cases this
    have HOK := Lib.hid hok
    clear hok
    generalize ruleAns u = A at *
    go_wp2
    go_ret
    exact ⟨⟨false, rfl, by simp [HOK.out]⟩, HB1.out⟩

set_option maxRecDepth 100000 in
set_option maxHeartbeats 2000000 in
theorem isExpPlace_any (u : Ru) (n : Int) (vs : List Value) (S : Nat → Prop) (w : World) (hF : FRu S w vs u) (hl : u.es.length ≤ 1048576) :
    Calls Tryz.prog 37 #[.agg vs.toArray, .int .i64 n] w fun e w' => e = .returned (.bool (decide (0 ≤ n) && decide (n < (u.es.length : Int)))) ∧ Below w.heap.size w w' := by
  obtain ⟨aes, ces, ahd, chd, abd, cbd, rfl, r0, r1, r2⟩ := hF
  have hb0 : Below w.heap.size w (w.alloc (.cells #[.slice aes u.es.length ces, .int .i64 u.hd.k, .string u.hd.s, .slice ahd u.hd.xs.length chd, .slice abd u.bd.length cbd] 36)) := (Below.refl _ _).alloc (Nat.le_refl _) _
  have HB0 := Lib.hid hb0
  clear r0 r1 r2 hb0
  by_cases h0 : 0 ≤ n
  · have hd0 : decide (0 ≤ n) = true := decide_eq_true h0
    by_cases h1 : n < (u.es.length : Int)
    · have hd1 : decide (n < (u.es.length : Int)) = true := decide_eq_true h1
      rw [hd0, hd1]
      go_enter Tryz.func37, Tryz.ntmps37
      go_wp2
      go_ret
      exact ⟨rfl, HB0.out⟩
    · have hd1 : decide (n < (u.es.length : Int)) = false := decide_eq_false h1
      rw [hd0, hd1]
      go_enter Tryz.func37, Tryz.ntmps37
      go_wp2
      go_ret
      exact ⟨rfl, HB0.out⟩
  · have hd0 : decide (0 ≤ n) = false := decide_eq_false h0
    rw [hd0]
    go_enter Tryz.func37, Tryz.ntmps37
    go_wp2
    go_ret
    exact ⟨rfl, HB0.out⟩

theorem own_ints {w : World} {base g cap : Nat} {L : List Nat} (h : w.ownsRow base 3 1 (.slice (some ⟨g, 0, none⟩) L.length cap) L.length (intCells (ints L))) : IntsIn (Seg base w.heap.size) w (some ⟨g, 0, none⟩) (ints L) := by
  obtain ⟨cur, h1, h2, _⟩ := own_block h
  intro i hi
  rw [ints_len] at hi
  refine ⟨g, 0, rfl, ⟨h1, lt_of_block h2⟩, ?_⟩
  rw [Nat.zero_add, h.cellAt i (by omega)]
  simp [intCells, ints_len, hi]
theorem ranked_named {u : Ru} (hw : u.wt ≤ 1048576) {P : List Nat} (hr : P.Pairwise (· < ·)) (hl : ∀ m ∈ P, m < u.es.length) (hp : P.length ≤ 1048576) : Ranked (named u.es P) := by
  refine ⟨named_apart _ _, named_rise hr, fun p hp => ?_, ?_⟩
  · obtain ⟨a, ha, rfl⟩ := List.mem_map.1 hp
    have hal := hl a ((firsts_sub u.es P).subset ha)
    show (expAt u.es a).s.size ≤ _
    rw [expAt_lt hal]
    have h1 := wsum_mem It.wt (List.getElem_mem hal)
    unfold Ru.wt wtExpS at hw
    have h2 : u.es[a].s.size ≤ u.es[a].wt := by unfold It.wt; omega
    omega
  · unfold named
    rw [List.length_map]
    exact Nat.le_trans (firsts_len _ _) hp

def PoPost (w2 : World) (P : List Nat) (e : Ending) (w' : World) : Prop := (∃ g cap : Nat, e = .returned (.slice (some ⟨g, 0, none⟩) P.length cap) ∧ w'.ownsRow w2.heap.size 3 1 (.slice (some ⟨g, 0, none⟩) P.length cap) P.length (intCells (ints P))) ∧ Below w2.heap.size w2 w'
def NaPost (w2 : World) (es : List It) (P : List Nat) (e : Ending) (w' : World) : Prop := (∃ (B n : Nat) (D : DataW Unit), e = .returned (.map (some B)) ∧ NameMap D (named es P) ∧ w'.ownsMap Tryz.prog 9 (plainElem Tryz.prog 3) B n D) ∧ Below w2.heap.size w2 w'
def IoPost (w2 : World) (xs : List ByteArray) (e : Ending) (w' : World) : Prop := (∃ v : Value, e = .returned v ∧ w'.ownsRow w2.heap.size 9 1 v xs.length (txtCells xs)) ∧ Below w2.heap.size w2 w'

set_option maxRecDepth 100000 in
set_option maxHeartbeats 2000000 in
theorem implExpVars_any (u : Ru) (n : Int) (vs : List Value) (S : Nat → Prop) (w : World) (hF : FRu S w vs u) (hS : ∀ b, S b → b < w.heap.size) (hw : u.wt ≤ 1048576) : Calls Tryz.prog 15 #[.agg vs.toArray, .int .i64 n] w (VarsPost u n w) := by
  have hF0 := hF
  obtain ⟨aes, ces, ahd, chd, abd, cbd, rfl, r0, r1, r2⟩ := hF
  have hb0 : Below w.heap.size w (w.alloc (.cells #[.slice aes u.es.length ces, .int .i64 u.hd.k, .string u.hd.s, .slice ahd u.hd.xs.length chd, .slice abd u.bd.length cbd] 36)) := (Below.refl _ _).alloc (Nat.le_refl _) _
  have k0 := heap_alloc_new w (.cells #[.slice aes u.es.length ces, .int .i64 u.hd.k, .string u.hd.s, .slice ahd u.hd.xs.length chd, .slice abd u.bd.length cbd] 36)
  obtain ⟨w0, hw0⟩ : ∃ w0, w.alloc (.cells #[.slice aes u.es.length ces, .int .i64 u.hd.k, .string u.hd.s, .slice ahd u.hd.xs.length chd, .slice abd u.bd.length cbd] 36) = w0 := ⟨_, rfl⟩
  rw [hw0] at hb0 k0
  have hel : u.es.length ≤ 1048576 := by unfold Ru.wt wtExpS at hw; omega
  have HHF := Lib.hid (hasForm_any u _ S w0 (FRu_keeps.1 _ _ _ _ _ hF0 (Same.below hS hb0)) (fun b h => Nat.lt_of_lt_of_le (hS b h) hb0.size) hw)
  have HF := Lib.hid (fun (W : World) (h : Below w.heap.size w W) => FRu_keeps.1 _ _ _ _ _ hF0 (Same.below hS h))
  have HS := Lib.hid (fun (W : World) (h : Below w.heap.size w W) (b : Nat) (hb : S b) => Nat.lt_of_lt_of_le (hS b hb) h.size)
  have HB0 := Lib.hid hb0
  have HK0 := Lib.hid k0
  have HW := Lib.hid hw
  have q0 := cell_of_row _ w.heap.size 0 _ _ _ k0
  have q1 := cell_of_row _ w.heap.size 1 _ _ _ k0
  have q2 := cell_of_row _ w.heap.size 2 _ _ _ k0
  have q3 := cell_of_row _ w.heap.size 3 _ _ _ k0
  have q4 := cell_of_row _ w.heap.size 4 _ _ _ k0
  simp only [List.getElem?_toArray, List.getElem?_cons_zero, List.getElem?_cons_succ] at q0 q1 q2 q3 q4
  clear hF0 r0 r1 r2 hS hb0 k0 hw
  go_enter Tryz.func15, Tryz.ntmps15
  go_wp2_with fail
  refine HHF.out.mono ?_
  rintro e w1 ⟨⟨r, rfl, hr⟩, hb1⟩
  have HB1 := Lib.hid (below_step HB0.out hb1)
  have K1 := (hb1.block _ (lt_of_block HK0.out)).trans HK0.out
  have hg1 : w.heap.size < w1.heap.size := lt_of_block K1
  clear q0 q1 q2 q3 q4 HHF hb1
  have q0 := cell_of_row _ w.heap.size 0 _ _ _ K1
  have q1 := cell_of_row _ w.heap.size 1 _ _ _ K1
  have q2 := cell_of_row _ w.heap.size 2 _ _ _ K1
  have q3 := cell_of_row _ w.heap.size 3 _ _ _ K1
  have q4 := cell_of_row _ w.heap.size 4 _ _ _ K1
  simp only [List.getElem?_toArray, List.getElem?_cons_zero, List.getElem?_cons_succ] at q0 q1 q2 q3 q4
  have HNIL := Lib.hid (fun (W : World) (hW : Below w1.heap.size w1 W) (h : ¬ (RuleOk u ∧ 0 ≤ n ∧ n < (u.es.length : Int))) => (⟨⟨_, rfl, by rw [varsAns_no h]; exact World.ownsRow_nil _ _ _ _⟩, below_step HB1.out hW⟩ : VarsPost u n w (.returned (.slice none 0 0)) W))
  cases r with
  | false =>
    have HP := Lib.hid (HNIL.out w1 (Below.refl _ _) (fun h => by have := hr.2 h.1; cases this))
    clear hr K1 HNIL
    go_wp2
    go_ret
    exact HP.out
  | true =>
    have HOK := Lib.hid (hr.1 rfl)
    have HIP := Lib.hid (isExpPlace_any u n _ S w1 (HF.out w1 HB1.out) hel)
    have HK1 := Lib.hid K1
    clear hr K1
    go_wp2_with fail
    refine HIP.out.mono ?_
    rintro e w2 ⟨rfl, hb2⟩
    have HB2 := Lib.hid (below_step HB1.out hb2)
    have K2 := (hb2.block _ hg1).trans HK1.out
    have hg2 : w.heap.size < w2.heap.size := lt_of_block K2
    clear q0 q1 q2 q3 q4 HIP
    have q0 := cell_of_row _ w.heap.size 0 _ _ _ K2
    have q1 := cell_of_row _ w.heap.size 1 _ _ _ K2
    have q2 := cell_of_row _ w.heap.size 2 _ _ _ K2
    have q3 := cell_of_row _ w.heap.size 3 _ _ _ K2
    have q4 := cell_of_row _ w.heap.size 4 _ _ _ K2
    simp only [List.getElem?_toArray, List.getElem?_cons_zero, List.getElem?_cons_succ] at q0 q1 q2 q3 q4
    by_cases hin : 0 ≤ n ∧ n < (u.es.length : Int)
    · have hd : (decide (0 ≤ n) && decide (n < (u.es.length : Int))) = true := by simp; omega
      rw [hd]
      obtain ⟨m, rfl⟩ := Int.eq_ofNat_of_zero_le hin.1
      have hml : m < u.es.length := by omega
      have T := HOK.out.good.tree
      obtain ⟨P, hP⟩ : ∃ P, parts u.es allE m = P := ⟨_, rfl⟩
      have hPl : P.length ≤ 60 := by
        rw [← hP]
        unfold parts
        refine Nat.le_trans (List.length_filter_le _ _) ?_
        have := T.few
        simp; omega
      have hPm : ∀ x ∈ P, x < u.es.length := fun x hx => by rw [← hP] at hx; have := ((mem_parts T hml).1 hx).le T hml; omega
      have hans : (named u.es P).map Prod.fst = varsAns u (m : Int) := by rw [varsAns_ok HOK.out hml, named_names, ← hP]; rfl
      have hRk := ranked_named HW.out (P := P) (by rw [← hP]; exact parts_rise _ _ _) hPm (by omega)
      have HPO := Lib.hid (fun (W : World) (hW : Below w2.heap.size w2 W) => (show Calls Tryz.prog 39 #[.agg #[.slice aes u.es.length ces, .int .i64 u.hd.k, .string u.hd.s, .slice ahd u.hd.xs.length chd, .slice abd u.bd.length cbd], .int .i64 (m : Int)] W (PoPost w2 P) from (partsOf_any u m _ S W (HF.out W (below_step HB2.out hW)) (HS.out W (below_step HB2.out hW)) T hml).mono (fun e w' h => by
        obtain ⟨⟨g, cap, rfl, ho⟩, hb⟩ := h
        rw [hP] at ho ⊢
        exact ⟨⟨g, cap, rfl, owns_mono hW.size ho⟩, below_step hW hb⟩)))
      have HNA := Lib.hid (fun (W : World) (hW : Below w2.heap.size w2 W) (g cap : Nat) (ho : W.ownsRow w2.heap.size 3 1 (.slice (some ⟨g, 0, none⟩) P.length cap) P.length (intCells (ints P))) => (show Calls Tryz.prog 38 #[.agg #[.slice aes u.es.length ces, .int .i64 u.hd.k, .string u.hd.s, .slice ahd u.hd.xs.length chd, .slice abd u.bd.length cbd], .slice (some ⟨g, 0, none⟩) P.length cap] W (NaPost w2 u.es P) from (namesAt_any u P _ cap _ S _ W (HF.out W (below_step HB2.out hW)) (HS.out W (below_step HB2.out hW)) HW.out (own_ints ho) (fun b h => h.2) hPm (by omega)).mono (fun e w' h => by
        obtain ⟨⟨B, k, D, rfl, _, _, hN, ho'⟩, hb⟩ := h
        exact ⟨⟨B, k, D, rfl, hN, ho'⟩, below_step hW hb⟩)))
      have HIO := Lib.hid (fun (W : World) (hW : Below w2.heap.size w2 W) (B k : Nat) (D : DataW Unit) (hN : NameMap D (named u.es P)) (ho : W.ownsMap Tryz.prog 9 (plainElem Tryz.prog 3) B k D) => (show Calls Tryz.prog 27 #[.map (some B)] W (IoPost w2 (varsAns u (m : Int))) from (inOrder_any _ hRk B k D W hN ho).mono (fun e w' h => by
        obtain ⟨⟨v, rfl, ho'⟩, hb⟩ := h
        rw [hans] at ho'
        exact ⟨⟨v, rfl, owns_mono hW.size ho'⟩, below_step hW hb⟩)))
      have hB0 : Below w2.heap.size w2 w2 := Below.refl _ _
      clear hd hin hans hRk hPm hPl hP T K2 hb2 HNIL HK1
      go_wp2
      go_region_held3 (fun w' => w'.cell? ⟨w.heap.size, 0, none⟩ = some (.slice aes u.es.length ces) ∧ w'.cell? ⟨w.heap.size, 1, none⟩ = some (.int .i64 u.hd.k) ∧ w'.cell? ⟨w.heap.size, 2, none⟩ = some (.string u.hd.s) ∧ w'.cell? ⟨w.heap.size, 3, none⟩ = some (.slice ahd u.hd.xs.length chd) ∧ w'.cell? ⟨w.heap.size, 4, none⟩ = some (.slice abd u.bd.length cbd) ∧ Below w2.heap.size w2 w')
        (refine ⟨?_, ?_, ?_, ?_, ?_, ?_⟩ <;> (first | assumption | (simp [*]; done) | (apply Below.drew; assumption)))
        (first
          | (go_at_call 39
             refine (HPO.out _ (by first | assumption | (apply Below.drew; assumption))).mono ?_
             rintro e7 w7 ⟨⟨g7, cap7, rfl, ho7⟩, hb7⟩
             have HO7 := Lib.hid ho7
             have z70 := (hb7.cell (p := ⟨w.heap.size, 0, none⟩) hg2).trans q0
             have z71 := (hb7.cell (p := ⟨w.heap.size, 1, none⟩) hg2).trans q1
             have z72 := (hb7.cell (p := ⟨w.heap.size, 2, none⟩) hg2).trans q2
             have z73 := (hb7.cell (p := ⟨w.heap.size, 3, none⟩) hg2).trans q3
             have z74 := (hb7.cell (p := ⟨w.heap.size, 4, none⟩) hg2).trans q4
             clear ho7)
          | (go_at_call 38
             refine (HNA.out w7 (by assumption) g7 cap7 HO7.out).mono ?_
             rintro e8 w8 ⟨⟨B8, k8, D8, rfl, hN8, ho8⟩, hb8⟩
             have HO8 := Lib.hid ho8
             have HN8 := Lib.hid hN8
             have z80 := (hb8.cell (p := ⟨w.heap.size, 0, none⟩) hg2).trans q0
             have z81 := (hb8.cell (p := ⟨w.heap.size, 1, none⟩) hg2).trans q1
             have z82 := (hb8.cell (p := ⟨w.heap.size, 2, none⟩) hg2).trans q2
             have z83 := (hb8.cell (p := ⟨w.heap.size, 3, none⟩) hg2).trans q3
             have z84 := (hb8.cell (p := ⟨w.heap.size, 4, none⟩) hg2).trans q4
             clear ho8 hN8)
          | (go_at_call 27
             refine (HIO.out w8 (by assumption) B8 k8 D8 HN8.out HO8.out).mono ?_
             rintro e9 w9 ⟨⟨v9, rfl, ho9⟩, hb9⟩
             obtain ⟨av9, cv9, rfl⟩ := owns_shape ho9
             have HO9 := Lib.hid ho9
             have z90 := (hb9.cell (p := ⟨w.heap.size, 0, none⟩) hg2).trans q0
             have z91 := (hb9.cell (p := ⟨w.heap.size, 1, none⟩) hg2).trans q1
             have z92 := (hb9.cell (p := ⟨w.heap.size, 2, none⟩) hg2).trans q2
             have z93 := (hb9.cell (p := ⟨w.heap.size, 3, none⟩) hg2).trans q3
             have z94 := (hb9.cell (p := ⟨w.heap.size, 4, none⟩) hg2).trans q4
             clear ho9)
          | fail)
      have HP := Lib.hid (show VarsPost u (m : Int) w (.returned (.slice av9 (varsAns u (m : Int)).length cv9)) w9 from ⟨⟨_, rfl, owns_mono HB2.out.size HO9.out⟩, below_step HB2.out hb9⟩)
      clear HPO HNA HIO z70 z71 z72 z73 z74 z80 z81 z82 z83 z84 z90 z91 z92 z93 z94 q0 q1 q2 q3 q4
      go_wp2
      go_ret
      exact HP.out
    · have hd : (decide (0 ≤ n) && decide (n < (u.es.length : Int))) = false := by rw [Bool.and_eq_false_iff, decide_eq_false_iff_not, decide_eq_false_iff_not]; omega
      rw [hd]
      have HP := Lib.hid (HNIL.out w2 hb2 (fun h => hin h.2))
      clear K2 HNIL hd hin hb2
      go_wp2
      go_ret
      exact HP.out

end Go.Proofs.YtikoidomalidhaaGreat.Pr
