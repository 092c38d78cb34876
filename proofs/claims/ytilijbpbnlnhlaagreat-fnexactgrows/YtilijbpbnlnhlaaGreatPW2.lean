/-
  THE WALKS of impl.isSum, partsOutsideSums, allParts.
-/
import Derived.Test.YtilijbpbnlnhlaaGreatPW1
import Derived.Test.YtilijbpbnlnhlaaGreatPV9
namespace Go.Proofs.YtilijbpbnlnhlaaGreat.Pr
open Go Go.RowKit Go.Maps Go.WideMaps Go.Sort Go.Proofs

set_option maxRecDepth 100000 in
set_option maxHeartbeats 2000000 in
theorem isSum_any (k : Int) (s : ByteArray) (a : Option Addr) (n c : Nat) (w : World) :
    Calls Tryz.prog 76 #[.agg #[.int .i64 k, .string s, .slice a n c]] w fun e w' => e = .returned (.bool (isSum k)) ∧ Below w.heap.size w w' := by
  have hb0 : Below w.heap.size w (w.alloc (.cells #[.int .i64 k, .string s, .slice a n c] 49)) := (Below.refl _ _).alloc (Nat.le_refl _) _
  by_cases h5 : k = 5
  · subst h5
    go_enter Tryz.func76, Tryz.ntmps76
    go_wp2
    go_ret
    exact ⟨rfl, hb0⟩
  · by_cases h6 : k = 6
    · subst h6
      go_enter Tryz.func76, Tryz.ntmps76
      go_wp2
      go_ret
      exact ⟨rfl, hb0⟩
    · by_cases h7 : k = 7
      · subst h7
        go_enter Tryz.func76, Tryz.ntmps76
        go_wp2
        go_ret
        exact ⟨rfl, hb0⟩
      · have e5 : (k == 5) = false := by simp [h5]
        have e6 : (k == 6) = false := by simp [h6]
        have e7 : (k == 7) = false := by simp [h7]
        have hs : isSum k = false := by
          unfold isSum
          rw [Bool.and_eq_false_iff, decide_eq_false_iff_not, decide_eq_false_iff_not]
          omega
        rw [hs]
        clear h5 h6 h7 hs
        go_enter Tryz.func76, Tryz.ntmps76
        go_wp2
        go_ret
        exact ⟨rfl, hb0⟩

set_option maxRecDepth 100000 in
set_option maxHeartbeats 2000000 in
theorem entersNoSum : Enters (.func (.func 107) #[] #[]) noSumE := by
  refine ⟨_, rfl, enters_of Tryz.func107 (by kernel_rfl) rfl, fun w x a c => ?_⟩
  have hb0 : Below w.heap.size w (w.alloc (.cells #[.int .i64 x.k, .string x.s, .slice a x.xs.length c] 49)) := (Below.refl _ _).alloc (Nat.le_refl _) _
  have k0 := heap_alloc_new w (.cells #[.int .i64 x.k, .string x.s, .slice a x.xs.length c] 49)
  obtain ⟨w0, hw0⟩ : ∃ w0, w.alloc (.cells #[.int .i64 x.k, .string x.s, .slice a x.xs.length c] 49) = w0 := ⟨_, rfl⟩
  rw [hw0] at hb0 k0
  have HI := Lib.hid (isSum_any x.k x.s a x.xs.length c w0)
  have HB0 := Lib.hid hb0
  have q0 := cell_of_row _ w.heap.size 0 _ _ _ k0
  have q1 := cell_of_row _ w.heap.size 1 _ _ _ k0
  have q2 := cell_of_row _ w.heap.size 2 _ _ _ k0
  simp only [List.getElem?_toArray, List.getElem?_cons_zero, List.getElem?_cons_succ] at q0 q1 q2
  have hn : noSumE x = !isSum x.k := rfl
  rw [hn]
  clear hb0 k0 hn
  go_enter Tryz.func107, Tryz.ntmps107
  go_wp2_with fail
  refine HI.out.mono ?_
  rintro e w1 ⟨rfl, hb1⟩
  have HB1 := Lib.hid (below_step HB0.out hb1)
  clear hb1 HI q0 q1 q2
  cases hs : isSum x.k with
  | true =>
    go_wp2
    go_ret
    exact ⟨by rw [hs]; rfl, HB1.out⟩
  | false =>
    go_wp2
    go_ret
    exact ⟨by rw [hs]; rfl, HB1.out⟩

set_option maxRecDepth 100000 in
set_option maxHeartbeats 2000000 in
theorem partsOut_any (u : Ru) (n : Nat) (vs : List Value) (S : Nat → Prop) (w : World) (hF : FRu S w vs u) (hS : ∀ b, S b → b < w.heap.size) (T : TreeOk u.es) (hn : n < u.es.length) :
    Calls Tryz.prog 85 #[.agg vs.toArray, .int .i64 (n : Int)] w fun e w' => (∃ (g cap : Nat), e = .returned (.slice (some ⟨g, 0, none⟩) (parts u.es noSumE n).length cap) ∧ w'.ownsRow w.heap.size 3 1 (.slice (some ⟨g, 0, none⟩) (parts u.es noSumE n).length cap) (parts u.es noSumE n).length (intCells (ints (parts u.es noSumE n)))) ∧ Below w.heap.size w w' := by
  have hF0 := hF
  obtain ⟨aes, ces, ahd, chd, abd, cbd, rfl, r0, r1, r2⟩ := hF
  have hb0 : Below w.heap.size w (w.alloc (.cells #[.slice aes u.es.length ces, .int .i64 u.hd.k, .string u.hd.s, .slice ahd u.hd.xs.length chd, .slice abd u.bd.length cbd] 36)) := (Below.refl _ _).alloc (Nat.le_refl _) _
  have k0 := heap_alloc_new w (.cells #[.slice aes u.es.length ces, .int .i64 u.hd.k, .string u.hd.s, .slice ahd u.hd.xs.length chd, .slice abd u.bd.length cbd] 36)
  obtain ⟨w0, hw0⟩ : ∃ w0, w.alloc (.cells #[.slice aes u.es.length ces, .int .i64 u.hd.k, .string u.hd.s, .slice ahd u.hd.xs.length chd, .slice abd u.bd.length cbd] 36) = w0 := ⟨_, rfl⟩
  rw [hw0] at hb0 k0
  have HPW := Lib.hid (partsWhere_any u n _ noSumE entersNoSum _ S w0 (FRu_keeps.1 _ _ _ _ _ hF0 (Same.below hS hb0)) (fun b h => Nat.lt_of_lt_of_le (hS b h) hb0.size) T hn)
  have HB0 := Lib.hid hb0
  have q0 := cell_of_row _ w.heap.size 0 _ _ _ k0
  have q1 := cell_of_row _ w.heap.size 1 _ _ _ k0
  have q2 := cell_of_row _ w.heap.size 2 _ _ _ k0
  have q3 := cell_of_row _ w.heap.size 3 _ _ _ k0
  have q4 := cell_of_row _ w.heap.size 4 _ _ _ k0
  simp only [List.getElem?_toArray, List.getElem?_cons_zero, List.getElem?_cons_succ] at q0 q1 q2 q3 q4
  clear hF0 r0 r1 r2 hS hb0 k0 T hn
  go_enter Tryz.func85, Tryz.ntmps85
  go_wp2_with fail
  refine HPW.out.mono ?_
  rintro e w1 ⟨⟨g, cap, rfl, hown⟩, hb1⟩
  have HP := Lib.hid (And.intro (owns_mono HB0.out.size hown) (below_step HB0.out hb1))
  clear hown hb1 HPW
  go_wp2
  go_ret
  exact ⟨⟨g, cap, rfl, HP.out.1⟩, HP.out.2⟩

theorem append_int (w : World) (base : Nat) (v : Value) (n : Nat) (xs : List Value) (hown : w.ownsRow base 3 1 v n xs) (x : Int) (g : Nat) (hg : w.heap[g]? = some (.cells #[.int .i64 x] 3 (0, 0))) (hn : n ≤ 1048576) (hbase : base ≤ w.heap.size) :
    ∃ g' cap w', (∀ ty, (Builtin.append_ #[23, 23] ty #[v, .slice (some ⟨g, 0, none⟩) 1 1]).run Tryz.prog w = .ok (.slice (some ⟨g', 0, none⟩) (n + 1) cap) w') ∧ w'.ownsRow base 3 1 (.slice (some ⟨g', 0, none⟩) (n + 1) cap) (n + 1) (xs ++ [.int .i64 x]) ∧ w.grownBy w' v.ownBlock ∧ (v.ownBlock = some g' ∨ g' = w.heap.size) := by
  obtain ⟨i0, hi0, hz0, hz1, hz2⟩ := info_parts infoIntS
  obtain ⟨g', cap, w', a1, a2, a3, a4, a5⟩ := run_append_lies (P := Tryz.prog) w 23 0 base 3 i0 _ 1 8 Tryz.underlying23 hi0 hz0 hz1 hz2 rfl (by omega) v n xs hown ⟨g, 0, none⟩ 1 1 [.int .i64 x] rfl
    (fun j u hu => by
      cases j with
      | zero => simp only [List.getElem?_cons_zero, Option.some.injEq] at hu; rw [hown_add, cell_of_row _ _ _ _ _ _ hg, ← hu]; rfl
      | succ j => simp at hu) (by intro u hu; rw [List.mem_singleton.1 hu]; rfl) (by omega) (by unfold maxLen; omega) (by omega) hbase w.heap.size rfl
  exact ⟨g', cap, w', fun ty => a1, a2, a3, a4⟩

def APRel (w0 : World) (n : Nat) (v v2 : Value) (wr : World) : Prop :=
  ∃ k : Nat, v2 = .int .i64 (k : Int) ∧ k ≤ n ∧ wr.ownsRow w0.heap.size 3 1 v k (intCells (ints (List.range k))) ∧ Below w0.heap.size w0 wr

set_option maxRecDepth 100000 in
set_option maxHeartbeats 2000000 in
theorem allParts_any (u : Ru) (vs : List Value) (S : Nat → Prop) (w : World) (hF : FRu S w vs u) (hl : u.es.length ≤ 1048576) :
    Calls Tryz.prog 69 #[.agg vs.toArray] w fun e w' => (∃ (a : Option Addr) (c : Nat), e = .returned (.slice a u.es.length c) ∧ w'.ownsRow w.heap.size 3 1 (.slice a u.es.length c) u.es.length (intCells (ints (List.range u.es.length)))) ∧ Below w.heap.size w w' := by
  obtain ⟨aes, ces, ahd, chd, abd, cbd, rfl, r0, r1, r2⟩ := hF
  have hb0 : Below w.heap.size w (w.alloc (.cells #[.slice aes u.es.length ces, .int .i64 u.hd.k, .string u.hd.s, .slice ahd u.hd.xs.length chd, .slice abd u.bd.length cbd] 36)) := (Below.refl _ _).alloc (Nat.le_refl _) _
  have k0 := heap_alloc_new w (.cells #[.slice aes u.es.length ces, .int .i64 u.hd.k, .string u.hd.s, .slice ahd u.hd.xs.length chd, .slice abd u.bd.length cbd] 36)
  obtain ⟨w0, hw0⟩ : ∃ w0, w.alloc (.cells #[.slice aes u.es.length ces, .int .i64 u.hd.k, .string u.hd.s, .slice ahd u.hd.xs.length chd, .slice abd u.bd.length cbd] 36) = w0 := ⟨_, rfl⟩
  rw [hw0] at hb0 k0
  have q0 := cell_of_row _ w.heap.size 0 _ _ _ k0
  simp only [List.getElem?_toArray, List.getElem?_cons_zero] at q0
  have HB0 := Lib.hid hb0
  clear r0 r1 r2 hb0 k0
  go_enter Tryz.func69, Tryz.ntmps69
  go_wp2
  clear q0
  go_loopw [3, 8] (fun v3 v8 wr => APRel w0 u.es.length v3 v8 wr) (fun _ v8 _ => (u.es.length - (intOf v8).toNat))
  case atStart => exact ⟨0, rfl, Nat.zero_le _, World.ownsRow_nil _ _ _ _, Below.refl _ _⟩
  case round =>
    obtain ⟨k, rfl, hk, hown, hb⟩ := hrel
    obtain ⟨av, cv, rfl⟩ := owns_shape hown
    by_cases hlt : k < u.es.length
    · obtain ⟨g', cap', w3, hrun, hown3, hg3, _⟩ := append_int (wr.alloc (.cells #[.int .i64 (k : Int)] 3)) w0.heap.size _ k _ (hown.alloc _) (k : Int) wr.heap.size (heap_alloc_new wr _) (by omega) (by have := hb.size; simp; omega)
      have HR := Lib.hid (show APRel w0 u.es.length (.slice (some ⟨g', 0, none⟩) (k + 1) cap') (.int .i64 ((k : Int) + 1)) w3 from ⟨k + 1, by go_num, by omega, by
          rw [List.range_succ, ints, List.map_append, intCells, List.map_append]
          exact hown3, (hb.alloc hb.size _).grown hg3 (by have := hb.size; simp; omega) (own_ge hown)⟩)
      have HRUN := Lib.hid hrun
      clear hrun hown3 hg3 hown hb
      go_wp2_with (first
        | (at_builtin
           refine wpList_append_run rfl (.tmp 11) (.tmp 13) _ rfl rfl rfl HRUN.out ?_))
      go_roundw
      case rel => exact HR.out
      case measure => (simp [intOf] <;> omega)
    · obtain rfl : k = u.es.length := by omega
      have hd : decide ((u.es.length : Int) < (u.es.length : Int)) = false := by simp
      have HO := Lib.hid hown
      have HB := Lib.hid hb
      clear hown hb
      go_wp2
      go_ret
      exact ⟨⟨av, cv, rfl, owns_mono HB0.out.size HO.out⟩, below_step HB0.out HB.out⟩

/-! ### Patterns -/

/-- The function value fv tells of each of these places what p says; it may lay new memory. -/
def Tells (fv : Value) (P : List Nat) (p : Nat → Bool) (w : World) : Prop :=
  ∃ (g bx : Nat), fv = .func (.func g) #[] #[.pointer (some ⟨bx, 0, none⟩)] ∧ (∀ args w, (callFunc g args).run Tryz.prog w = .ok (.enter g args) w) ∧
    ∀ m ∈ P, ∀ W, Below w.heap.size w W → Calls Tryz.prog g #[.int .i64 (m : Int), .pointer (some ⟨bx, 0, none⟩)] W fun e w' => e = .returned (.bool (p m)) ∧ Below W.heap.size W w'
def IFRel (w : World) (P : List Nat) (p : Nat → Bool) (v : Value) (wr : World) : Prop := ∃ k : Nat, v = .int .i64 (k : Int) ∧ k ≤ P.length ∧ (∀ m ∈ P.take k, p m = false) ∧ Below w.heap.size w wr

set_option maxRecDepth 100000 in
set_option maxHeartbeats 2000000 in
theorem indexFunc_any (P : List Nat) (fv : Value) (p : Nat → Bool) (a : Option Addr) (c : Nat) (M : Nat → Prop) (w : World) (hT : Tells fv P p w) (hP : IntsIn M w a (ints P)) (hM : ∀ b, M b → b < w.heap.size) (hl : P.length ≤ 1048576) :
    Calls Tryz.prog 119 #[.slice a P.length c, fv] w fun e w' => (∃ r : Int, e = .returned (.int .i64 r) ∧ (0 ≤ r ↔ ∃ m ∈ P, p m = true)) ∧ Below w.heap.size w w' := by
  obtain ⟨fg, bx, rfl, hfe, hfc⟩ := hT
  have HPP := Lib.hid hP
  have HM := Lib.hid hM
  have HFC := Lib.hid hfc
  have HFE := Lib.hid hfe
  clear hP hM hfc hfe
  go_enter Tryz.func119, Tryz.ntmps119
  go_wp2
  go_loopw [8] (fun v8 wr => IFRel w P p v8 wr) (fun v8 _ => (P.length - (intOf v8).toNat))
  case atStart => exact ⟨0, rfl, Nat.zero_le _, by simp, Below.refl _ _⟩
  case round =>
    obtain ⟨k, rfl, hk, hall, hb⟩ := hrel
    by_cases hlt : k < P.length
    · obtain ⟨b, off, ha, hMb, y0⟩ := HPP.out.kept (Same.below HM.out hb) k (by rw [ints_len]; exact hlt)
      subst ha
      have hgi : (ints P)[k]'(by rw [ints_len]; exact hlt) = (P[k] : Int) := by simp [ints]
      rw [hgi] at y0
      have hmem := List.getElem_mem hlt
      have HC := Lib.hid (HFC.out P[k] hmem wr hb)
      have HTK := Lib.hid (List.take_succ_eq_append_getElem hlt)
      have HALL := Lib.hid hall
      have HMEM := Lib.hid hmem
      have HB := Lib.hid hb
      have hfe := HFE.out
      clear hgi hmem hall hb hMb
      obtain ⟨m, hm⟩ : ∃ m, P[k] = m := ⟨_, rfl⟩
      rw [hm] at y0 HC HTK HMEM
      clear hm
      go_wp2_with fail
      refine HC.out.mono ?_
      rintro e w1 ⟨rfl, hb1⟩
      have HB1 := Lib.hid (below_step HB.out hb1)
      clear hb1 HC
      cases hp : p m with
      | true =>
        go_wp2
        go_ret
        exact ⟨⟨(k : Int), rfl, ⟨fun _ => ⟨m, HMEM.out, hp⟩, fun _ => by omega⟩⟩, HB1.out⟩
      | false =>
        have HR := Lib.hid (show IFRel w P p (.int .i64 ((k : Int) + 1)) w1 from ⟨k + 1, by go_num, by omega, by
          rw [HTK.out]
          intro x hx
          rcases List.mem_append.1 hx with hx | hx
          · exact HALL.out x hx
          · simp only [List.mem_singleton] at hx; rw [hx]; exact hp, HB1.out⟩)
        clear hp HTK HALL HMEM HB HB1
        go_wp2
        go_roundw
        case rel => exact HR.out
        case measure => (simp [intOf] <;> omega)
    · obtain rfl : k = P.length := by omega
      rw [List.take_length] at hall
      have HALL := Lib.hid hall
      have HB := Lib.hid hb
      have hd : decide ((P.length : Int) < (P.length : Int)) = false := by simp
      clear hall hb
      go_wp2
      go_ret
      exact ⟨⟨-1, rfl, ⟨fun h => by omega, fun ⟨m, hm, h⟩ => by have := HALL.out m hm; rw [h] at this; cases this⟩⟩, HB.out⟩

set_option maxRecDepth 100000 in
set_option maxHeartbeats 2000000 in
theorem containsFunc_any (P : List Nat) (fv : Value) (p : Nat → Bool) (a : Option Addr) (c : Nat) (M : Nat → Prop) (w : World) (hT : Tells fv P p w) (hP : IntsIn M w a (ints P)) (hM : ∀ b, M b → b < w.heap.size) (hl : P.length ≤ 1048576) :
    Calls Tryz.prog 115 #[.slice a P.length c, fv] w fun e w' => (∃ r : Bool, e = .returned (.bool r) ∧ (r = true ↔ ∃ m ∈ P, p m = true)) ∧ Below w.heap.size w w' := by
  have HI := Lib.hid (indexFunc_any P fv p a c M w hT hP hM hl)
  obtain ⟨fg, bx, rfl, hfe, hfc⟩ := hT
  clear hfe hfc hP hM
  go_enter Tryz.func115, Tryz.ntmps115
  go_wp2_with fail
  refine HI.out.mono ?_
  rintro e w1 ⟨⟨r, rfl, hr⟩, hb1⟩
  have HR := Lib.hid hr
  have HB1 := Lib.hid hb1
  clear hr hb1 HI
  by_cases h0 : 0 ≤ r
  · have hd : decide (0 ≤ r) = true := decide_eq_true h0
    go_wp2
    go_ret
    exact ⟨⟨true, rfl, ⟨fun _ => HR.out.1 h0, fun _ => rfl⟩⟩, HB1.out⟩
  · have hd : decide (0 ≤ r) = false := decide_eq_false h0
    go_wp2
    go_ret
    exact ⟨⟨false, rfl, ⟨(fun h => nomatch h), fun h => (by have := HR.out.2 h; omega)⟩⟩, HB1.out⟩

set_option maxRecDepth 100000 in
set_option maxHeartbeats 2000000 in
theorem isPattern1_any (u : Ru) (S : Nat → Prop) (aes : Option Addr) (ces bx m : Nat) (W : World) (hrow : RowIn FIt 3 S W aes u.es) (hbox : W.cell? ⟨bx, 0, none⟩ = some (.slice aes u.es.length ces)) (hm : m < u.es.length) (hl : u.es.length ≤ 1048576) :
    Calls Tryz.prog 116 #[.int .i64 (m : Int), .pointer (some ⟨bx, 0, none⟩)] W fun e w' => e = .returned (.bool (isSumAt u.es m)) ∧ Below W.heap.size W w' := by
  obtain ⟨b, off, vs, ha, hSb, hvn, hcc, axs, cxs, rfl, hI⟩ := hrow m hm
  subst ha
  have x0 : W.cell? ⟨b, off + m * 3, none⟩ = some (.int .i64 u.es[m].k) := hcc 0 (by simp)
  have x1 : W.cell? ⟨b, off + m * 3 + 1, none⟩ = some (.string u.es[m].s) := hcc 1 (by simp)
  have x2 : W.cell? ⟨b, off + m * 3 + 2, none⟩ = some (.slice axs u.es[m].xs.length cxs) := hcc 2 (by simp)
  have hs : isSumAt u.es m = isSum u.es[m].k := by unfold isSumAt; rw [expAt_lt hm]
  rw [hs]
  have HI := Lib.hid (isSum_any u.es[m].k u.es[m].s axs u.es[m].xs.length cxs W)
  clear hcc hI hvn hSb hrow hs
  generalize u.es[m] = x at *
  go_enter Tryz.func116, Tryz.ntmps116
  go_wp2_with fail
  refine HI.out.mono ?_
  rintro e w1 ⟨rfl, hb1⟩
  have HB1 := Lib.hid hb1
  clear hb1 HI x0 x1 x2
  go_wp2
  go_ret
  exact ⟨rfl, HB1.out⟩

set_option maxRecDepth 100000 in
set_option maxHeartbeats 2000000 in
theorem isPattern_any (u : Ru) (n : Nat) (vs : List Value) (S : Nat → Prop) (w : World) (hF : FRu S w vs u) (hS : ∀ b, S b → b < w.heap.size) (T : TreeOk u.es) (hn : n < u.es.length) :
    Calls Tryz.prog 108 #[.agg vs.toArray, .int .i64 (n : Int)] w fun e w' => (∃ r : Bool, e = .returned (.bool r) ∧ (r = true ↔ ∀ m, In u.es allE n m → isSumAt u.es m = false)) ∧ Below w.heap.size w w' := by
  have hF0 := hF
  obtain ⟨aes, ces, ahd, chd, abd, cbd, rfl, r0, r1, r2⟩ := hF
  have hb0 : Below w.heap.size w (w.alloc (.cells #[.slice aes u.es.length ces, .int .i64 u.hd.k, .string u.hd.s, .slice ahd u.hd.xs.length chd, .slice abd u.bd.length cbd] 36)) := (Below.refl _ _).alloc (Nat.le_refl _) _
  have k0 := heap_alloc_new w (.cells #[.slice aes u.es.length ces, .int .i64 u.hd.k, .string u.hd.s, .slice ahd u.hd.xs.length chd, .slice abd u.bd.length cbd] 36)
  obtain ⟨w0, hw0⟩ : ∃ w0, w.alloc (.cells #[.slice aes u.es.length ces, .int .i64 u.hd.k, .string u.hd.s, .slice ahd u.hd.xs.length chd, .slice abd u.bd.length cbd] 36) = w0 := ⟨_, rfl⟩
  rw [hw0] at hb0 k0
  have hfew := T.few
  have HF := Lib.hid (fun (W : World) (h : Below w.heap.size w W) => FRu_keeps.1 _ _ _ _ _ hF0 (Same.below hS h))
  have HR0 := Lib.hid (fun (W : World) (h : Below w.heap.size w W) => RowIn.kept FIt_keeps r0 (Same.below hS h))
  have HPO := Lib.hid (partsOf_any u n _ S w0 (HF.out w0 hb0) (fun b h => Nat.lt_of_lt_of_le (hS b h) hb0.size) T hn)
  have hpm : ∀ m ∈ parts u.es allE n, m < u.es.length := fun m hm => by have := ((mem_parts T hn).1 hm).le T hn; omega
  have hpl : (parts u.es allE n).length ≤ 60 := by
    unfold parts
    refine Nat.le_trans (List.length_filter_le _ _) ?_
    simp; omega
  have HPI := Lib.hid (fun m => mem_parts (en := allE) T hn (m := m))
  have HB0 := Lib.hid hb0
  have HK0 := Lib.hid k0
  have HPM := Lib.hid hpm
  have q0 := cell_of_row _ w.heap.size 0 _ _ _ k0
  have q1 := cell_of_row _ w.heap.size 1 _ _ _ k0
  have q2 := cell_of_row _ w.heap.size 2 _ _ _ k0
  have q3 := cell_of_row _ w.heap.size 3 _ _ _ k0
  have q4 := cell_of_row _ w.heap.size 4 _ _ _ k0
  simp only [List.getElem?_toArray, List.getElem?_cons_zero, List.getElem?_cons_succ] at q0 q1 q2 q3 q4
  clear hF0 r0 r1 r2 hS hb0 k0 T hn hpm
  go_enter Tryz.func108, Tryz.ntmps108
  go_wp2_with fail
  refine HPO.out.mono ?_
  rintro e w1 ⟨⟨g, cap, rfl, hown⟩, hb1⟩
  have hb01 := below_step HB0.out hb1
  have K1 := (hb1.block _ (lt_of_block HK0.out)).trans HK0.out
  have hT : Tells (.func (.func 116) #[] #[.pointer (some ⟨w.heap.size, 0, none⟩)]) (parts u.es allE n) (isSumAt u.es) w1 :=
    ⟨_, _, rfl, enters_of Tryz.func116 (by kernel_rfl) rfl, fun m hm W hW => isPattern1_any u S aes ces w.heap.size m W (HR0.out W (below_step hb01 hW)) (by
      have K2 := (hW.block _ (lt_of_block K1)).trans K1
      rw [cell_of_row _ _ _ _ _ _ K2]; rfl) (HPM.out m hm) (by omega)⟩
  have HCF := Lib.hid (containsFunc_any (parts u.es allE n) _ (isSumAt u.es) _ cap _ w1 hT (own_ints hown) (fun b h => h.2) (by omega))
  have HB1 := Lib.hid hb01
  clear hown hb1 hb01 K1 hT HPO q0 q1 q2 q3 q4
  go_wp2_with fail
  refine HCF.out.mono ?_
  rintro e w2 ⟨⟨r, rfl, hr⟩, hb2⟩
  have HR := Lib.hid hr
  have HB2 := Lib.hid (below_step HB1.out hb2)
  clear hr hb2 HCF
  cases r with
  | true =>
    go_wp2
    go_ret
    refine ⟨⟨false, rfl, ⟨(fun h => nomatch h), fun h => ?_⟩⟩, HB2.out⟩
    obtain ⟨m, hm, hs⟩ := HR.out.1 (by first | rfl | trivial)
    rw [h m (HPI.out m |>.1 hm)] at hs
    exact hs
  | false =>
    go_wp2
    go_ret
    refine ⟨⟨true, rfl, ⟨fun _ m hm => ?_, fun _ => rfl⟩⟩, HB2.out⟩
    cases hs : isSumAt u.es m with
    | false => rfl
    | true => have := HR.out.2 ⟨m, (HPI.out m).2 hm, hs⟩; cases this

end Go.Proofs.YtilijbpbnlnhlaaGreat.Pr
