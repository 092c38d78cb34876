/-
  impl's hasKidsOfKind and expNode.
-/
import Derived.Test.YtilijbpbnlnhlaaGreatPI5
namespace Go.Proofs.YtilijbpbnlnhlaaGreat.Pr
open Go Go.RowKit Go.Maps Go.WideMaps

set_option maxRecDepth 100000 in
set_option maxHeartbeats 2000000 in
theorem hasKids_any (k : Int) (s : BA) (xs : List Int) (ka : Option Addr) (kc : Nat) (w : World) (hn : xs.length ≤ 1048576) :
    Calls Tryz.prog 100 #[.agg #[.int .i64 k, .string s, .slice ka xs.length kc]] w fun e w' => e = .returned (.bool (kindOk ⟨k, s, xs⟩)) ∧ Below w.heap.size w w' := by
  have hb0 := (Below.refl w.heap.size w).alloc (Nat.le_refl _) (Obj.cells #[.int .i64 k, .string s, .slice ka xs.length kc] 49)
  have hz : ((xs.length : Int) == 0) = xs.isEmpty := by
    cases xs with
    | nil => rfl
    | cons x r => simp; omega
  have h2 : ((xs.length : Int) == 2) = decide (xs.length = 2) := by
    by_cases h : xs.length = 2
    · rw [decide_eq_true h, h]; rfl
    · rw [decide_eq_false h]; simp; omega
  by_cases q1 : k = 1
  · subst q1
    have e : kindOk ⟨1, s, xs⟩ = xs.isEmpty := by simp [kindOk, isSum]
    rw [e]
    go_enter Tryz.func100, Tryz.ntmps100
    go_wp2
    go_ret
    exact ⟨by simp [], hb0⟩
  by_cases q2 : k = 2
  · subst q2
    have e : kindOk ⟨2, s, xs⟩ = xs.isEmpty := by simp [kindOk, isSum]
    rw [e]
    go_enter Tryz.func100, Tryz.ntmps100
    go_wp2
    go_ret
    exact ⟨by simp [], hb0⟩
  by_cases q3 : k = 3
  · subst q3
    have e : kindOk ⟨3, s, xs⟩ = xs.isEmpty := by simp [kindOk, isSum]
    rw [e]
    go_enter Tryz.func100, Tryz.ntmps100
    go_wp2
    go_ret
    exact ⟨by simp [], hb0⟩
  by_cases q4 : k = 4
  · subst q4
    have e : kindOk ⟨4, s, xs⟩ = true := by simp [kindOk, isSum]
    rw [e]
    go_enter Tryz.func100, Tryz.ntmps100
    go_wp2
    go_ret
    exact ⟨rfl, hb0⟩
  by_cases q5 : k = 5
  · subst q5
    have e : kindOk ⟨5, s, xs⟩ = decide (xs.length = 2) := by simp [kindOk, isSum]
    rw [e]
    go_enter Tryz.func100, Tryz.ntmps100
    go_wp2
    go_ret
    exact ⟨by simp [], hb0⟩
  by_cases q6 : k = 6
  · subst q6
    have e : kindOk ⟨6, s, xs⟩ = decide (xs.length = 2) := by simp [kindOk, isSum]
    rw [e]
    go_enter Tryz.func100, Tryz.ntmps100
    go_wp2
    go_ret
    exact ⟨by simp [], hb0⟩
  by_cases q7 : k = 7
  · subst q7
    have e : kindOk ⟨7, s, xs⟩ = decide (xs.length = 2) := by simp [kindOk, isSum]
    rw [e]
    go_enter Tryz.func100, Tryz.ntmps100
    go_wp2
    go_ret
    exact ⟨by simp [], hb0⟩
  have e : kindOk ⟨k, s, xs⟩ = false := by
    simp only [kindOk, isSum]
    have a1 : ¬ (1 ≤ k ∧ k ≤ 3) := by omega
    have a2 : ¬ (5 ≤ k ∧ k ≤ 7) := by omega
    simp only [Bool.or_eq_false_iff, Bool.and_eq_false_iff, decide_eq_false_iff_not]
    refine ⟨⟨?_, q4⟩, ?_⟩
    · exact .inl (by omega)
    · exact .inl (by omega)
  have n1 : (k == 1) = false := by simpa using q1
  have n2 : (k == 2) = false := by simpa using q2
  have n3 : (k == 3) = false := by simpa using q3
  have n4 : (k == 4) = false := by simpa using q4
  have n5 : (k == 5) = false := by simpa using q5
  have n6 : (k == 6) = false := by simpa using q6
  have n7 : (k == 7) = false := by simpa using q7
  rw [e]
  clear e
  go_enter Tryz.func100, Tryz.ntmps100
  go_wp2
  go_ret
  exact ⟨rfl, hb0⟩

theorem NodeIn.drewN {S : Nat → Prop} {w : World} {n : Nd} {v : Value} (h : NodeIn S w n v) (q : Nat) : NodeIn S (w.drewN q) n v := NodeIn.kept (w := w) (S := S) (show Same S w (w.drewN q) from fun _ _ => rfl) (fun _ h => h) n v h
/-- The node of an exp, its kids' being K. -/
def nodeOf (e : It) (K : List Nd) : Nd :=
  if e.k = 2 then .word ⟨#[95]⟩ else if e.k = 4 then .con e.s K else if e.k = 5 then .pair ⟨#[43]⟩ (K.getD 0 (.word ⟨#[]⟩)) (K.getD 1 (.word ⟨#[]⟩))
  else if e.k = 6 then .pair ⟨#[45]⟩ (K.getD 0 (.word ⟨#[]⟩)) (K.getD 1 (.word ⟨#[]⟩)) else if e.k = 7 then .pair ⟨#[42]⟩ (K.getD 0 (.word ⟨#[]⟩)) (K.getD 1 (.word ⟨#[]⟩)) else .word e.s

set_option maxRecDepth 100000 in
set_option maxHeartbeats 2000000 in
theorem expNode_any (k : Int) (s : BA) (xs : List Int) (ka : Option Addr) (kc : Nat) (K : List Nd) (a : Option Addr) (c : Nat) (S : Nat → Prop) (w : World) (hK : NodesIn S w K a 0) (hS : ∀ b, S b → b < w.heap.size) (hl : K.length = xs.length) (hn : s.size + xs.length ≤ 1048576) (hk : kindOk ⟨k, s, xs⟩ = true) :
    Calls Tryz.prog 101 #[.agg #[.int .i64 k, .string s, .slice ka xs.length kc], .slice a K.length c] w fun e w' => ∃ v, e = .returned v ∧ NodeIn S w' (nodeOf ⟨k, s, xs⟩ K) v ∧ Below w.heap.size w w' := by
  have hb0 := (Below.refl w.heap.size w).alloc (Nat.le_refl _) (Obj.cells #[.int .i64 k, .string s, .slice ka xs.length kc] 49)
  have hK0 := NodesIn.kept (Same.below hS hb0) (fun _ h => h) K a 0 hK
  have HK := Lib.hid hK0
  have HB := Lib.hid hb0
  have hpair : isSum k = true → ∃ x y, K = [x, y] := by
    intro hs
    have h57 : 5 ≤ k ∧ k ≤ 7 := by simpa [isSum] using hs
    have h2 : K.length = 2 := by
      unfold kindOk at hk
      have a1 : ¬ (1 ≤ k ∧ k ≤ 3) := by omega
      simp only [hs, Bool.or_eq_true, Bool.and_eq_true, decide_eq_true_eq, true_and] at hk
      omega
    rcases K with _ | ⟨x, _ | ⟨y, _ | _⟩⟩
    · simp at h2
    · simp at h2
    · exact ⟨x, y, rfl⟩
    · simp at h2
  have HP := Lib.hid hpair
  clear hpair hK hK0 hb0
  by_cases q5 : k = 5
  · subst q5
    obtain ⟨x, y, rfl⟩ := HP.out rfl
    have e : nodeOf ⟨5, s, xs⟩ [x, y] = .pair ⟨#[43]⟩ x y := by simp [nodeOf]
    rw [e]
    obtain ⟨b1, o1, v1, rfl, hs1, hc1, hn1⟩ := HK.out.get _ _ _ 0 (by simp)
    obtain ⟨b2, o2, v2, he2, hs2, hc2, hn2⟩ := HK.out.get _ _ _ 1 (by simp)
    obtain ⟨rfl, rfl⟩ : b1 = b2 ∧ o1 = o2 := by simpa using he2
    obtain ⟨t1, x1, rfl⟩ := hn1.shape
    obtain ⟨t2, x2, rfl⟩ := hn2.shape
    simp only [Nat.zero_add, Nat.add_zero, List.getElem_cons_zero, List.getElem_cons_succ] at hc1 hc2 hn1 hn2
    have HN1 := Lib.hid hn1
    have HN2 := Lib.hid hn2
    clear hn1 hn2 he2 e HK hs1 hs2 HP hk hl
    simp only [List.length_cons, List.length_nil]
    go_enter Tryz.func101, Tryz.ntmps101
    go_wp2
    go_quiet (fail)
    go_wp2
    go_ret
    exact ⟨_, rfl, NodeIn.drewN (by rw [NodeIn]; exact ⟨_, _, rfl, by decide, HN1.out, HN2.out⟩) _, below_drewN HB.out _⟩
  by_cases q6 : k = 6
  · subst q6
    obtain ⟨x, y, rfl⟩ := HP.out rfl
    have e : nodeOf ⟨6, s, xs⟩ [x, y] = .pair ⟨#[45]⟩ x y := by simp [nodeOf]
    rw [e]
    obtain ⟨b1, o1, v1, rfl, hs1, hc1, hn1⟩ := HK.out.get _ _ _ 0 (by simp)
    obtain ⟨b2, o2, v2, he2, hs2, hc2, hn2⟩ := HK.out.get _ _ _ 1 (by simp)
    obtain ⟨rfl, rfl⟩ : b1 = b2 ∧ o1 = o2 := by simpa using he2
    obtain ⟨t1, x1, rfl⟩ := hn1.shape
    obtain ⟨t2, x2, rfl⟩ := hn2.shape
    simp only [Nat.zero_add, Nat.add_zero, List.getElem_cons_zero, List.getElem_cons_succ] at hc1 hc2 hn1 hn2
    have HN1 := Lib.hid hn1
    have HN2 := Lib.hid hn2
    clear hn1 hn2 he2 e HK hs1 hs2 HP hk hl
    simp only [List.length_cons, List.length_nil]
    go_enter Tryz.func101, Tryz.ntmps101
    go_wp2
    go_quiet (fail)
    go_wp2
    go_ret
    exact ⟨_, rfl, NodeIn.drewN (by rw [NodeIn]; exact ⟨_, _, rfl, by decide, HN1.out, HN2.out⟩) _, below_drewN HB.out _⟩
  by_cases q7 : k = 7
  · subst q7
    obtain ⟨x, y, rfl⟩ := HP.out rfl
    have e : nodeOf ⟨7, s, xs⟩ [x, y] = .pair ⟨#[42]⟩ x y := by simp [nodeOf]
    rw [e]
    obtain ⟨b1, o1, v1, rfl, hs1, hc1, hn1⟩ := HK.out.get _ _ _ 0 (by simp)
    obtain ⟨b2, o2, v2, he2, hs2, hc2, hn2⟩ := HK.out.get _ _ _ 1 (by simp)
    obtain ⟨rfl, rfl⟩ : b1 = b2 ∧ o1 = o2 := by simpa using he2
    obtain ⟨t1, x1, rfl⟩ := hn1.shape
    obtain ⟨t2, x2, rfl⟩ := hn2.shape
    simp only [Nat.zero_add, Nat.add_zero, List.getElem_cons_zero, List.getElem_cons_succ] at hc1 hc2 hn1 hn2
    have HN1 := Lib.hid hn1
    have HN2 := Lib.hid hn2
    clear hn1 hn2 he2 e HK hs1 hs2 HP hk hl
    simp only [List.length_cons, List.length_nil]
    go_enter Tryz.func101, Tryz.ntmps101
    go_wp2
    go_quiet (fail)
    go_wp2
    go_ret
    exact ⟨_, rfl, NodeIn.drewN (by rw [NodeIn]; exact ⟨_, _, rfl, by decide, HN1.out, HN2.out⟩) _, below_drewN HB.out _⟩
  by_cases q2 : k = 2
  · subst q2
    have e : nodeOf ⟨2, s, xs⟩ K = .word ⟨#[95]⟩ := by simp [nodeOf]
    rw [e]
    go_enter Tryz.func101, Tryz.ntmps101
    go_wp2
    go_ret
    exact ⟨_, rfl, by rw [NodeIn]; exact ⟨rfl, by decide⟩, HB.out⟩
  by_cases q4 : k = 4
  · subst q4
    have e : nodeOf ⟨4, s, xs⟩ K = .con s K := by simp [nodeOf]
    rw [e]
    have hkl : K.length ≤ 1048576 := by omega
    have hss : s.size ≤ 1048576 := by omega
    clear hl hn e
    go_enter Tryz.func101, Tryz.ntmps101
    go_wp2
    go_ret
    exact ⟨_, rfl, by rw [NodeIn]; exact ⟨a, c, rfl, hss, hkl, HK.out⟩, HB.out⟩
  have e : nodeOf ⟨k, s, xs⟩ K = .word s := by simp [nodeOf, q2, q4, q5, q6, q7]
  have n2 : (k == 2) = false := by simpa using q2
  have n4 : (k == 4) = false := by simpa using q4
  have n5 : (k == 5) = false := by simpa using q5
  have n6 : (k == 6) = false := by simpa using q6
  have n7 : (k == 7) = false := by simpa using q7
  rw [e]
  clear e
  go_enter Tryz.func101, Tryz.ntmps101
  go_wp2
  go_ret
  exact ⟨_, rfl, by rw [NodeIn]; exact ⟨rfl, by omega⟩, HB.out⟩

end Go.Proofs.YtilijbpbnlnhlaaGreat.Pr
