/-
  impl's literal and literals.
-/
import Derived.Test.YtilijbpbnlnhlaaGreatPI7
namespace Go.Proofs.YtilijbpbnlnhlaaGreat.Pr
open Go Go.RowKit Go.Maps Go.WideMaps

/-- The node of a literal, its arguments' being K. -/
def litNode (l : It) (K : List Nd) : Nd :=
  if l.k = 1 then .atom ⟨#[]⟩ l.s K else if l.k = 2 then .atom ⟨#[33]⟩ l.s K else .cmp l.s (K.getD 0 (.word ⟨#[]⟩)) (K.getD 1 (.word ⟨#[]⟩))
def kidsOf (ns : List Nd) (xs : List Int) : List Nd := xs.map fun x => ns.getD x.toNat (.word ⟨#[]⟩)

def LitPost (gb : Nat) (ns : List Nd) (R : List Int) (on ot : Option Nat) (N : Nat → Prop) (l : It) (w : World) (e : Ending) (w' : World) : Prop :=
  ∃ (v : Value) (ok : Bool) (N' : Nat → Prop) (R' : List Int), e = .returned (.tuple #[v, .bool ok]) ∧ Bld gb ns R' on ot N' w' ∧ BStep gb on ot on ot w w' ∧ (∀ b, N b → N' b) ∧ (∀ b, N' b → N b ∨ w.heap.size ≤ b) ∧
    (ok = true → TakeOk ns.length R l.xs ∧ litOk l = true ∧ R' = R ++ l.xs ∧ NodeIn N' w' (litNode l (kidsOf ns l.xs)) v) ∧ (ok = false → ¬ (TakeOk ns.length R l.xs ∧ litOk l = true))

set_option maxRecDepth 100000 in
set_option maxHeartbeats 4000000 in
theorem literal_any (gb : Nat) (ns : List Nd) (R : List Int) (on ot : Option Nat) (N S : Nat → Prop) (x : It) (vs : List Value) (w : World) (hB : Bld gb ns R on ot N w) (hF : FIt S w vs x) (hS : ∀ b, S b → b < w.heap.size ∧ b ≠ gb ∧ on ≠ some b ∧ ot ≠ some b) (hw : x.wt ≤ 1048576) (hns : ns.length ≤ 60) :
    Calls Tryz.prog 79 #[.pointer (some ⟨gb, 0, none⟩), .agg vs.toArray] w (LitPost gb ns R on ot N x w) := by
  obtain ⟨ka, kc, rfl, hI⟩ := hF
  obtain ⟨k, s, xs⟩ := x
  unfold It.wt wtIntS at hw
  simp only at hI hw ⊢
  have hb0 : Below w.heap.size w (w.alloc (.cells #[.int .i64 k, .string s, .slice ka xs.length kc] 33)) := (Below.refl _ _).alloc (Nat.le_refl _) _
  have k0 := heap_alloc_new w (.cells #[.int .i64 k, .string s, .slice ka xs.length kc] 33)
  have hs0 : (w.alloc (.cells #[.int .i64 k, .string s, .slice ka xs.length kc] 33)).heap.size = w.heap.size + 1 := by simp
  obtain ⟨w0, hw0⟩ : ∃ w0, w.alloc (.cells #[.int .i64 k, .string s, .slice ka xs.length kc] 33) = w0 := ⟨_, rfl⟩
  rw [hw0] at hb0 k0 hs0
  have hB0 := hB.go hb0
  have hS0 : ∀ b, S b → b < w0.heap.size ∧ b ≠ gb ∧ on ≠ some b ∧ ot ≠ some b := fun b h => ⟨Nat.lt_of_lt_of_le (hS b h).1 hb0.size, (hS b h).2⟩
  have HT := Lib.hid (take_any gb ns R on ot N S xs ka kc w0 hB0 (hI.kept (Same.below (fun b h => (hS b h).1) hb0)) hS0 (by omega) (by omega))
  have hgb := hB.lt
  have hfreeP : w.heap.size ≠ gb ∧ on ≠ some w.heap.size ∧ ot ≠ some w.heap.size := by
    obtain ⟨vn, vt, cs, e1, e2, e3, e4, e5, e6⟩ := hB.lies
    refine ⟨by omega, ?_, ?_⟩
    · intro hh; have := (own_lt e4 (e1.trans hh)).2; omega
    · intro hh; have := (own_lt e5 (e2.trans hh)).2; omega
  have HFP := Lib.hid hfreeP
  have HB0 := Lib.hid hB0
  have HK0 := Lib.hid k0
  have HST0 := Lib.hid (BStep.below (gb := gb) (on := on) (ot := ot) hb0)
  have q0 := cell_of_row _ w.heap.size 0 _ _ _ k0
  have q1 := cell_of_row _ w.heap.size 1 _ _ _ k0
  have q2 := cell_of_row _ w.heap.size 2 _ _ _ k0
  simp only [List.getElem?_toArray, List.getElem?_cons_zero, List.getElem?_cons_succ] at q0 q1 q2
  have HS00 := Lib.hid hs0
  clear hB hB0 hI hS hS0 hb0 k0 hfreeP hs0 hgb
  go_enter Tryz.func79, Tryz.ntmps79
  go_wp2_with fail
  refine HT.out.mono ?_
  intro e w1 hpost
  rcases TakePost.parts HB0.out hpost with ⟨a, c, N1, rfl, hok, hB1, hst1, hno, hsub, hsup⟩ | ⟨R', rfl, hno, hB1, hst1⟩
  · have K1 := (hst1.block w.heap.size (by have := HS00.out; omega) HFP.out.1 HFP.out.2.1 HFP.out.2.2).trans HK0.out
    have p0 := cell_of_row _ w.heap.size 0 _ _ _ K1
    have p1 := cell_of_row _ w.heap.size 1 _ _ _ K1
    have p2 := cell_of_row _ w.heap.size 2 _ _ _ K1
    simp only [List.getElem?_toArray, List.getElem?_cons_zero, List.getElem?_cons_succ] at p0 p1 p2
    have hsup' : ∀ b, N1 b → N b ∨ w.heap.size ≤ b := fun b hb => (hsup b hb).imp id (fun h => by have := HS00.out; omega)
    have HGOOD := Lib.hid (fun (v : Value) (W : World) (q : Nat) (hW : W = w1.drewN q) (hl : litOk ⟨k, s, xs⟩ = true) (hn : NodeIn N1 w1 (litNode ⟨k, s, xs⟩ (kidsOf ns xs)) v) => (show LitPost gb ns R on ot N ⟨k, s, xs⟩ w (.returned (.tuple #[v, .bool true])) W by
      subst hW
      refine ⟨v, true, N1, R ++ xs, rfl, hB1.keep none ⟨rfl, rfl, rfl, Nat.le_refl _, fun _ _ _ => rfl⟩ (fun g hg => by cases hg), (HST0.out.trans hst1).trans ⟨rfl, rfl, rfl, Nat.le_refl _, fun _ _ _ _ _ => rfl, .inl rfl, .inl rfl⟩, hsub, hsup', fun _ => ⟨hok, hl, rfl, hn.drewN q⟩, fun h => by cases h⟩))
    have HBAD := Lib.hid (fun (hl : litOk ⟨k, s, xs⟩ = false) => (show LitPost gb ns R on ot N ⟨k, s, xs⟩ w (.returned (.tuple #[.nilIface, .bool false])) w1 from
      ⟨.nilIface, false, N1, R ++ xs, rfl, hB1, HST0.out.trans hst1, hsub, hsup', (fun h => by cases h), fun _ h => by rw [hl] at h; cases h.2⟩))
    have HNO := Lib.hid (show NodesIn N1 w1 (kidsOf ns xs) a 0 from hno)
    clear hpost K1 hB1 hst1 hno hok HT q0 q1 q2 hsub hsup hsup'
    by_cases q1 : k = 1
    · subst q1
      have HP := Lib.hid (HGOOD.out (.iface 139 (.agg #[.string ⟨#[]⟩, .string s, .slice a xs.length c])) w1 0 rfl (by simp [litOk]) (by
        have e : litNode ⟨1, s, xs⟩ (kidsOf ns xs) = .atom ⟨#[]⟩ s (kidsOf ns xs) := by simp [litNode]
        rw [e, NodeIn]
        have hl : (kidsOf ns xs).length = xs.length := by simp [kidsOf]
        exact ⟨a, c, by rw [hl], by decide, by omega, by omega, HNO.out⟩))
      clear HGOOD HBAD HNO
      go_wp2
      go_ret2
      exact HP.out
    by_cases q2 : k = 2
    · subst q2
      have HP := Lib.hid (HGOOD.out (.iface 139 (.agg #[.string ⟨#[33]⟩, .string s, .slice a xs.length c])) w1 0 rfl (by simp [litOk]) (by
        have e : litNode ⟨2, s, xs⟩ (kidsOf ns xs) = .atom ⟨#[33]⟩ s (kidsOf ns xs) := by simp [litNode]
        rw [e, NodeIn]
        have hl : (kidsOf ns xs).length = xs.length := by simp [kidsOf]
        exact ⟨a, c, by rw [hl], by decide, by omega, by omega, HNO.out⟩))
      clear HGOOD HBAD HNO
      go_wp2
      go_ret2
      exact HP.out
    by_cases q3 : k = 3
    · subst q3
      by_cases h2 : xs.length = 2
      · have hl : (kidsOf ns xs).length = 2 := by simp [kidsOf, h2]
        obtain ⟨x, y, hxy⟩ : ∃ x y, kidsOf ns xs = [x, y] := by
          rcases hx : kidsOf ns xs with _ | ⟨x, _ | ⟨y, _ | _⟩⟩ <;> rw [hx] at hl <;> simp at hl
          exact ⟨x, y, rfl⟩
        have hno' := HNO.out
        rw [hxy] at hno'
        obtain ⟨b1, o1, v1, rfl, hs1, hc1, hn1⟩ := hno'.get _ _ _ 0 (by simp)
        obtain ⟨b2, o2, v2, he2, hs2, hc2, hn2⟩ := hno'.get _ _ _ 1 (by simp)
        obtain ⟨rfl, rfl⟩ : b1 = b2 ∧ o1 = o2 := by simpa using he2
        obtain ⟨t1, x1, rfl⟩ := hn1.shape
        obtain ⟨t2, x2, rfl⟩ := hn2.shape
        simp only [Nat.zero_add, Nat.add_zero, List.getElem_cons_zero, List.getElem_cons_succ] at hc1 hc2 hn1 hn2
        have HP := Lib.hid (fun (W : World) (q : Nat) (hW : W = w1.drewN q) => HGOOD.out (.iface 141 (.agg #[.string s, .iface t1 x1, .iface t2 x2])) W q hW (by simp [litOk, h2]) (by
          have e : litNode ⟨3, s, xs⟩ (kidsOf ns xs) = .cmp s x y := by simp [litNode, hxy]
          rw [e, NodeIn]
          exact ⟨_, _, rfl, by omega, hn1, hn2⟩))
        have he2' : ((xs.length : Int) == 2) = true := by rw [h2]; rfl
        clear HGOOD HBAD HNO hno' hn1 hn2 he2 hs1 hs2 hxy hl
        rw [h2] at p2 ⊢
        go_wp2
        go_quiet (fail)
        go_wp2
        go_ret2
        exact HP.out _ _ rfl
      · have HP := Lib.hid (HBAD.out (by simp [litOk, h2]))
        have he2' : ((xs.length : Int) == 2) = false := by simp; omega
        clear HGOOD HBAD HNO
        go_wp2
        go_ret2
        exact HP.out
    have HP := Lib.hid (HBAD.out (by simp [litOk, q1, q2, q3]))
    have n1 : (k == 1) = false := by simpa using q1
    have n2 : (k == 2) = false := by simpa using q2
    have n3 : (k == 3) = false := by simpa using q3
    clear HGOOD HBAD HNO
    go_wp2
    go_ret2
    exact HP.out
  · have HP := Lib.hid (show LitPost gb ns R on ot N ⟨k, s, xs⟩ w (.returned (.tuple #[.nilIface, .bool false])) w1 from ⟨.nilIface, false, N, R', rfl, hB1, HST0.out.trans hst1, fun _ h => h, fun _ h => .inl h, (fun h => by cases h), fun _ h => hno h.1⟩)
    clear hpost hno hB1 hst1 HT q0 q1 q2
    go_wp2
    go_ret2
    exact HP.out

end Go.Proofs.YtilijbpbnlnhlaaGreat.Pr
