/-
  THE WALK of spec.l04Lit, whole.
-/
import Derived.Test.YtilijbpbnlnhlaaGreatPS1
namespace Go.Proofs.YtilijbpbnlnhlaaGreat.Pr
open Go Go.RowKit Go.Maps Go.WideMaps

set_option maxRecDepth 100000 in
set_option maxHeartbeats 2000000 in
theorem lit_cmp_bad (s : BA) (xs : List Int) (ka : Option Addr) (kc : Nat) (ao : Option Addr) (co n : Nat) (w : World) (hl : xs.length ≠ 2) :
    Calls Tryz.prog 47 #[.agg #[.int .i64 3, .string s, .slice ka xs.length kc], .slice ao n co] w fun e w' => e = .returned (.tuple #[.string ⟨#[]⟩, .bool false]) ∧ Below w.heap.size w w' := by
  have hb0 := (Below.refl w.heap.size w).alloc (Nat.le_refl _) (Obj.cells #[.int .i64 3, .string s, .slice ka xs.length kc] 33)
  have hne : ((xs.length : Int) != 2) = true := by simp; omega
  generalize xs.length = m at *
  go_enter Tryz.func47, Tryz.ntmps47
  go_wp2
  go_ret2
  exact ⟨rfl, hb0⟩

set_option maxRecDepth 100000 in
set_option maxHeartbeats 2000000 in
theorem lit_cmp (s : BA) (x y : Int) (ka : Option Addr) (kc : Nat) (S T : Nat → Prop) (ao : Option Addr) (co : Nat) (out : List BA) (w : World) (hI : IntsIn S w ka [x, y]) (hS : ∀ b, S b → b < w.heap.size) (ho : TxtsIn T w ao out) (hT : ∀ b, T b → b < w.heap.size) (hx0 : 0 ≤ x) (hx1 : x < (out.length : Int)) (hy0 : 0 ≤ y) (hy1 : y < (out.length : Int)) (hlen : ∀ s ∈ out, s.size ≤ 3000) (_hol : out.length ≤ 60) (hw : s.size ≤ 1048576) :
    Calls Tryz.prog 47 #[.agg #[.int .i64 3, .string s, .slice ka 2 kc], .slice ao out.length co] w fun e w' => e = .returned (.tuple #[.string (out.getD x.toNat ⟨#[]⟩ ++ ⟨#[32]⟩ ++ s ++ ⟨#[32]⟩ ++ out.getD y.toNat ⟨#[]⟩), .bool true]) ∧ Below w.heap.size w w' := by
  have hb0 := (Below.refl w.heap.size w).alloc (Nat.le_refl _) (Obj.cells #[.int .i64 3, .string s, .slice ka 2 kc] 33)
  obtain ⟨m, rfl⟩ := Int.eq_ofNat_of_zero_le hx0
  obtain ⟨n, rfl⟩ := Int.eq_ofNat_of_zero_le hy0
  have hml : m < out.length := by omega
  have hnl : n < out.length := by omega
  obtain ⟨b1, o1, rfl, hl1, c1⟩ := hI.kept (Same.below hS hb0) 0 (by simp)
  obtain ⟨b1', o1', he, hl1', c2⟩ := hI.kept (Same.below hS hb0) 1 (by simp)
  obtain ⟨rfl, rfl⟩ : b1 = b1' ∧ o1 = o1' := by simpa using he
  obtain ⟨b2, o2, rfl, hl2, c3⟩ := ho.kept (Same.below hT hb0) m hml
  obtain ⟨b2', o2', he2, hl2', c4⟩ := ho.kept (Same.below hT hb0) n hnl
  obtain ⟨rfl, rfl⟩ : b2 = b2' ∧ o2 = o2' := by simpa using he2
  simp only [List.getElem_cons_zero, List.getElem_cons_succ, Nat.add_zero] at c1 c2
  have e1 : out.getD ((m : Int)).toNat ⟨#[]⟩ = out[m] := by rw [Int.toNat_natCast]; simp [List.getD, hml]
  have e2 : out.getD ((n : Int)).toNat ⟨#[]⟩ = out[n] := by rw [Int.toNat_natCast]; simp [List.getD, hnl]
  rw [e1, e2]
  have s1 := hlen out[m] (List.getElem_mem hml)
  have s2 := hlen out[n] (List.getElem_mem hnl)
  have HB := Lib.hid hb0
  clear hI ho hlen he he2 e1 e2 hl1 hl1' hl2 hl2' hS hT hb0
  generalize out[m] = p at *
  generalize out[n] = q at *
  generalize out.length = L at *
  go_enter Tryz.func47, Tryz.ntmps47
  go_wp2
  go_quiet (fail)
  go_wp2
  go_ret2
  exact ⟨rfl, below_drewN HB.out _⟩

/-- spec.l04Lit, whole. -/
theorem lit_any (l : It) (vs : List Value) (S T : Nat → Prop) (ao : Option Addr) (co : Nat) (out : List BA) (w : World) (hF : FIt S w vs l) (hS : ∀ b, S b → b < w.heap.size) (ho : TxtsIn T w ao out) (hT : ∀ b, T b → b < w.heap.size) (hx : ∀ x ∈ l.xs, 0 ≤ x ∧ x < (out.length : Int)) (hlen : ∀ s ∈ out, s.size ≤ 3000) (hol : out.length ≤ 60) (hw : l.wt ≤ 1048576) :
    Calls Tryz.prog 47 #[.agg vs.toArray, .slice ao out.length co] w fun e w' => (∃ s : BA, e = .returned (.tuple #[.string s, .bool (litOk l)]) ∧ (litOk l = true → s = litTxt out l) ∧ s.size ≤ 4000000000) ∧ Below w.heap.size w w' := by
  obtain ⟨ka, kc, rfl, hI⟩ := hF
  obtain ⟨kk, s, xs⟩ := l
  unfold It.wt wtIntS at hw
  simp only at hI hx hw ⊢
  by_cases h3 : kk = 3
  · subst h3
    by_cases hl : xs.length = 2
    · obtain ⟨x, y, rfl⟩ : ∃ x y, xs = [x, y] := by
        rcases xs with _ | ⟨x, _ | ⟨y, _ | _⟩⟩
        · simp at hl
        · simp at hl
        · exact ⟨x, y, rfl⟩
        · simp at hl
      have h1 := hx x (by simp)
      have h2 := hx y (by simp)
      have hsz : ∀ i : Int, (out.getD i.toNat ⟨#[]⟩).size ≤ 3000 := by
        intro i
        rw [List.getD_eq_getElem?_getD]
        cases hg : out[i.toNat]? with
        | none => exact Nat.zero_le _
        | some q => exact hlen q (List.mem_of_getElem? hg)
      refine (lit_cmp s x y ka kc S T ao co out w hI hS ho hT h1.1 h1.2 h2.1 h2.2 hlen hol (by simp at hw; omega)).mono ?_
      rintro e w' ⟨rfl, hb⟩
      refine ⟨⟨_, rfl, fun _ => rfl, ?_⟩, hb⟩
      have a1 := hsz x
      have a2 := hsz y
      simp only [List.length_cons, List.length_nil] at hw
      simp only [ByteArray.size_append, size1]
      omega
    · refine (lit_cmp_bad s xs ka kc ao co out.length w hl).mono ?_
      rintro e w' ⟨rfl, hb⟩
      have : litOk ⟨3, s, xs⟩ = false := by simp [litOk, hl]
      rw [this]
      exact ⟨⟨_, rfl, by simp, Nat.zero_le _⟩, hb⟩
  · by_cases h2 : kk = 2
    · subst h2
      refine (lit_not 2 s xs ka kc S T ao co out w hI hS ho hT hx hlen hol hw rfl).mono ?_
      rintro e w' ⟨rfl, hb⟩
      have hsz := listTxt_size fLit fLit_size out hlen (⟨#[33]⟩ ++ (s ++ ⟨#[40]⟩)) xs.length xs
      rw [List.take_length] at hsz
      refine ⟨⟨(listTxt fLit out (⟨#[33]⟩ ++ (s ++ ⟨#[40]⟩)) xs).1 ++ ⟨#[41]⟩, by simp [litOk], fun _ => by simp [litTxt], ?_⟩, hb⟩
      simp only [ByteArray.size_append, size1] at hsz ⊢
      omega
    · refine (lit_else kk s xs ka kc S T ao co out w hI hS ho hT hx hlen hol hw (by simpa using h3) (by simpa using h2)).mono ?_
      rintro e w' ⟨rfl, hb⟩
      have hsz := listTxt_size fLit fLit_size out hlen (s ++ ⟨#[40]⟩) xs.length xs
      rw [List.take_length] at hsz
      refine ⟨⟨(listTxt fLit out (s ++ ⟨#[40]⟩) xs).1 ++ ⟨#[41]⟩, by simp [litOk, h2, h3], fun _ => by simp [litTxt, h2, h3], ?_⟩, hb⟩
      simp only [ByteArray.size_append, size1] at hsz ⊢
      omega

end Go.Proofs.YtilijbpbnlnhlaaGreat.Pr
