/-
  A rule that has a text has short texts of its exps: each stands within the rule's.
-/
import Derived.Test.YtilijbpbnlnhlaaGreatPXA
namespace Go.Proofs.YtilijbpbnlnhlaaGreat.Pr
open Go Go.RowKit Go.Maps Go.WideMaps

theorem listTxt_grows (f : Bool → BA → BA) (hf : ∀ b a, a.size ≤ (f b a).size) (out : List BA) : ∀ (xs : List Int) (s : BA) (b : Bool), s.size ≤ (xs.foldl (fun (a : BA × Bool) x => (f a.2 a.1 ++ out.getD x.toNat ⟨#[]⟩, true)) (s, b)).1.size
  | [], s, b => Nat.le_refl _
  | x :: r, s, b => by
    rw [List.foldl_cons]
    refine Nat.le_trans ?_ (listTxt_grows f hf out r _ _)
    rw [ByteArray.size_append]
    have := hf b s
    show s.size ≤ (f b s).size + _
    omega
theorem listTxt_has (f : Bool → BA → BA) (hf : ∀ b a, a.size ≤ (f b a).size) (out : List BA) (x : Int) : ∀ (xs : List Int) (s : BA) (b : Bool), x ∈ xs → (out.getD x.toNat ⟨#[]⟩).size ≤ (xs.foldl (fun (a : BA × Bool) x => (f a.2 a.1 ++ out.getD x.toNat ⟨#[]⟩, true)) (s, b)).1.size
  | y :: r, s, b, h => by
    rw [List.foldl_cons]
    rcases List.mem_cons.1 h with rfl | h
    · refine Nat.le_trans ?_ (listTxt_grows f hf out r _ _)
      rw [ByteArray.size_append]
      omega
    · exact listTxt_has f hf out x r _ _ h
theorem fLit_grows (b : Bool) (a : BA) : a.size ≤ (fLit b a).size := by
  unfold fLit
  split
  · rw [ByteArray.size_append]; omega
  · exact Nat.le_refl _
theorem fCon_grows (b : Bool) (a : BA) : a.size ≤ (fCon b a).size := by
  unfold fCon
  split <;> (rw [ByteArray.size_append]; omega)
theorem side_has (es : List It) (out : List BA) (x : Int) : (out.getD x.toNat ⟨#[]⟩).size ≤ (side es out x).size := by
  unfold side
  split
  · rw [ByteArray.size_append, ByteArray.size_append]; omega
  · exact Nat.le_refl _
theorem expTxt_has (es : List It) (out : List BA) (e : It) (hk : kindOk e = true) (x : Int) (hx : x ∈ e.xs) : (out.getD x.toNat ⟨#[]⟩).size ≤ (expTxt es out e).size := by
  have hne : e.xs ≠ [] := fun h => by rw [h] at hx; cases hx
  have hemp : e.xs.isEmpty = false := by
    cases h : e.xs with
    | nil => exact absurd h hne
    | cons a b => rfl
  unfold kindOk at hk
  rw [hemp] at hk
  simp only [Bool.and_false, Bool.false_or, Bool.or_eq_true, decide_eq_true_eq, Bool.and_eq_true] at hk
  unfold expTxt
  rcases hk with h4 | ⟨hs, h2⟩
  · rw [if_neg (by omega), if_pos h4]
    unfold conTxt
    rw [hemp, if_neg (by simp), ByteArray.size_append]
    have := listTxt_has fCon fCon_grows out x e.xs e.s false hx
    unfold listTxt
    omega
  · have hk5 : 5 ≤ e.k ∧ e.k ≤ 7 := by simpa [isSum] using hs
    rw [if_neg (by omega), if_neg (by omega), if_pos hs, ByteArray.size_append, ByteArray.size_append]
    obtain ⟨a, b, hab⟩ : ∃ a b, e.xs = [a, b] := by
      rcases h : e.xs with _ | ⟨a, _ | ⟨b, _ | _⟩⟩ <;> rw [h] at h2 <;> simp at h2
      exact ⟨a, b, rfl⟩
    rw [hab] at hx ⊢
    simp only [List.mem_cons, List.not_mem_nil, or_false] at hx
    rcases hx with rfl | rfl
    · have := side_has es out x
      show _ ≤ (side es out x).size + _ + _
      omega
    · have := side_has es out x
      show _ ≤ _ + _ + (side es out x).size
      omega
theorem litTxt_has (out : List BA) (l : It) (hk : litOk l = true) (x : Int) (hx : x ∈ l.xs) : (out.getD x.toNat ⟨#[]⟩).size ≤ (litTxt out l).size := by
  unfold litTxt
  by_cases h3 : l.k = 3
  · rw [if_pos h3]
    have h2 : l.xs.length = 2 := by
      unfold litOk at hk
      rw [h3] at hk
      simpa using hk
    obtain ⟨a, b, hab⟩ : ∃ a b, l.xs = [a, b] := by
      rcases h : l.xs with _ | ⟨a, _ | ⟨b, _ | _⟩⟩ <;> rw [h] at h2 <;> simp at h2
      exact ⟨a, b, rfl⟩
    rw [hab] at hx ⊢
    simp only [List.mem_cons, List.not_mem_nil, or_false] at hx
    simp only [ByteArray.size_append]
    rcases hx with rfl | rfl
    · show _ ≤ (out.getD x.toNat ⟨#[]⟩).size + _ + _ + _ + _
      omega
    · show _ ≤ _ + _ + _ + _ + (out.getD x.toNat ⟨#[]⟩).size
      omega
  · rw [if_neg h3, ByteArray.size_append]
    have := listTxt_has fLit fLit_grows out x l.xs (if l.k = 2 then ⟨#[33]⟩ ++ (l.s ++ ⟨#[40]⟩) else l.s ++ ⟨#[40]⟩) false hx
    unfold listTxt
    omega
theorem bodyTxt_grows (out : List BA) : ∀ (ls : List It) (s : BA) (b : Bool), s.size + 2 * ls.length ≤ (ls.foldl (fun (a : BA × Bool) l => (a.1 ++ (if a.2 then ⟨#[44, 32]⟩ else ⟨#[32, 58, 45, 32]⟩) ++ litTxt out l, true)) (s, b)).1.size
  | [], s, b => Nat.le_refl _
  | x :: r, s, b => by
    rw [List.foldl_cons]
    refine Nat.le_trans ?_ (bodyTxt_grows out r _ _)
    rw [ByteArray.size_append, ByteArray.size_append, List.length_cons]
    have h : 2 ≤ (if b = true then (⟨#[44, 32]⟩ : BA) else ⟨#[32, 58, 45, 32]⟩).size := by
      cases b <;> decide
    show s.size + 2 * (r.length + 1) ≤ s.size + (if b = true then (⟨#[44, 32]⟩ : BA) else ⟨#[32, 58, 45, 32]⟩).size + (litTxt out x).size + 2 * r.length
    omega
theorem bodyTxt_has (out : List BA) (l : It) : ∀ (ls : List It) (s : BA) (b : Bool), l ∈ ls → (litTxt out l).size ≤ (ls.foldl (fun (a : BA × Bool) l => (a.1 ++ (if a.2 then ⟨#[44, 32]⟩ else ⟨#[32, 58, 45, 32]⟩) ++ litTxt out l, true)) (s, b)).1.size
  | y :: r, s, b, h => by
    rw [List.foldl_cons]
    rcases List.mem_cons.1 h with rfl | h
    · have := bodyTxt_grows out r (s ++ (if b = true then (⟨#[44, 32]⟩ : BA) else ⟨#[32, 58, 45, 32]⟩) ++ litTxt out l) true
      rw [ByteArray.size_append] at this
      refine Nat.le_trans ?_ this
      omega
    · exact bodyTxt_has out l r _ _ h
theorem txts_getD (es : List It) (i j : Nat) (hij : i < j) : (txts es j).getD i ⟨#[]⟩ = expTxt es (txts es i) (es.getD i ⟨0, ⟨#[]⟩, []⟩) := by
  obtain ⟨r, hr⟩ := txts_prefix es (i + 1) j hij
  have hl := txts_length es i
  rw [hr, txts, List.getD_eq_getElem?_getD, List.append_assoc, List.getElem?_append_right (by omega), hl, Nat.sub_self]
  rfl
/-- What is Good has exps no longer than the rule. -/
theorem exp_within (u : Ru) (g : Good u.es (u.hd :: u.bd)) (hl : ∀ l ∈ u.hd :: u.bd, litOk l = true) : ∀ (d i : Nat), i < u.es.length → u.es.length - i ≤ d → ((txts u.es u.es.length).getD i ⟨#[]⟩).size ≤ (ruleTxt u).size
  | 0, i, hi, hd => by omega
  | d + 1, i, hi, hd => by
    have h1 := g.once i hi
    have hmem : (i : Int) ∈ refs u.es ++ refs (u.hd :: u.bd) := List.count_pos_iff.1 (by omega)
    rcases List.mem_append.1 hmem with h | h
    · obtain ⟨e, he, hx⟩ := List.mem_flatMap.1 h
      obtain ⟨j, hj, rfl⟩ := List.getElem_of_mem he
      have hij : i < j := by have := (g.kid j hj _ hx).2; omega
      have h2 := exp_within u g hl d j hj (by omega)
      have h3 := expTxt_has u.es (txts u.es j) u.es[j] (g.kind _ (List.getElem_mem hj)) (i : Int) hx
      rw [Int.toNat_natCast, txts_getD _ _ _ hij] at h3
      rw [txts_getD _ _ _ hj, show u.es.getD j ⟨0, ⟨#[]⟩, []⟩ = u.es[j] from by simp [List.getD, hj]] at h2
      rw [txts_getD _ _ _ hi]
      omega
    · obtain ⟨l, hlm, hx⟩ := List.mem_flatMap.1 h
      have h3 := litTxt_has (txts u.es u.es.length) l (hl l hlm) (i : Int) hx
      rw [Int.toNat_natCast] at h3
      unfold ruleTxt bodyTxt
      rw [ByteArray.size_append]
      rcases List.mem_cons.1 hlm with rfl | hb
      · have := bodyTxt_grows (txts u.es u.es.length) u.bd (litTxt (txts u.es u.es.length) u.hd) false
        omega
      · have := bodyTxt_has (txts u.es u.es.length) l u.bd (litTxt (txts u.es u.es.length) u.hd) false hb
        omega
theorem RuleOk.lits {u : Ru} (h : RuleOk u) : ∀ l ∈ u.hd :: u.bd, litOk l = true := by
  intro l hl
  rcases List.mem_cons.1 hl with rfl | hb
  · simp [litOk, h.head]
  · exact h.body l hb
theorem RuleOk.goodS {u : Ru} (h : RuleOk u) : GoodS u := by
  refine ⟨h.good, ?_⟩
  intro s hs
  obtain ⟨i, hi, rfl⟩ := List.getElem_of_mem hs
  have hi' : i < u.es.length := by rw [txts_length] at hi; exact hi
  have := exp_within u h.good h.lits u.es.length i hi' (by omega)
  have hs := h.short
  rw [List.getD_eq_getElem?_getD, List.getElem?_eq_getElem hi] at this
  simp only [Option.getD_some] at this
  omega
theorem RuleOk.bodyLen {u : Ru} (h : RuleOk u) : u.bd.length ≤ 1500 := by
  have hs := h.short
  unfold ruleTxt bodyTxt at hs
  rw [ByteArray.size_append] at hs
  have := bodyTxt_grows (txts u.es u.es.length) u.bd (litTxt (txts u.es u.es.length) u.hd) false
  omega
theorem ruleAns_no {u : Ru} (h : ¬ RuleOk u) : ruleAns u = ⟨#[]⟩ := if_neg h
theorem ruleAns_ok {u : Ru} (h : RuleOk u) : ruleAns u = ruleTxt u := if_pos h

end Go.Proofs.YtilijbpbnlnhlaaGreat.Pr
