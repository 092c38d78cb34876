/-
  THE TEXT OF A PROGRAM, as the reference puts it together.
-/
import Derived.Test.YtdcfhmbnbfmnbaaPJ5
namespace Go.Proofs.Ytdcfhmbnbfmnbaa.Pr
open Go Go.RowKit Go.Maps Go.WideMaps

theorem conNd_txt (c : Cn) : txt (conNd c) = if 0 < c.ts.length then c.s ++ ⟨#[40]⟩ ++ listT c.ts ++ ⟨#[41]⟩ else c.s := by
  unfold conNd
  rw [txt]
  cases h : c.ts with
  | nil => simp
  | cons a l =>
    simp only [List.map_cons, List.isEmpty_cons, Bool.false_eq_true, if_false, List.length_cons, Nat.zero_lt_succ, if_true]
    unfold listT
    simp only [List.map_cons, ByteArray.append_assoc]
/-- The constructors of a type, so far. -/
def consT (cs : List Cn) : BA := txtL ⟨#[32, 124, 32]⟩ false (cs.map conNd)
theorem consT_snoc (cs : List Cn) (k : Nat) (h : k < cs.length) : consT (cs.take (k + 1)) = (if 0 < k then consT (cs.take k) ++ ⟨#[32, 124, 32]⟩ else consT (cs.take k)) ++ txt (conNd cs[k]) := by
  unfold consT
  rw [List.take_succ_eq_append_getElem h, List.map_append]
  show txtL _ false (_ ++ [conNd cs[k]]) = _
  rw [txtL_snoc]
  have e : ((cs.take k).map conNd).isEmpty = !decide (0 < k) := by
    rw [List.isEmpty_map]
    cases k with
    | zero => rfl
    | succ k =>
      cases cs with
      | nil => simp at h
      | cons a l => simp
  rw [e]
  by_cases hk : 0 < k
  · simp [hk, ByteArray.append_assoc]
  · simp [hk, empty_ba]
theorem consT_mono (cs : List Cn) : ∀ (d k : Nat), k + d ≤ cs.length → (consT (cs.take k)).size ≤ (consT (cs.take (k + d))).size
  | 0, k, _ => Nat.le_refl _
  | d + 1, k, h => by
    refine Nat.le_trans (consT_mono cs d k (by omega)) ?_
    rw [show k + (d + 1) = (k + d) + 1 from by omega, consT_snoc cs (k + d) (by omega)]
    split <;> simp only [ByteArray.size_append] <;> omega
theorem typeNd_line (A : BA) (x : Td) : A ++ txt (typeNd x) ++ ⟨#[10]⟩ = A ++ ⟨#[116, 121, 112, 101, 32]⟩ ++ x.s ++ ⟨#[32, 61, 32]⟩ ++ consT x.cs ++ ⟨#[46, 10]⟩ := by
  unfold typeNd consT
  rw [txt, show (⟨#[46, 10]⟩ : BA) = ⟨#[46]⟩ ++ ⟨#[10]⟩ from by decide]
  simp only [ByteArray.append_assoc]
theorem relNd_line (A : BA) (x : Rd) : A ++ txt (relNd x) ++ ⟨#[10]⟩ = A ++ ⟨#[114, 101, 108, 32]⟩ ++ x.s ++ ⟨#[40]⟩ ++ listT x.ts ++ ⟨#[41]⟩ ++ modeTxt x.m ++ ⟨#[46, 10]⟩ := by
  unfold relNd listT
  rw [txt, txt, show (⟨#[46, 10]⟩ : BA) = ⟨#[46]⟩ ++ ⟨#[10]⟩ from by decide]
  simp only [ByteArray.append_assoc, empty_ba]
theorem linesTxt_mono (ns : List Nd) : ∀ (d k : Nat), k + d ≤ ns.length → (linesTxt (ns.take k)).size ≤ (linesTxt (ns.take (k + d))).size
  | 0, k, _ => Nat.le_refl _
  | d + 1, k, h => by
    refine Nat.le_trans (linesTxt_mono ns d k (by omega)) ?_
    rw [show k + (d + 1) = (k + d) + 1 from by omega, List.take_succ_eq_append_getElem (show k + d < ns.length by omega), linesTxt_snoc]
    simp only [ByteArray.size_append]
    omega
/-- The first lines are no longer than all of them. -/
theorem linesTxt_part (ns ms : List Nd) : (linesTxt ns).size ≤ (linesTxt (ns ++ ms)).size := by
  have h := linesTxt_mono (ns ++ ms) ms.length ns.length (by simp)
  rw [List.take_left, show ns.length + ms.length = (ns ++ ms).length from by simp, List.take_length] at h
  exact h
theorem types_part (p : Pg) (k : Nat) : (linesTxt ((p.ts.take k).map typeNd)).size ≤ (progTxt p).size := by
  have e : lineNds p = (p.ts.take k).map typeNd ++ ((p.ts.drop k).map typeNd ++ (p.rs.map relNd ++ p.us.map ruleNd)) := by
    unfold lineNds
    rw [← List.append_assoc, ← List.map_append, List.take_append_drop, List.append_assoc]
  unfold progTxt
  rw [e]
  exact linesTxt_part _ _
theorem rels_part (p : Pg) (k : Nat) : (linesTxt (p.ts.map typeNd ++ (p.rs.take k).map relNd)).size ≤ (progTxt p).size := by
  have e : lineNds p = (p.ts.map typeNd ++ (p.rs.take k).map relNd) ++ ((p.rs.drop k).map relNd ++ p.us.map ruleNd) := by
    unfold lineNds
    rw [List.append_assoc, List.append_assoc, ← List.append_assoc ((p.rs.take k).map relNd), ← List.map_append, List.take_append_drop]
  unfold progTxt
  rw [e]
  exact linesTxt_part _ _
theorem rules_part (p : Pg) (k : Nat) : (linesTxt (p.ts.map typeNd ++ p.rs.map relNd ++ (p.us.take k).map ruleNd)).size ≤ (progTxt p).size := by
  have e : lineNds p = (p.ts.map typeNd ++ p.rs.map relNd ++ (p.us.take k).map ruleNd) ++ (p.us.drop k).map ruleNd := by
    unfold lineNds
    rw [List.append_assoc (p.ts.map typeNd ++ p.rs.map relNd), ← List.map_append, List.take_append_drop]
  unfold progTxt
  rw [e]
  exact linesTxt_part _ _

theorem type_line (p : Pg) (k : Nat) (hk : k < p.ts.length) : linesTxt ((p.ts.take (k + 1)).map typeNd) = linesTxt ((p.ts.take k).map typeNd) ++ ⟨#[116, 121, 112, 101, 32]⟩ ++ p.ts[k].s ++ ⟨#[32, 61, 32]⟩ ++ consT p.ts[k].cs ++ ⟨#[46, 10]⟩ := by
  rw [List.take_succ_eq_append_getElem hk, List.map_append]
  show linesTxt (_ ++ [typeNd p.ts[k]]) = _
  rw [linesTxt_snoc, typeNd_line]
/-- What is put together of a type, so far, is no longer than the program's text. -/
theorem head_part (p : Pg) (k : Nat) (hk : k < p.ts.length) (j : Nat) (hj : j ≤ p.ts[k].cs.length) : (linesTxt ((p.ts.take k).map typeNd) ++ ⟨#[116, 121, 112, 101, 32]⟩ ++ p.ts[k].s ++ ⟨#[32, 61, 32]⟩ ++ consT (p.ts[k].cs.take j)).size ≤ (progTxt p).size := by
  have h1 := types_part p (k + 1)
  rw [type_line p k hk] at h1
  have h2 := consT_mono p.ts[k].cs (p.ts[k].cs.length - j) j (by omega)
  rw [show j + (p.ts[k].cs.length - j) = p.ts[k].cs.length from by omega, List.take_length] at h2
  simp only [ByteArray.size_append] at h1 ⊢
  omega
theorem con_part (p : Pg) (k : Nat) (hk : k < p.ts.length) (j : Nat) (hj : j < p.ts[k].cs.length) (h : 0 < p.ts[k].cs[j].ts.length) : (listT p.ts[k].cs[j].ts).size ≤ (progTxt p).size := by
  have h1 := head_part p k hk (j + 1) hj
  rw [consT_snoc _ j hj, conNd_txt, if_pos h] at h1
  simp only [ByteArray.size_append] at h1
  omega
theorem rel_line (p : Pg) (k : Nat) (hk : k < p.rs.length) : linesTxt (p.ts.map typeNd ++ (p.rs.take (k + 1)).map relNd) = linesTxt (p.ts.map typeNd ++ (p.rs.take k).map relNd) ++ ⟨#[114, 101, 108, 32]⟩ ++ p.rs[k].s ++ ⟨#[40]⟩ ++ listT p.rs[k].ts ++ ⟨#[41]⟩ ++ modeTxt p.rs[k].m ++ ⟨#[46, 10]⟩ := by
  rw [List.take_succ_eq_append_getElem hk, List.map_append, ← List.append_assoc]
  show linesTxt (_ ++ [relNd p.rs[k]]) = _
  rw [linesTxt_snoc, relNd_line]
theorem rel_part (p : Pg) (k : Nat) (hk : k < p.rs.length) : (listT p.rs[k].ts).size ≤ (progTxt p).size := by
  have h1 := rels_part p (k + 1)
  rw [rel_line p k hk] at h1
  simp only [ByteArray.size_append] at h1
  omega
theorem rule_line (p : Pg) (k : Nat) (hk : k < p.us.length) (hf : FormOk p.us[k]) : linesTxt (p.ts.map typeNd ++ p.rs.map relNd ++ (p.us.take (k + 1)).map ruleNd) = linesTxt (p.ts.map typeNd ++ p.rs.map relNd ++ (p.us.take k).map ruleNd) ++ ruleTxt p.us[k] ++ ⟨#[10]⟩ := by
  rw [List.take_succ_eq_append_getElem hk, List.map_append, ← List.append_assoc]
  show linesTxt (_ ++ [ruleNd p.us[k]]) = _
  rw [linesTxt_snoc, rule_txt _ hf]
theorem rule_part (p : Pg) (k : Nat) (hk : k < p.us.length) (hf : FormOk p.us[k]) : (ruleTxt p.us[k]).size ≤ (progTxt p).size := by
  have h1 := rules_part p (k + 1)
  rw [rule_line p k hk hf] at h1
  simp only [ByteArray.size_append] at h1
  omega
/-- A rule without a text leaves the program without one. -/
theorem rule_none (p : Pg) (k : Nat) (hk : k < p.us.length) (h : ¬ RuleOk p.us[k]) : progAns p = ⟨#[]⟩ := by
  unfold progAns
  refine if_neg fun hp => h ?_
  have hf := (make_iff _).1 (hp.1.2 _ (List.getElem_mem hk))
  exact (ruleOk_iff _).2 ⟨hf, Nat.le_trans (rule_part p k hk hf) hp.2⟩
theorem progAns_long (p : Pg) (h : 3000 < (progTxt p).size) : progAns p = ⟨#[]⟩ := by
  unfold progAns
  exact if_neg fun hp => by have := hp.2; omega
theorem progAns_mode (p : Pg) (k : Nat) (hk : k < p.rs.length) (h : modeOk p.rs[k].m = false) : progAns p = ⟨#[]⟩ := by
  unfold progAns
  refine if_neg fun hp => ?_
  have := hp.1.1 _ (List.getElem_mem hk)
  rw [h] at this
  cases this
theorem progAns_ok (p : Pg) (h1 : ∀ x ∈ p.rs, modeOk x.m = true) (h2 : ∀ u ∈ p.us, RuleOk u) (h3 : (progTxt p).size ≤ 3000) : progAns p = progTxt p := by
  unfold progAns
  exact if_pos ⟨⟨h1, fun u hu => (make_iff u).2 ((ruleOk_iff u).1 (h2 u hu)).1⟩, h3⟩

end Go.Proofs.Ytdcfhmbnbfmnbaa.Pr
