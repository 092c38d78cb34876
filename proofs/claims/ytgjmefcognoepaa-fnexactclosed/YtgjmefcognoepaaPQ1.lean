/-
  CLOSED (pure): lists of graphs, each once, put together again and again until there is nothing new.
-/
import Derived.Test.YtgjmefcognoepaaPA1
namespace Go.Proofs.Ytgjmefcognoepaa.Pr
open Go Go.RowKit Go.Maps Go.WideMaps

def cmpG (g h : Gr) : Gr := ⟨g.f, h.t, compA g.rs h.rs⟩
open Classical in
noncomputable def addG (out : List Gr) (g : Gr) : List Gr := if g ∈ out then out else out ++ [g]
theorem addG_in {out : List Gr} {g : Gr} (h : g ∈ out) : addG out g = out := if_pos h
theorem addG_out {out : List Gr} {g : Gr} (h : g ∉ out) : addG out g = out ++ [g] := if_neg h
noncomputable def addC (out : List Gr) (p : Gr × Gr) : List Gr := if p.1.t = p.2.f then addG out (cmpG p.1 p.2) else out
def pairsG (l : List Gr) : List (Gr × Gr) := l.flatMap fun g => l.map fun h => (g, h)
noncomputable def passG (l : List Gr) : List Gr := (pairsG l).foldl addC l
noncomputable def startG (l : List Gr) : List Gr := l.foldl addG []
noncomputable def passGN (l : List Gr) : Nat → List Gr
  | 0 => startG l
  | k + 1 => passG (passGN l k)
def FixG (l r : List Gr) : Prop := ∃ k, r = passGN l k ∧ passG r = r

/-- What is only ever put at the end of. -/
theorem addG_grow (out : List Gr) (g : Gr) : ∃ r, addG out g = out ++ r := by
  unfold addG
  split
  · exact ⟨[], by simp⟩
  · exact ⟨[g], rfl⟩
theorem addC_grow (out : List Gr) (p : Gr × Gr) : ∃ r, addC out p = out ++ r := by
  unfold addC
  split
  · exact addG_grow out _
  · exact ⟨[], by simp⟩
theorem foldl_grow {α : Type} {f : List Gr → α → List Gr} (h : ∀ o a, ∃ r, f o a = o ++ r) : ∀ (l : List α) (o : List Gr), ∃ r, l.foldl f o = o ++ r
  | [], o => ⟨[], by simp⟩
  | a :: l, o => by
    obtain ⟨r, hr⟩ := h o a
    obtain ⟨s, hs⟩ := foldl_grow h l (f o a)
    exact ⟨r ++ s, by rw [List.foldl_cons, hs, hr, List.append_assoc]⟩
theorem passG_grow (l : List Gr) : ∃ r, passG l = l ++ r := foldl_grow addC_grow _ _
theorem pass_part (l : List Gr) (ps qs : List (Gr × Gr)) (h : pairsG l = ps ++ qs) : ∃ r, passG l = ps.foldl addC l ++ r := by
  unfold passG
  rw [h, List.foldl_append]
  exact foldl_grow addC_grow _ _
theorem start_part (l a b : List Gr) (h : l = a ++ b) : ∃ r, startG l = startG a ++ r := by
  unfold startG
  rw [h, List.foldl_append]
  exact foldl_grow addG_grow _ _
theorem passG_fix {l : List Gr} (h : (passG l).length = l.length) : passG l = l := by
  obtain ⟨r, hr⟩ := passG_grow l
  rw [hr, List.length_append] at h
  have : r = [] := List.length_eq_zero_iff.1 (by omega)
  rw [hr, this]; simp
theorem passGN_stay {l : List Gr} {k : Nat} (h : passG (passGN l k) = passGN l k) : ∀ j, passGN l (k + j) = passGN l k
  | 0 => rfl
  | j + 1 => by
    show passG (passGN l (k + j)) = _
    rw [passGN_stay h j, h]
theorem FixG.one {l r r' : List Gr} (h : FixG l r) (h' : FixG l r') : r = r' := by
  obtain ⟨k, rfl, hk⟩ := h
  obtain ⟨k', rfl, hk'⟩ := h'
  rcases Nat.le_total k k' with hle | hle
  · obtain ⟨j, rfl⟩ := Nat.exists_eq_add_of_le hle
    exact (passGN_stay hk j).symm
  · obtain ⟨j, rfl⟩ := Nat.exists_eq_add_of_le hle
    exact passGN_stay hk' j
theorem passGN_le {l : List Gr} : ∀ {k j : Nat}, k ≤ j → (passGN l k).length ≤ (passGN l j).length := by
  intro k j h
  induction h with
  | refl => exact Nat.le_refl _
  | @step m _ ih =>
    obtain ⟨r, hr⟩ := passG_grow (passGN l m)
    have h1 : (passGN l (m + 1)).length = (passGN l m).length + r.length := by show (passG (passGN l m)).length = _; rw [hr, List.length_append]
    rw [h1]; omega
/-- None is longer than the last one. -/
theorem FixG.longest {l r : List Gr} (h : FixG l r) (j : Nat) : (passGN l j).length ≤ r.length := by
  obtain ⟨k, rfl, hk⟩ := h
  rcases Nat.le_total j k with hle | hle
  · exact passGN_le hle
  · obtain ⟨i, rfl⟩ := Nat.exists_eq_add_of_le hle
    rw [passGN_stay hk i]
    exact Nat.le_refl _
theorem FixG.part {l r : List Gr} (h : FixG l r) {k : Nat} {ps qs : List (Gr × Gr)} (hp : pairsG (passGN l k) = ps ++ qs) : (ps.foldl addC (passGN l k)).length ≤ r.length := by
  obtain ⟨s, hs⟩ := pass_part _ ps qs hp
  have h1 := h.longest (k + 1)
  have h2 : (passGN l (k + 1)).length = (ps.foldl addC (passGN l k)).length + s.length := by show (passG (passGN l k)).length = _; rw [hs, List.length_append]
  omega
theorem FixG.begin {l r a b : List Gr} (h : FixG l r) (hp : l = a ++ b) : (startG a).length ≤ r.length := by
  obtain ⟨s, hs⟩ := start_part l a b hp
  have h1 := h.longest 0
  have h2 : (passGN l 0).length = (startG a).length + s.length := by show (startG l).length = _; rw [hs, List.length_append]
  omega

/-- All of them are right. -/
def RightL (l : List Gr) : Prop := ∀ g ∈ l, RightA g.rs
open Classical in
noncomputable def closeAns (l : List Gr) : List Gr × Bool := if h : RightL l ∧ ∃ r, FixG l r ∧ r.length ≤ 120 then (Classical.choose h.2, true) else ([], false)
theorem closeAns_ok {l r : List Gr} (h : RightL l) (hf : FixG l r) (hr : r.length ≤ 120) : closeAns l = (r, true) := by
  have hh : RightL l ∧ ∃ r, FixG l r ∧ r.length ≤ 120 := ⟨h, r, hf, hr⟩
  unfold closeAns
  rw [dif_pos hh, (Classical.choose_spec hh.2).1.one hf]
theorem closeAns_no {l : List Gr} (h : ¬ (RightL l ∧ ∃ r, FixG l r ∧ r.length ≤ 120)) : closeAns l = ([], false) := dif_neg h
theorem closeAns_wrong {l : List Gr} (h : ¬ RightL l) : closeAns l = ([], false) := closeAns_no fun hh => h hh.1
/-- Too many on the way. -/
theorem closeAns_start {l a b : List Gr} (hp : l = a ++ b) (h : 120 < (startG a).length) : closeAns l = ([], false) := closeAns_no fun ⟨_, r, hf, hr⟩ => by
  have := hf.begin hp
  omega
theorem closeAns_pass {l : List Gr} {k : Nat} {ps qs : List (Gr × Gr)} (hp : pairsG (passGN l k) = ps ++ qs) (h : 120 < (ps.foldl addC (passGN l k)).length) : closeAns l = ([], false) := closeAns_no fun ⟨_, r, hf, hr⟩ => by
  have := hf.part hp
  omega

/-! ### What is put together is right -/
theorem gkey_rise (l : List Ar) (hu : l.Pairwise fun x y => arcKey x < arcKey y) : ∀ i (h : i + 1 < l.length), arcKey l[i] < arcKey l[i + 1] := fun i h => List.pairwise_iff_getElem.1 hu i (i + 1) (by omega) h (by omega)
theorem comp_right (g h : List Ar) : RightA (compA g h) := by
  have hm : ∀ x ∈ compA g h, ∃ m, m < 36 ∧ x = arcOf g h m := fun x hx => by
    unfold compA arcsTo at hx
    obtain ⟨m, hm, rfl⟩ := List.mem_map.1 hx
    exact ⟨m, by have := (List.mem_filter.1 hm).1; simpa using this, rfl⟩
  refine ⟨fun i hi => ?_, gkey_rise _ ?_⟩
  · obtain ⟨m, hm36, e⟩ := hm _ (List.getElem_mem hi)
    rw [e]
    show inA (pA m) ∧ inA (pB m)
    unfold inA pA pB
    omega
  · unfold compA arcsTo
    refine List.pairwise_map.2 ((List.pairwise_lt_range.filter _).imp_of_mem ?_)
    intro a b ha hb hab
    have ha36 : a < 36 := by have := (List.mem_filter.1 ha).1; simpa using this
    have hb36 : b < 36 := by have := (List.mem_filter.1 hb).1; simpa using this
    show 10 * pA a + pB a < 10 * pA b + pB b
    unfold pA pB
    omega
theorem addG_right {out : List Gr} {g : Gr} (h : RightL out) (hg : RightA g.rs) : RightL (addG out g) := by
  unfold addG
  split
  · exact h
  · intro x hx
    rcases List.mem_append.1 hx with hx | hx
    · exact h x hx
    · rw [List.mem_singleton.1 hx]; exact hg
theorem addC_right {out : List Gr} {p : Gr × Gr} (h : RightL out) : RightL (addC out p) := by
  unfold addC
  split
  · exact addG_right h (comp_right _ _)
  · exact h
theorem foldC_right : ∀ (ps : List (Gr × Gr)) (out : List Gr), RightL out → RightL (ps.foldl addC out)
  | [], _, h => h
  | _p :: ps, _out, h => foldC_right ps _ (addC_right h)
theorem foldG_right : ∀ (l out : List Gr), RightL l → RightL out → RightL (l.foldl addG out)
  | [], _, _, h => h
  | g :: l, out, hl, h => foldG_right l _ (fun x hx => hl x (List.mem_cons_of_mem _ hx)) (addG_right h (hl g (by simp)))
theorem start_right {l : List Gr} (h : RightL l) : RightL (startG l) := foldG_right l [] h (fun x hx => by simp at hx)
theorem passGN_right {l : List Gr} (h : RightL l) : ∀ k, RightL (passGN l k)
  | 0 => start_right h
  | k + 1 => foldC_right _ _ (passGN_right h k)

/-! ### Pairs in order -/
def rowG (l : List Gr) (g : Gr) : List (Gr × Gr) := l.map fun h => (g, h)
/-- The pairs ahead of place (i, k). -/
def pairsTo (l : List Gr) (i k : Nat) : List (Gr × Gr) := ((l.take i).flatMap (rowG l)) ++ (match l[i]? with | some g => (rowG l g).take k | none => [])
theorem pairsTo_zero (l : List Gr) : pairsTo l 0 0 = [] := by
  unfold pairsTo
  cases l with
  | nil => rfl
  | cons a l => simp
theorem pairsTo_step {l : List Gr} {i k : Nat} (hi : i < l.length) (hk : k < l.length) : pairsTo l i (k + 1) = pairsTo l i k ++ [(l[i], l[k])] := by
  unfold pairsTo
  rw [List.getElem?_eq_getElem hi]
  have hk2 : k < (rowG l l[i]).length := by simpa [rowG] using hk
  simp only
  rw [List.take_succ_eq_append_getElem hk2, List.append_assoc]
  congr 2
  simp [rowG]
theorem pairsTo_row {l : List Gr} {i : Nat} (hi : i < l.length) : pairsTo l i l.length = pairsTo l (i + 1) 0 := by
  unfold pairsTo
  rw [List.getElem?_eq_getElem hi, List.take_succ_eq_append_getElem hi]
  have hl : (rowG l l[i]).length = l.length := by simp [rowG]
  have e : (rowG l l[i]).take l.length = rowG l l[i] := by rw [← hl]; exact List.take_length
  simp only [e, List.flatMap_append]
  cases l[i + 1]? <;> simp
theorem pairsTo_all (l : List Gr) : pairsTo l l.length 0 = pairsG l := by
  unfold pairsTo pairsG
  rw [List.take_length, List.getElem?_eq_none (Nat.le_refl _), List.append_nil]
  rfl
theorem pairsTo_part {l : List Gr} {i k : Nat} (hi : i < l.length) (_hk : k ≤ l.length) : ∃ qs, pairsG l = pairsTo l i k ++ qs := by
  have e : pairsG l = ((l.take i).flatMap (rowG l)) ++ ((l.drop i).flatMap (rowG l)) := by
    rw [← List.flatMap_append, List.take_append_drop]; rfl
  rw [e, List.drop_eq_getElem_cons hi, List.flatMap_cons]
  unfold pairsTo
  rw [List.getElem?_eq_getElem hi]
  refine ⟨(rowG l l[i]).drop k ++ (l.drop (i + 1)).flatMap (rowG l), ?_⟩
  simp only
  rw [List.append_assoc, ← List.append_assoc ((rowG l l[i]).take k), List.take_append_drop]
theorem pairsTo_end {l : List Gr} {i : Nat} (hi : i ≤ l.length) : ∃ qs, pairsG l = pairsTo l i 0 ++ qs := by
  by_cases h : i < l.length
  · exact pairsTo_part h (Nat.zero_le _)
  · obtain rfl : i = l.length := by omega
    exact ⟨[], by rw [pairsTo_all]; simp⟩

/-! ### Tables stand for graphs -/
theorem Tab.same {G H : List Int} {g h : List Ar} (TG : Tab G g) (TH : Tab H h) (RG : RightA g) (RH : RightA h) : G = H ↔ g = h := by
  constructor
  · intro e
    subst e
    rw [← TG.list RG, ← TH.list RH]
  · intro e
    subst e
    exact listOf_inj TG.len TH.len TG.val TH.val (by rw [TG.list RG, TH.list RH])

end Go.Proofs.Ytgjmefcognoepaa.Pr
