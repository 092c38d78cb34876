/-
  THE PLACES WITHIN AN EXP, AND THE NAMES THAT STAND THERE: pure lists, nothing is walked.
-/
import Derived.Test.YtilijbpbnlnhlaaGreatPMod
namespace Go.Proofs.YtilijbpbnlnhlaaGreat.Pr
open Go Go.RowKit Go.Maps Go.WideMaps

/-- The exp at place m. -/
def expAt (es : List It) (m : Nat) : It := es.getD m ⟨0, ⟨#[]⟩, []⟩
theorem expAt_lt {es : List It} {m : Nat} (h : m < es.length) : expAt es m = es[m] := by simp [expAt, List.getD, h]
/-- The places that lie right within the exp at m, where it is entered. -/
def kidsE (es : List It) (en : It → Bool) (m : Nat) : List Nat := if en (expAt es m) then (expAt es m).xs.map Int.toNat else []
theorem mem_kidsE {es : List It} {en : It → Bool} {m x : Nat} (h : x ∈ kidsE es en m) : ∃ y ∈ (expAt es m).xs, y.toNat = x := by
  unfold kidsE at h
  split at h
  · simpa using h
  · simp at h
structure TreeOk (es : List It) : Prop where
  few : es.length ≤ 60
  kid : ∀ m, m < es.length → ∀ x ∈ (expAt es m).xs, 0 ≤ x ∧ x < (m : Int)
  once : ∀ x : Int, (refs es).count x ≤ 1
theorem count_mem_refs {es : List It} {p : Nat} (hp : p < es.length) (x : Int) : (es[p].xs).count x ≤ (refs es).count x := by
  have h : es = es.take p ++ (es[p] :: es.drop (p + 1)) := by rw [← List.drop_eq_getElem_cons hp, List.take_append_drop]
  conv => rhs; rw [h]
  rw [refs_append, List.count_append, show es[p] :: es.drop (p + 1) = [es[p]] ++ es.drop (p + 1) from rfl, refs_append, refs_one, List.count_append]
  omega
theorem two_refs {es : List It} {p q : Nat} (hpq : p < q) (hq : q < es.length) {x : Int} (h1 : x ∈ es[p].xs) (h2 : x ∈ es[q].xs) : 2 ≤ (refs es).count x := by
  have hp : p < es.length := by omega
  have h : es = es.take q ++ (es[q] :: es.drop (q + 1)) := by rw [← List.drop_eq_getElem_cons hq, List.take_append_drop]
  have hp' : p < (es.take q).length := by simp; omega
  have c1 := count_mem_refs hp' x
  rw [List.getElem_take] at c1
  have c2 := List.count_pos_iff.2 h1
  have c3 := List.count_pos_iff.2 h2
  conv => rhs; rw [h]
  rw [refs_append, List.count_append, show es[q] :: es.drop (q + 1) = [es[q]] ++ es.drop (q + 1) from rfl, refs_append, refs_one, List.count_append]
  omega
theorem Good.tree {es ls : List It} (h : Good es ls) : TreeOk es := by
  refine ⟨h.few, fun m hm x hx => ?_, fun x => ?_⟩
  · rw [expAt_lt hm] at hx
    exact h.kid m hm x hx
  · by_cases hx : 0 ≤ x ∧ x < (es.length : Int)
    · obtain ⟨m, rfl⟩ := Int.eq_ofNat_of_zero_le hx.1
      have := h.once m (by omega)
      rw [List.count_append] at this
      omega
    · have : (refs es).count x = 0 := by
        refine List.count_eq_zero.2 fun hm => hx ?_
        obtain ⟨e, he, hxe⟩ := List.mem_flatMap.1 hm
        obtain ⟨i, hi, rfl⟩ := List.getElem_of_mem he
        have := h.kid i hi x hxe
        omega
      omega

/-- m lies within n: it is n, or right within what lies there and is entered. -/
inductive In (es : List It) (en : It → Bool) (n : Nat) : Nat → Prop
  | self : In es en n n
  | kid {m x : Nat} : In es en n m → x ∈ kidsE es en m → In es en n x
theorem kidsE_lt {es : List It} {en : It → Bool} (h : TreeOk es) {m x : Nat} (hm : m < es.length) (hx : x ∈ kidsE es en m) : x < m := by
  obtain ⟨y, hy, rfl⟩ := mem_kidsE hx
  have := h.kid m hm y hy
  omega
theorem In.le {es : List It} {en : It → Bool} (h : TreeOk es) {n m : Nat} (hn : n < es.length) (hi : In es en n m) : m ≤ n := by
  induction hi with
  | self => exact Nat.le_refl _
  | kid _ hx ih => have := kidsE_lt h (by omega) hx; omega
theorem kidsE_nodup {es : List It} {en : It → Bool} (h : TreeOk es) {m : Nat} (hm : m < es.length) : (kidsE es en m).Nodup := by
  unfold kidsE
  split
  · have hn : (expAt es m).xs.Nodup := by
      rw [List.nodup_iff_count]
      intro x
      have := count_mem_refs hm x
      have := h.once x
      rw [expAt_lt hm]
      omega
    refine List.pairwise_map.2 (hn.imp_of_mem fun {a b} ha hb hne e => hne ?_)
    have := h.kid m hm a ha
    have := h.kid m hm b hb
    omega
  · exact List.nodup_nil
theorem kidsE_apart {es : List It} {en en' : It → Bool} (h : TreeOk es) {p q x : Nat} (hp : p < es.length) (hq : q < es.length) (hne : p ≠ q) (h1 : x ∈ kidsE es en p) : x ∉ kidsE es en' q := by
  intro h2
  obtain ⟨y, hy, rfl⟩ := mem_kidsE h1
  obtain ⟨z, hz, e⟩ := mem_kidsE h2
  have k1 := h.kid p hp y hy
  have k2 := h.kid q hq z hz
  obtain rfl : z = y := by omega
  rw [expAt_lt hp] at hy
  rw [expAt_lt hq] at hz
  have ho := h.once z
  rcases Nat.lt_or_gt_of_ne hne with hlt | hlt
  · have := two_refs hlt hq hy hz; omega
  · have := two_refs hlt hp hz hy; omega

/-- The places that the program goes over: L is what it has, the first i of them it has looked into. -/
structure Bfs (es : List It) (en : It → Bool) (n : Nat) (L : List Nat) (i : Nat) : Prop where
  le : i ≤ L.length
  eq : L = n :: (L.take i).flatMap (kidsE es en)
  inn : ∀ m ∈ L, In es en n m
  nd : L.Nodup
theorem Bfs.start (es : List It) (en : It → Bool) (n : Nat) : Bfs es en n [n] 0 := ⟨by simp, by simp, fun m hm => by simp at hm; subst hm; exact .self, by simp⟩
theorem Bfs.step {es : List It} {en : It → Bool} {n : Nat} {L : List Nat} {i : Nat} (T : TreeOk es) (hn : n < es.length) (h : Bfs es en n L i) (hi : i < L.length) : Bfs es en n (L ++ kidsE es en L[i]) (i + 1) := by
  have hlt : ∀ m ∈ L, m < es.length := fun m hm => by have := (h.inn m hm).le T hn; omega
  have hLi := hlt L[i] (List.getElem_mem hi)
  refine ⟨by simp; omega, ?_, ?_, ?_⟩
  · rw [List.take_append_of_le_length (by omega), List.take_succ_eq_append_getElem hi, List.flatMap_append, ← List.cons_append, ← h.eq]
    simp
  · intro m hm
    rcases List.mem_append.1 hm with hm | hm
    · exact h.inn m hm
    · exact .kid (h.inn _ (List.getElem_mem hi)) hm
  · refine List.nodup_append.2 ⟨h.nd, kidsE_nodup T hLi, fun a ha b hb e => ?_⟩
    subst e
    rw [h.eq] at ha
    rcases List.mem_cons.1 ha with rfl | ha
    · have h1 := kidsE_lt T hLi hb
      have h2 := (h.inn _ (List.getElem_mem hi)).le T hn
      omega
    · obtain ⟨p, hp, hap⟩ := List.mem_flatMap.1 ha
      obtain ⟨j, hj, rfl⟩ := List.getElem_of_mem hp
      rw [List.getElem_take] at hap
      have hjl : j < i := by simp at hj; omega
      refine kidsE_apart T (hlt _ (List.getElem_mem (by omega))) hLi ?_ hap hb
      intro e
      have := (List.getElem_inj h.nd).1 e
      omega
open Classical in
/-- The places within n, rising. -/
noncomputable def parts (es : List It) (en : It → Bool) (n : Nat) : List Nat := (List.range (n + 1)).filter fun m => decide (In es en n m)
theorem mem_parts {es : List It} {en : It → Bool} (T : TreeOk es) {n : Nat} (hn : n < es.length) {m : Nat} : m ∈ parts es en n ↔ In es en n m := by
  classical
  unfold parts
  rw [List.mem_filter]
  constructor
  · exact fun h => of_decide_eq_true h.2
  · exact fun h => ⟨by have := h.le T hn; simp; omega, decide_eq_true h⟩
theorem parts_rise (es : List It) (en : It → Bool) (n : Nat) : (parts es en n).Pairwise (· < ·) := by
  unfold parts
  exact List.Pairwise.filter _ List.pairwise_lt_range
theorem Bfs.perm {es : List It} {en : It → Bool} {n : Nat} {L : List Nat} (T : TreeOk es) (hn : n < es.length) (h : Bfs es en n L L.length) : L.Perm (parts es en n) := by
  refine (List.perm_ext_iff_of_nodup h.nd ((parts_rise es en n).imp fun h => Nat.ne_of_lt h)).2 fun m => ?_
  rw [mem_parts T hn]
  refine ⟨h.inn m, fun hm => ?_⟩
  induction hm with
  | self => rw [h.eq]; simp
  | kid _ hx ih =>
    rw [h.eq, List.take_length]
    exact List.mem_cons_of_mem _ (List.mem_flatMap.2 ⟨_, ih, hx⟩)
theorem Bfs.len {es : List It} {en : It → Bool} {n : Nat} {L : List Nat} {i : Nat} (T : TreeOk es) (hn : n < es.length) (h : Bfs es en n L i) : L.length ≤ n + 1 := by
  classical
  have hp : L.Perm ((List.range (n + 1)).filter fun m => decide (m ∈ L)) := by
    refine (List.perm_ext_iff_of_nodup h.nd ((List.Pairwise.filter _ List.pairwise_lt_range).imp fun h => Nat.ne_of_lt h)).2 fun m => ?_
    rw [List.mem_filter]
    constructor
    · exact fun hm => ⟨by have := (h.inn m hm).le T hn; simp; omega, decide_eq_true hm⟩
    · exact fun hm => of_decide_eq_true hm.2
  rw [hp.length_eq]
  refine Nat.le_trans (List.length_filter_le _ _) (by simp)
theorem parts_sorted {es : List It} {en : It → Bool} {n : Nat} {L : List Nat} (hp : L.Perm (parts es en n)) (hs : L.Pairwise (· ≤ ·)) : L = parts es en n :=
  List.Perm.eq_of_pairwise (le := (· ≤ ·)) (fun _ _ _ _ h1 h2 => Nat.le_antisymm h1 h2) hs ((parts_rise es en n).imp Nat.le_of_lt) hp

/-! ### Names, each once -/
def txtAt (es : List It) (m : Nat) : ByteArray := (expAt es m).s
def pick (es : List It) (acc : List Nat) (m : Nat) : List Nat := if (expAt es m).k = 1 ∧ ∀ a ∈ acc, txtAt es a ≠ txtAt es m then acc ++ [m] else acc
/-- The places where names stand first. -/
def firsts (es : List It) (P : List Nat) : List Nat := P.foldl (pick es) []
theorem firsts_snoc (es : List It) (P : List Nat) (m : Nat) : firsts es (P ++ [m]) = pick es (firsts es P) m := by simp [firsts]
theorem pick_sub (es : List It) (acc : List Nat) (m : Nat) : (pick es acc m).Sublist (acc ++ [m]) := by
  unfold pick
  split
  · exact List.Sublist.refl _
  · exact List.sublist_append_left _ _
theorem foldl_pick_sub (es : List It) : ∀ (P acc : List Nat), (P.foldl (pick es) acc).Sublist (acc ++ P)
  | [], acc => by simp
  | m :: P, acc => by
    rw [List.foldl_cons]
    refine (foldl_pick_sub es P _).trans ?_
    rw [show acc ++ m :: P = (acc ++ [m]) ++ P by simp]
    exact (pick_sub es acc m).append (List.Sublist.refl _)
theorem firsts_sub (es : List It) (P : List Nat) : (firsts es P).Sublist P := by simpa [firsts] using foldl_pick_sub es P []
theorem foldl_pick_apart (es : List It) : ∀ (P acc : List Nat), acc.Pairwise (fun a b => txtAt es a ≠ txtAt es b) → (P.foldl (pick es) acc).Pairwise (fun a b => txtAt es a ≠ txtAt es b)
  | [], _, h => h
  | m :: P, acc, h => by
    rw [List.foldl_cons]
    refine foldl_pick_apart es P _ ?_
    unfold pick
    split
    · rename_i hc
      exact List.pairwise_append.2 ⟨h, by simp, fun a ha b hb => by simp at hb; subst hb; exact hc.2 a ha⟩
    · exact h
theorem firsts_apart (es : List It) (P : List Nat) : (firsts es P).Pairwise (fun a b => txtAt es a ≠ txtAt es b) := foldl_pick_apart es P [] List.Pairwise.nil
theorem firsts_len (es : List It) (P : List Nat) : (firsts es P).length ≤ P.length := (firsts_sub es P).length_le
/-- What stands there: names with their places. -/
def named (es : List It) (P : List Nat) : List (ByteArray × Nat) := (firsts es P).map fun a => (txtAt es a, a)
theorem named_names (es : List It) (P : List Nat) : (named es P).map Prod.fst = (firsts es P).map (txtAt es) := by simp [named]
theorem named_apart (es : List It) (P : List Nat) : (named es P).Pairwise (fun p q => p.1 ≠ q.1) := List.pairwise_map.2 (firsts_apart es P)
theorem named_rise {es : List It} {P : List Nat} (h : P.Pairwise (· < ·)) : (named es P).Pairwise (fun p q => p.2 < q.2) := List.pairwise_map.2 (h.sublist (firsts_sub es P))
/-- The names in exp n. -/
noncomputable def varsIn (es : List It) (n : Nat) : List ByteArray := (firsts es (parts es (fun _ => true) n)).map (txtAt es)

end Go.Proofs.YtilijbpbnlnhlaaGreat.Pr
