/-
  THE WALKS over inside, impl.Inside, spec.Inside; laws.FnExactInside answers true.
-/
import Derived.Test.YtngnmfoephegmaaDoorSpecSize
namespace Go.Proofs.YtngnmfoephegmaaDoor
open Go Go.RowKit Go.Maps Go.WideMaps

/-- a lies inside t: it is an argument of t, or lies inside one. -/
inductive Has (a : Tm) : Tm → Prop
  | here (t : Tm) (h : a ∈ t.kids) : Has a t
  | deep (t x : Tm) (h : x ∈ t.kids) (hx : Has a x) : Has a t

theorem has_iff (a t : Tm) : Has a t ↔ ∃ x ∈ t.kids, x = a ∨ Has a x := by
  constructor
  · intro h
    cases h with
    | here _ h => exact ⟨a, h, .inl rfl⟩
    | deep _ x h hx => exact ⟨x, h, .inr hx⟩
  · rintro ⟨x, h, rfl | hx⟩
    · exact .here _ h
    · exact .deep _ x h hx
theorem has_len {a t : Tm} (h : Has a t) : a.text.length < t.text.length := by
  induction h with
  | here t h => exact kids_len h
  | deep t x h _ ih => have := kids_len h; omega

theorem ListAt.fun {cs : List Cl} : ∀ {xs ys : List Nat} {l : Nat}, ListAt cs l xs → ListAt cs l ys → xs = ys
  | [], [], _, _, _ => rfl
  | [], y :: ys, l, h, k => by
    have h0 : l = 0 := h
    obtain ⟨i, l', e, _⟩ := k
    omega
  | x :: xs, [], l, h, k => by
    have h0 : l = 0 := k
    obtain ⟨i, l', e, _⟩ := h
    omega
  | x :: xs, y :: ys, l, h, k => by
    obtain ⟨i, l1, e1, c1, t1⟩ := h
    obtain ⟨j, l2, e2, c2, t2⟩ := k
    obtain rfl : i = j := by omega
    rw [c1] at c2
    have := Option.some.inj c2
    simp only [Cl.mk.injEq] at this
    obtain ⟨e3, rfl⟩ := this
    rw [ListAt.fun t1 t2]
    congr 1
theorem ListAt.inj {cs : List Cl} (hc : ∀ (i j : Nat) (c : Cl), cs[i]? = some c → cs[j]? = some c → i = j) : ∀ {xs : List Nat} {l l' : Nat}, ListAt cs l xs → ListAt cs l' xs → l = l'
  | [], l, l', h, k => by
    have h0 : l = 0 := h
    have k0 : l' = 0 := k
    omega
  | x :: xs, l, l', h, k => by
    obtain ⟨i, l1, e1, c1, t1⟩ := h
    obtain ⟨j, l2, e2, c2, t2⟩ := k
    obtain rfl := ListAt.inj hc t1 t2
    have := hc i j _ c1 c2
    omega

theorem At.fun {ns : List Nd} {cs : List Cl} {i : Nat} {t : Tm} (h : At ns cs i t) : ∀ {u : Tm}, At ns cs i u → t = u := by
  induction h with
  | num i n h =>
    intro u hu
    cases hu with
    | num _ n' h' => rw [h] at h'; simp only [Option.some.injEq, Nd.mk.injEq, true_and, and_true] at h'; rw [h']
    | sym _ y h' => rw [h] at h'; simp at h'
    | con _ name args l is h' _ _ _ => rw [h] at h'; simp at h'
  | sym i y h =>
    intro u hu
    cases hu with
    | num _ n' h' => rw [h] at h'; simp at h'
    | sym _ y' h' =>
      rw [h] at h'
      simp only [Option.some.injEq, Nd.mk.injEq, true_and, and_true, ByteArray.mk.injEq, Array.mk.injEq, List.cons_append, List.cons.injEq] at h'
      rw [List.append_cancel_right h']
    | con _ name args l is h' _ _ _ => rw [h] at h'; simp at h'
  | con i name args l is h hl hlen ha ih =>
    intro u hu
    cases hu with
    | num _ n' h' => rw [h] at h'; simp at h'
    | sym _ y' h' => rw [h] at h'; simp at h'
    | con _ name' args' l' is' h' hl' hlen' ha' =>
      rw [h] at h'
      simp only [Option.some.injEq, Nd.mk.injEq, true_and] at h'
      obtain ⟨rfl, hll⟩ := h'
      obtain rfl : l = l' := by omega
      obtain rfl := hl.fun hl'
      congr 1
      apply List.ext_getElem (by omega)
      intro k hk hk'
      have hki : k < is.length := by omega
      exact ih k is[k] args[k] (List.getElem?_eq_getElem hki) (List.getElem?_eq_getElem hk) (ha' k is[k] args'[k] (List.getElem?_eq_getElem hki) (List.getElem?_eq_getElem hk'))

theorem At.inj {ns : List Nd} {cs : List Cl} (hn : ∀ (i j : Nat) (c : Nd), ns[i]? = some c → ns[j]? = some c → i = j) (hc : ∀ (i j : Nat) (c : Cl), cs[i]? = some c → cs[j]? = some c → i = j)
    {i : Nat} {t : Tm} (h : At ns cs i t) : ∀ {j : Nat}, At ns cs j t → i = j := by
  induction h with
  | num i n h =>
    intro j hu
    cases hu with
    | num _ n' h' => exact hn i j _ h h'
  | sym i y h =>
    intro j hu
    cases hu with
    | sym _ y' h' => exact hn i j _ h h'
  | con i name args l is h hl hlen ha ih =>
    intro j hu
    generalize hz : Tm.con (lst name) args = z at hu
    cases hu with
    | num _ n' h' => cases hz
    | sym _ y' h' => cases hz
    | con _ name' args' l' is' h' hl' hlen' ha' =>
      simp only [Tm.con.injEq] at hz
      obtain ⟨hnm, rfl⟩ := hz
      obtain rfl := lst_inj hnm
      have e : is = is' := by
        apply List.ext_getElem (by omega)
        intro k hk hk'
        have hka : k < args.length := by omega
        exact ih k is[k] args[k] (List.getElem?_eq_getElem hk) (List.getElem?_eq_getElem hka) (ha' k is'[k] args[k] (List.getElem?_eq_getElem hk') (List.getElem?_eq_getElem hka))
      subst e
      obtain rfl := ListAt.inj hc hl hl'
      exact hn i j _ h h'

theorem StoreAt.inj {w : World} {base b : Nat} {ns : List Nd} {cs : List Cl} (h : StoreAt w base b ns cs) {i j : Nat} {t : Tm} (hi : At ns cs i t) (hj : At ns cs j t) : i = j := by
  obtain ⟨vn, vc, mn, mc, Dn, Dc, a1, a2, a3, a4, a5, a6, a7, a8, a9, a10, a11⟩ := h.lies
  refine hi.inj (fun i j c hi hj => a9.inj (v := c.val) ?_ ?_) (fun i j c hi hj => a11.inj (v := c.val) ?_ ?_) hj
  · rw [List.getElem?_map, hi]; rfl
  · rw [List.getElem?_map, hj]; rfl
  · rw [List.getElem?_map, hi]; rfl
  · rw [List.getElem?_map, hj]; rfl

/-- The arguments gone by are not a, and a lies in none. -/
def GoneBy (a : Tm) (ts : List Tm) (k : Nat) : Prop := ∀ (j : Nat) (h : j < ts.length), j < k → ts[j] ≠ a ∧ ¬ Has a ts[j]
theorem gone_not {a t : Tm} {k : Nat} (h : GoneBy a t.kids k) (hk : t.kids.length ≤ k) : ¬ Has a t := by
  rw [has_iff]
  rintro ⟨x, hx, h1⟩
  obtain ⟨j, hj, rfl⟩ := List.getElem_of_mem hx
  have := h j hj (by omega)
  exact h1.elim this.1 this.2
theorem gone_more {a : Tm} {ts : List Tm} {k : Nat} (h : GoneBy a ts k) (hk : k < ts.length) (h1 : ts[k] ≠ a) (h2 : ¬ Has a ts[k]) : GoneBy a ts (k + 1) := by
  intro j hj hjk
  by_cases e : j < k
  · exact h j hj e
  · obtain rfl : j = k := by omega
    exact ⟨h1, h2⟩

def InRel (base b : Nat) (ns : List Nd) (cs : List Cl) (w : World) (a : Tm) (is : List Nat) (ts : List Tm) (rb : Nat) (vs : Value) (v12 : Value) (wr : World) : Prop :=
  ∃ k : Nat, v12 = .int .i64 (k : Int) ∧ k ≤ is.length ∧ GoneBy a ts k ∧ wr.ownsRow rb 3 1 vs is.length (intCells is) ∧ StoreAt wr base b ns cs ∧ Below w.heap.size w wr

/-- What both answer. -/
def InsideIs (x y : List UInt8) : Prop := ∃ a t : Tm, rdAll x = some a ∧ rdAll y = some t ∧ Has a t

/-- What the loop over the parts holds. -/
def InParts (w : World) (a : Tm) (xs : List ByteArray) (ts : List Tm) (rb : Nat) (vs : Value) (v : Value) (wr : World) : Prop :=
  ∃ k : Nat, v = .int .i64 (k : Int) ∧ k ≤ xs.length ∧ GoneBy a ts k ∧ wr.ownsRow rb 9 1 vs xs.length (strCells xs) ∧ Below w.heap.size w wr

end Go.Proofs.YtngnmfoephegmaaDoor
