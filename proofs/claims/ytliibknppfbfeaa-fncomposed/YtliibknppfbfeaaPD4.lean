/-
  TO GO ALONG THREE GRAPHS is the same whichever two are put together first.
-/
import Derived.Test.YtliibknppfbfeaaPA1
namespace Go.Proofs.Ytliibknppfbfeaa.Pr
open Go Go.RowKit Go.Maps Go.WideMaps

theorem mem_compA {g h : List Ar} {x : Ar} : x ∈ compA g h ↔ ∃ m, m < 36 ∧ meets g h (pA m) (pB m) = true ∧ x = arcOf g h m := by
  unfold compA arcsTo
  rw [List.mem_map]
  constructor
  · rintro ⟨m, hm, rfl⟩
    rw [List.mem_filter, List.mem_range] at hm
    exact ⟨m, hm.1, hm.2, rfl⟩
  · rintro ⟨m, h1, h2, rfl⟩
    exact ⟨m, by rw [List.mem_filter, List.mem_range]; exact ⟨h1, h2⟩, rfl⟩
theorem compA_right (g h : List Ar) : RightA (compA g h) := by
  have hs : (compA g h).Pairwise (fun x y => arcKey x < arcKey y) := by
    unfold compA arcsTo
    rw [List.pairwise_map]
    refine List.Pairwise.filter _ ?_
    refine List.Pairwise.imp_of_mem (R := fun a b => a < b) ?_ List.pairwise_lt_range
    intro a b _ _ hab
    unfold arcKey arcOf pA pB
    dsimp only
    omega
  refine ⟨fun i hi => ?_, fun i hi => List.pairwise_iff_getElem.1 hs i (i + 1) (by omega) hi (by omega)⟩
  obtain ⟨m, hm, _, he⟩ := mem_compA.1 (List.getElem_mem hi)
  rw [he]
  unfold arcOf pA pB inA
  dsimp only
  omega
/-- What an arc of two graphs put together says. -/
theorem arc_comp {g h : List Ar} (Rg : RightA g) (Rh : RightA h) {a b : Int} : (∃ x ∈ compA g h, x.a = a ∧ x.b = b) ↔ ∃ x ∈ g, ∃ y ∈ h, x.a = a ∧ x.b = y.a ∧ y.b = b := by
  constructor
  · rintro ⟨x, hx, rfl, rfl⟩
    obtain ⟨m, _, hm, rfl⟩ := mem_compA.1 hx
    exact meets_iff.1 hm
  · rintro ⟨x, hx, y, hy, rfl, h2, rfl⟩
    obtain ⟨a, _, ha, _, e1, _⟩ := Rg.places hx
    obtain ⟨_, b, _, hb, _, e2⟩ := Rh.places hy
    have q1 : pA (6 * a + b) = x.a := by unfold pA; omega
    have q2 : pB (6 * a + b) = y.b := by unfold pB; omega
    exact ⟨arcOf g h (6 * a + b), mem_compA.2 ⟨6 * a + b, by omega, by rw [q1, q2]; exact meets_iff.2 ⟨x, hx, y, hy, rfl, h2, rfl⟩, rfl⟩, q1, q2⟩
theorem arc_compS {g h : List Ar} (Rg : RightA g) (Rh : RightA h) {a b : Int} : (∃ x ∈ compA g h, x.a = a ∧ x.b = b ∧ x.s = true) ↔ ∃ x ∈ g, ∃ y ∈ h, x.a = a ∧ x.b = y.a ∧ y.b = b ∧ (x.s = true ∨ y.s = true) := by
  constructor
  · rintro ⟨x, hx, rfl, rfl, hs⟩
    obtain ⟨m, _, hm, rfl⟩ := mem_compA.1 hx
    exact meetsS_iff.1 hs
  · rintro ⟨x, hx, y, hy, rfl, h2, rfl, hs⟩
    obtain ⟨a, _, ha, _, e1, _⟩ := Rg.places hx
    obtain ⟨_, b, _, hb, _, e2⟩ := Rh.places hy
    have q1 : pA (6 * a + b) = x.a := by unfold pA; omega
    have q2 : pB (6 * a + b) = y.b := by unfold pB; omega
    refine ⟨arcOf g h (6 * a + b), mem_compA.2 ⟨6 * a + b, by omega, by rw [q1, q2]; exact meets_iff.2 ⟨x, hx, y, hy, rfl, h2, rfl⟩, rfl⟩, q1, q2, ?_⟩
    show meetsS g h (pA (6 * a + b)) (pB (6 * a + b)) = true
    rw [q1, q2]
    exact meetsS_iff.2 ⟨x, hx, y, hy, rfl, h2, rfl, hs⟩
theorem right_ext {l m : List Ar} (Rl : RightA l) (Rm : RightA m) (h1 : ∀ a b, (∃ x ∈ l, x.a = a ∧ x.b = b) ↔ ∃ x ∈ m, x.a = a ∧ x.b = b) (h2 : ∀ a b, (∃ x ∈ l, x.a = a ∧ x.b = b ∧ x.s = true) ↔ ∃ x ∈ m, x.a = a ∧ x.b = b ∧ x.s = true) : l = m := by
  have half : ∀ {l m : List Ar}, RightA l → RightA m → (∀ a b, (∃ x ∈ l, x.a = a ∧ x.b = b) ↔ ∃ x ∈ m, x.a = a ∧ x.b = b) → (∀ a b, (∃ x ∈ l, x.a = a ∧ x.b = b ∧ x.s = true) ↔ ∃ x ∈ m, x.a = a ∧ x.b = b ∧ x.s = true) → ∀ x, x ∈ l → x ∈ m := by
    intro l m Rl Rm h1 h2 x hx
    obtain ⟨y, hy, e1, e2⟩ := (h1 x.a x.b).1 ⟨x, hx, rfl, rfl⟩
    have hxy : x.s = y.s := by
      cases hs : x.s with
      | true =>
        obtain ⟨z, hz, z1, z2, z3⟩ := (h2 x.a x.b).1 ⟨x, hx, rfl, rfl, hs⟩
        rw [← Rm.uniq hz hy (by rw [z1, e1]) (by rw [z2, e2]), z3]
      | false =>
        cases ht : y.s with
        | false => rfl
        | true =>
          obtain ⟨z, hz, z1, z2, z3⟩ := (h2 x.a x.b).2 ⟨y, hy, e1, e2, ht⟩
          rw [Rl.uniq hz hx z1 z2, hs] at z3
          cases z3
    obtain ⟨xa, xb, xs⟩ := x
    obtain ⟨ya, yb, ys⟩ := y
    dsimp only at e1 e2 hxy
    subst e1 e2 hxy
    exact hy
  exact sorted_ext arcKey l m Rl.sorted Rm.sorted fun x => ⟨half Rl Rm h1 h2 x, half Rm Rl (fun a b => (h1 a b).symm) (fun a b => (h2 a b).symm) x⟩
theorem comp_assoc {g h k : List Ar} (Rg : RightA g) (Rh : RightA h) (Rk : RightA k) : compA (compA g h) k = compA g (compA h k) := by
  refine right_ext (compA_right _ _) (compA_right _ _) (fun a b => ?_) (fun a b => ?_)
  · rw [arc_comp (compA_right g h) Rk, arc_comp Rg (compA_right h k)]
    constructor
    · rintro ⟨x, hx, z, hz, x1, x2, z2⟩
      obtain ⟨u, hu, v, hv, u1, u2, v2⟩ := (arc_comp Rg Rh (a := x.a) (b := x.b)).1 ⟨x, hx, rfl, rfl⟩
      obtain ⟨t, ht, t1, t2⟩ := (arc_comp Rh Rk (a := v.a) (b := z.b)).2 ⟨v, hv, z, hz, rfl, by rw [v2, x2], rfl⟩
      exact ⟨u, hu, t, ht, by rw [u1, x1], by rw [u2, t1], by rw [t2, z2]⟩
    · rintro ⟨u, hu, t, ht, u1, u2, t2⟩
      obtain ⟨v, hv, z, hz, v1, v2, z2⟩ := (arc_comp Rh Rk (a := t.a) (b := t.b)).1 ⟨t, ht, rfl, rfl⟩
      obtain ⟨x, hx, x1, x2⟩ := (arc_comp Rg Rh (a := u.a) (b := v.b)).2 ⟨u, hu, v, hv, rfl, by rw [u2, v1], rfl⟩
      exact ⟨x, hx, z, hz, by rw [x1, u1], by rw [x2, v2], by rw [z2, t2]⟩
  · rw [arc_compS (compA_right g h) Rk, arc_compS Rg (compA_right h k)]
    constructor
    · rintro ⟨x, hx, z, hz, x1, x2, z2, hs⟩
      by_cases hxs : x.s = true
      · obtain ⟨u, hu, v, hv, u1, u2, v2, huv⟩ := (arc_compS Rg Rh (a := x.a) (b := x.b)).1 ⟨x, hx, rfl, rfl, hxs⟩
        rcases huv with huv | huv
        · obtain ⟨t, ht, t1, t2⟩ := (arc_comp Rh Rk (a := v.a) (b := z.b)).2 ⟨v, hv, z, hz, rfl, by rw [v2, x2], rfl⟩
          exact ⟨u, hu, t, ht, by rw [u1, x1], by rw [u2, t1], by rw [t2, z2], .inl huv⟩
        · obtain ⟨t, ht, t1, t2, t3⟩ := (arc_compS Rh Rk (a := v.a) (b := z.b)).2 ⟨v, hv, z, hz, rfl, by rw [v2, x2], rfl, .inl huv⟩
          exact ⟨u, hu, t, ht, by rw [u1, x1], by rw [u2, t1], by rw [t2, z2], .inr t3⟩
      · have hzs : z.s = true := hs.resolve_left hxs
        obtain ⟨u, hu, v, hv, u1, u2, v2⟩ := (arc_comp Rg Rh (a := x.a) (b := x.b)).1 ⟨x, hx, rfl, rfl⟩
        obtain ⟨t, ht, t1, t2, t3⟩ := (arc_compS Rh Rk (a := v.a) (b := z.b)).2 ⟨v, hv, z, hz, rfl, by rw [v2, x2], rfl, .inr hzs⟩
        exact ⟨u, hu, t, ht, by rw [u1, x1], by rw [u2, t1], by rw [t2, z2], .inr t3⟩
    · rintro ⟨u, hu, t, ht, u1, u2, t2, hs⟩
      by_cases hts : t.s = true
      · obtain ⟨v, hv, z, hz, v1, v2, z2, hvz⟩ := (arc_compS Rh Rk (a := t.a) (b := t.b)).1 ⟨t, ht, rfl, rfl, hts⟩
        rcases hvz with hvz | hvz
        · obtain ⟨x, hx, x1, x2, x3⟩ := (arc_compS Rg Rh (a := u.a) (b := v.b)).2 ⟨u, hu, v, hv, rfl, by rw [u2, v1], rfl, .inr hvz⟩
          exact ⟨x, hx, z, hz, by rw [x1, u1], by rw [x2, v2], by rw [z2, t2], .inl x3⟩
        · obtain ⟨x, hx, x1, x2⟩ := (arc_comp Rg Rh (a := u.a) (b := v.b)).2 ⟨u, hu, v, hv, rfl, by rw [u2, v1], rfl⟩
          exact ⟨x, hx, z, hz, by rw [x1, u1], by rw [x2, v2], by rw [z2, t2], .inr hvz⟩
      · have hus : u.s = true := hs.resolve_right hts
        obtain ⟨v, hv, z, hz, v1, v2, z2⟩ := (arc_comp Rh Rk (a := t.a) (b := t.b)).1 ⟨t, ht, rfl, rfl⟩
        obtain ⟨x, hx, x1, x2, x3⟩ := (arc_compS Rg Rh (a := u.a) (b := v.b)).2 ⟨u, hu, v, hv, rfl, by rw [u2, v1], rfl, .inl hus⟩
        exact ⟨x, hx, z, hz, by rw [x1, u1], by rw [x2, v2], by rw [z2, t2], .inl x3⟩
/-- The law's own sentence: of three graphs. -/
theorem ans_assoc {g h k : Gr} (h1 : (compAns g h).2 = true) (h2 : (compAns h k).2 = true) : (compAns (compAns g h).1 k) = (compAns g (compAns h k).1) ∧ (compAns (compAns g h).1 k).2 = true := by
  have of : ∀ {a b : Gr}, (compAns a b).2 = true → RightA a.rs ∧ RightA b.rs ∧ a.t = b.f := by
    intro a b h
    unfold compAns at h
    split at h
    · assumption
    · cases h
  obtain ⟨Rg, Rh, e1⟩ := of h1
  obtain ⟨_, Rk, e2⟩ := of h2
  rw [compAns_ok Rg Rh e1, compAns_ok Rh Rk e2]
  have e3 : compAns ⟨g.f, h.t, compA g.rs h.rs⟩ k = (⟨g.f, k.t, compA (compA g.rs h.rs) k.rs⟩, true) := compAns_ok (compA_right _ _) Rk e2
  have e4 : compAns g ⟨h.f, k.t, compA h.rs k.rs⟩ = (⟨g.f, k.t, compA g.rs (compA h.rs k.rs)⟩, true) := compAns_ok Rg (compA_right _ _) e1
  rw [e3, e4, comp_assoc Rg Rh Rk]
  exact ⟨rfl, rfl⟩

end Go.Proofs.Ytliibknppfbfeaa.Pr
