/-
  A SCOPE WITH SEVERAL LABELS, in which the run jumps back to one of them alone: a jump to another one is followed (at most so many times in one pass).
-/
import Derived.Scope
import Derived.ScopeJumps
namespace Go.Proofs.YtngnmfoephegmaaDoor
open Go

/-- As Q; by a goto back to label l0: J; by a goto to another label: what comes there, at most n times. -/
def Follow (P : Program) (c : Code) (l0 : Nat) (J : Act → World → Prop) (Q : Exit → Act → World → Prop) : Nat → Exit → Act → World → Prop
  | 0, .goto l, a, w => l = l0 ∧ J a w
  | n + 1, .goto l, a, w => (l = l0 ∧ J a w) ∨ ∃ d, findLabel c l = some d ∧ d.wp P (Follow P c l0 J Q n) a w
  | _, e, a, w => Q e a w

section
variable {P : Program} {a : Act} {w : World} {Q : Exit → Act → World → Prop} {c : Code} {l0 : Nat} {J : Act → World → Prop} {n : Nat}

theorem follow_back (h : J a w) : Follow P c l0 J Q n (.goto l0) a w := by
  cases n with
  | zero => exact ⟨rfl, h⟩
  | succ n => exact .inl ⟨rfl, h⟩
theorem follow_on {l : Nat} {d : Code} (hf : findLabel c l = some d) (h : d.wp P (Follow P c l0 J Q n) a w) : Follow P c l0 J Q (n + 1) (.goto l) a w := .inr ⟨d, hf, h⟩
theorem follow_ret (h : Q .ret a w) : Follow P c l0 J Q n .ret a w := by cases n <;> exact h
theorem follow_normal (h : Q .normal a w) : Follow P c l0 J Q n .normal a w := by cases n <;> exact h

theorem wp_scope_follow {rest : Code} (n : Nat) (l0 : Nat) (J : Act → World → Prop) (μ : Act → World → Nat) (hf : findLabel c l0 = some rest)
    (first : c.wp P (Follow P c l0 J Q n) a w)
    (pass : ∀ a w, J a w → rest.wp P (Follow P c l0 (fun a' w' => J a' w' ∧ μ a' w' < μ a w) Q n) a w) : (Code.scope c).wp P Q a w := by
  intro b k cs
  have hg : ∀ (l : Nat) (d : Code), findLabel c l = some d → gotoIn l (.inScope c :: k) = some (.code d :: .inScope c :: k) := fun l d h => by simp [gotoIn, h]
  have follow : ∀ (J' : Act → World → Prop) (good : ∀ a w, J' a w → ∃ e a' w', Q e a' w' ∧ Arrives P (lone (b.at a (.code rest :: .inScope c :: k)) cs w) b k cs e a' w')
      (n : Nat) (d : Code) (a : Act) (w : World), d.wp P (Follow P c l0 J' Q n) a w → ∃ e a' w', Q e a' w' ∧ Arrives P (lone (b.at a (.code d :: .inScope c :: k)) cs w) b k cs e a' w' := by
    intro J' good n
    induction n with
    | zero =>
      intro d a w h
      obtain ⟨e, a₁, w₁, hq, harr⟩ := h b (.inScope c :: k) cs
      cases e with
      | normal => exact ⟨.normal, a₁, w₁, hq, Steps.trans harr (.one step_inScope)⟩
      | exit id => exact ⟨.exit id, a₁, w₁, hq, fun k' hk => harr k' (by simp [exitTo, hk])⟩
      | goto l' =>
        obtain ⟨rfl, hJ'⟩ := hq
        obtain ⟨e₂, a₂, w₂, hq₂, harr₂⟩ := good _ _ hJ'
        exact ⟨e₂, a₂, w₂, hq₂, .of_steps (harr _ (hg _ _ hf)) harr₂⟩
      | ret => exact ⟨_, a₁, w₁, hq, harr⟩
      | panic ch => exact ⟨_, a₁, w₁, hq, harr⟩
      | outgrown => exact ⟨_, a₁, w₁, hq, harr⟩
    | succ n ih =>
      intro d a w h
      obtain ⟨e, a₁, w₁, hq, harr⟩ := h b (.inScope c :: k) cs
      cases e with
      | normal => exact ⟨.normal, a₁, w₁, hq, Steps.trans harr (.one step_inScope)⟩
      | exit id => exact ⟨.exit id, a₁, w₁, hq, fun k' hk => harr k' (by simp [exitTo, hk])⟩
      | goto l' =>
        rcases hq with ⟨rfl, hJ'⟩ | ⟨d', hd', hw⟩
        · obtain ⟨e₂, a₂, w₂, hq₂, harr₂⟩ := good _ _ hJ'
          exact ⟨e₂, a₂, w₂, hq₂, .of_steps (harr _ (hg _ _ hf)) harr₂⟩
        · obtain ⟨e₂, a₂, w₂, hq₂, harr₂⟩ := ih d' a₁ w₁ hw
          exact ⟨e₂, a₂, w₂, hq₂, .of_steps (harr _ (hg _ _ hd')) harr₂⟩
      | ret => exact ⟨_, a₁, w₁, hq, harr⟩
      | panic ch => exact ⟨_, a₁, w₁, hq, harr⟩
      | outgrown => exact ⟨_, a₁, w₁, hq, harr⟩
  have key : ∀ m a w, μ a w = m → J a w → ∃ e a' w', Q e a' w' ∧ Arrives P (lone (b.at a (.code rest :: .inScope c :: k)) cs w) b k cs e a' w' := by
    intro m
    induction m using Nat.strongRecOn with
    | _ m ih =>
      intro a w hm hJ
      exact follow _ (fun a' w' h => ih _ (by omega) a' w' rfl h.1) n rest a w (pass a w hJ)
  obtain ⟨e, a₁, w₁, hq, harr⟩ := follow J (fun a' w' h => key _ a' w' rfl h) n c a w first
  cases e with
  | normal => exact ⟨.normal, a₁, w₁, hq, .head step_scope harr⟩
  | exit id => exact ⟨.exit id, a₁, w₁, hq, fun k' hk => .head step_scope (harr k' hk)⟩
  | goto l' => exact ⟨_, a₁, w₁, hq, fun k' hk => .head step_scope (harr k' hk)⟩
  | ret => exact ⟨_, a₁, w₁, hq, .of_steps (.one step_scope) harr⟩
  | panic ch => exact ⟨_, a₁, w₁, hq, .of_steps (.one step_scope) harr⟩
  | outgrown => exact ⟨_, a₁, w₁, hq, .of_steps (.one step_scope) harr⟩
theorem inBlock_goto {R : Exit → Act → World → Prop} {id l : Nat} (h : R (.goto l) a w) : Exit.inBlock id R (.goto l) a w := h
theorem then_goto {R : Exit → Act → World → Prop} {K : Act → World → Prop} {l : Nat} (h : R (.goto l) a w) : Exit.then K R (.goto l) a w := h

theorem follow_mono {J J' : Act → World → Prop} (h : ∀ a w, J a w → J' a w) : ∀ (n : Nat) (e : Exit) (a : Act) (w : World), Follow P c l0 J Q n e a w → Follow P c l0 J' Q n e a w := by
  intro n
  induction n with
  | zero =>
    intro e a w hf
    cases e with
    | goto l => exact ⟨hf.1, h _ _ hf.2⟩
    | _ => exact hf
  | succ n ih =>
    intro e a w hf
    cases e with
    | goto l =>
      rcases hf with ⟨h1, h2⟩ | ⟨d, hd, hw⟩
      · exact .inl ⟨h1, h _ _ h2⟩
      · exact .inr ⟨d, hd, wp_mono hw (ih)⟩
    | _ => exact hf

/-- The first pass may come to the label as a pass does. -/
theorem wp_scope_follow2 {rest : Code} (n : Nat) (l0 : Nat) (J : Act → World → Prop) (μ : Act → World → Nat) (hf : findLabel c l0 = some (.seq .skip rest))
    (pass : ∀ a w, J a w → rest.wp P (Follow P c l0 (fun a' w' => J a' w' ∧ μ a' w' < μ a w) Q n) a w)
    (first : (∀ a w, J a w → rest.wp P (Follow P c l0 J Q n) a w) → c.wp P (Follow P c l0 J Q n) a w) : (Code.scope c).wp P Q a w :=
  wp_scope_follow n l0 J μ hf (first fun a w hJ => wp_mono (pass a w hJ) (follow_mono (fun _ _ h => h.1) n)) (fun a w hJ => by
    have := pass a w hJ
    apply wp_seq
    apply wp_skip
    exact this)
end
end Go.Proofs.YtngnmfoephegmaaDoor
