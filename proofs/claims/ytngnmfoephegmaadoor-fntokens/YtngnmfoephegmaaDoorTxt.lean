/-
  PLAIN MATHEMATICS: the text of a term; the reader of impl takes just the texts of terms.
-/
import Derived.Test.YtngnmfoephegmaaDoorTermNum
namespace Go.Proofs.YtngnmfoephegmaaDoor
open Go

mutual
def Tm.text : Tm → List UInt8
  | .num n => Lib.itoa n
  | .sym b => 34 :: (b ++ [34])
  | .con name args => name ++ argText args
def argText : List Tm → List UInt8
  | [] => []
  | a :: r => 40 :: (a.text ++ moreText r)
def moreText : List Tm → List UInt8
  | [] => [41]
  | a :: r => 44 :: (a.text ++ moreText r)
end

inductive Wf : Tm → Prop
  | num (n : Int) (h0 : -1000000 ≤ n) (h1 : n ≤ 1000000) : Wf (.num n)
  | sym (b : List UInt8) (h : ∀ c ∈ b, isSyB c = true) (hl : b.length ≤ 20) : Wf (.sym b)
  | con (name : List UInt8) (args : List Tm) (h : bigName name = true) (ha : ∀ a ∈ args, Wf a) : Wf (.con name args)

theorem bigName_cons {l : List UInt8} (h : bigName l = true) : ∃ c r, l = c :: r ∧ isBig c = true ∧ l.length ≤ 20 ∧ ∀ x ∈ l, isNam x = true := by
  cases l with
  | nil => cases h
  | cons c r =>
    simp only [bigName, Bool.and_eq_true, decide_eq_true_eq, List.all_eq_true] at h
    exact ⟨c, r, rfl, h.1.2, h.1.1, h.2⟩

/-! ### What is read is a term's text -/

theorem takeWhile_mem {P : UInt8 → Bool} : ∀ {l : List UInt8} {c : UInt8}, c ∈ l.takeWhile P → P c = true
  | [], _, h => by simp at h
  | x :: r, c, h => by
    rw [List.takeWhile_cons] at h
    split at h
    · rename_i hx
      rcases List.mem_cons.1 h with rfl | h
      · exact hx
      · exact takeWhile_mem h
    · simp at h

theorem rdNum_sound {l r : List UInt8} {n : Int} (h : rdNum l = some (n, r)) : Wf (.num n) ∧ l = Lib.itoa n ++ r := by
  unfold rdNum at h
  rw [Option.map_eq_some_iff] at h
  obtain ⟨m, hm, he⟩ := h
  simp only [Prod.mk.injEq] at he
  obtain ⟨rfl, rfl⟩ := he
  obtain ⟨h0, h1, hi⟩ := numOf_iff.1 hm
  exact ⟨.num m h0 h1, by rw [hi, List.take_append_drop]⟩

theorem rdSym_sound {l r b : List UInt8} (h : rdSym l = some (b, r)) : Wf (.sym b) ∧ l = b ++ 34 :: r := by
  unfold rdSym at h
  split at h
  · cases h
  · rename_i c r' hd
    split at h
    · rename_i hc
      simp only [Option.some.injEq, Prod.mk.injEq] at h
      obtain ⟨rfl, rfl⟩ := h
      refine ⟨.sym _ (fun c hc => takeWhile_mem hc) hc.2, ?_⟩
      rw [← hc.1, ← hd, List.takeWhile_append_dropWhile]
    · cases h

theorem rd_sound (f : Nat) : (∀ l t r, rdTerm f l = some (t, r) → Wf t ∧ l = t.text ++ r) ∧ (∀ l ts r, rdArgs f l = some (ts, r) → (∀ a ∈ ts, Wf a) ∧ ∃ a as', ts = a :: as' ∧ l = a.text ++ (moreText as' ++ r)) := by
  induction f using Nat.strongRecOn with
  | ind f ih =>
    constructor
    · intro l t r h
      cases f with
      | zero => simp [rdTerm] at h
      | succ f =>
        cases l with
        | nil => simp [rdTerm] at h
        | cons c l =>
          rw [rdTerm] at h
          split at h
          · rename_i hc
            rw [Option.map_eq_some_iff] at h
            obtain ⟨⟨b, r'⟩, hx, he⟩ := h
            simp only [Prod.mk.injEq] at he
            obtain ⟨rfl, rfl⟩ := he
            obtain ⟨h1, h2⟩ := rdSym_sound hx
            refine ⟨h1, ?_⟩
            rw [hc, h2, Tm.text]; simp
          · split at h
            · rename_i hb
              have hbn := bigName_of (l := l) hb
              unfold rdCon at h
              split at h
              · cases h
              · rename_i hlen
                have hbn : bigName ((c :: l).takeWhile isNam) = true := by rw [hbn]; exact decide_eq_true (by omega)
                have hsplit := (List.takeWhile_append_dropWhile (p := isNam) (l := c :: l)).symm
                split at h
                · rename_i hd
                  simp only [Option.some.injEq, Prod.mk.injEq] at h
                  obtain ⟨rfl, rfl⟩ := h
                  refine ⟨.con _ _ hbn (by simp), ?_⟩
                  rw [Tm.text, argText, List.append_nil, List.append_nil]
                  rw [hd, List.append_nil] at hsplit
                  exact hsplit
                · rename_i c' r' hd
                  split at h
                  · rename_i h40
                    split at h
                    · cases h
                    · rename_i f'
                      rw [Option.map_eq_some_iff] at h
                      obtain ⟨⟨ts, r2⟩, hx, he⟩ := h
                      simp only [Prod.mk.injEq] at he
                      obtain ⟨rfl, rfl⟩ := he
                      obtain ⟨h1, a, as', rfl, h2⟩ := (ih f' (by omega)).2 _ _ _ hx
                      refine ⟨.con _ _ hbn h1, ?_⟩
                      rw [Tm.text, argText]
                      rw [hd, h40, h2] at hsplit
                      simpa using hsplit
                  · simp only [Option.some.injEq, Prod.mk.injEq] at h
                    obtain ⟨rfl, rfl⟩ := h
                    refine ⟨.con _ _ hbn (by simp), ?_⟩
                    rw [Tm.text, argText, List.append_nil]
                    rw [hd] at hsplit
                    exact hsplit
            · rw [Option.map_eq_some_iff] at h
              obtain ⟨⟨n, r'⟩, hx, he⟩ := h
              simp only [Prod.mk.injEq] at he
              obtain ⟨rfl, rfl⟩ := he
              obtain ⟨h1, h2⟩ := rdNum_sound hx
              exact ⟨h1, by rw [Tm.text]; exact h2⟩
    · intro l ts r h
      cases f with
      | zero => simp [rdArgs] at h
      | succ f =>
        rw [rdArgs] at h
        split at h
        · cases h
        · cases h
        · rename_i t c r' ht
          obtain ⟨h1, h2⟩ := (ih f (by omega)).1 _ _ _ ht
          split at h
          · rename_i h41
            simp only [Option.some.injEq, Prod.mk.injEq] at h
            obtain ⟨rfl, rfl⟩ := h
            refine ⟨by simpa using h1, t, [], rfl, ?_⟩
            rw [moreText, h2, h41]; rfl
          · split at h
            · rename_i h44
              rw [Option.map_eq_some_iff] at h
              obtain ⟨⟨us, r2⟩, hx, he⟩ := h
              simp only [Prod.mk.injEq] at he
              obtain ⟨rfl, rfl⟩ := he
              obtain ⟨h3, a, as', rfl, h4⟩ := (ih f (by omega)).2 _ _ _ hx
              refine ⟨fun x hx => ?_, t, a :: as', rfl, ?_⟩
              · rcases List.mem_cons.1 hx with rfl | hx
                · exact h1
                · exact h3 x hx
              · rw [moreText, h2, h44, h4]; simp
            · cases h

/-! ### A term's text is read -/

/-- What may stand behind a term. -/
def Stop (r : List UInt8) : Prop := r = [] ∨ ∃ c r', r = c :: r' ∧ (c = 44 ∨ c = 41)

theorem Stop.head {r : List UInt8} (h : Stop r) (P : UInt8 → Bool) (h44 : P 44 = false) (h41 : P 41 = false) : r.takeWhile P = [] ∧ r.dropWhile P = r := by
  rcases h with rfl | ⟨c, r', rfl, rfl | rfl⟩
  · exact ⟨rfl, rfl⟩
  · simp [h44]
  · simp [h41]

theorem takeWhile_app {P : UInt8 → Bool} : ∀ {l r : List UInt8}, (∀ c ∈ l, P c = true) → r.takeWhile P = [] → r.dropWhile P = r → (l ++ r).takeWhile P = l ∧ (l ++ r).dropWhile P = r
  | [], r, _, h1, h2 => ⟨h1, h2⟩
  | c :: l, r, h, h1, h2 => by
    have := takeWhile_app (l := l) (r := r) (fun x hx => h x (by simp [hx])) h1 h2
    rw [List.cons_append, List.takeWhile_cons, List.dropWhile_cons, h c (by simp)]
    simp only [if_true]
    exact ⟨by rw [this.1], this.2⟩

theorem rdNum_text {n : Int} (h0 : -1000000 ≤ n) (h1 : n ≤ 1000000) {r : List UInt8} (hr : Stop r) : rdNum (Lib.itoa n ++ r) = some (n, r) := by
  obtain ⟨ds, a1, a2, a3, a4⟩ := itoa_shape h0 h1
  have hst := hr.head isDig (by decide) (by decide)
  have hn : numLen (Lib.itoa n ++ r) = (Lib.itoa n).length := by
    rcases a4 with ⟨_, b1, _⟩ | ⟨_, b1, _⟩
    · rw [b1]
      cases hds : ds with
      | nil => exact absurd hds a1
      | cons c q =>
        have hc := a3 c (by rw [hds]; simp)
        have hne : ¬ c = 45 := by rintro rfl; exact absurd hc (by decide)
        rw [List.cons_append]
        simp only [numLen, hne, if_false]
        rw [← List.cons_append, ← hds, (takeWhile_app a3 hst.1 hst.2).1]
    · rw [b1, List.cons_append]
      simp only [numLen, if_true, List.length_cons]
      rw [(takeWhile_app a3 hst.1 hst.2).1]; omega
  unfold rdNum
  rw [hn, List.take_left, List.drop_left, numOf_iff.2 ⟨h0, h1, rfl⟩]
  rfl

theorem rdSym_text {b : List UInt8} (h : ∀ c ∈ b, isSyB c = true) (hl : b.length ≤ 20) (r : List UInt8) : rdSym (b ++ 34 :: r) = some (b, r) := by
  have hx := takeWhile_app (r := 34 :: r) h (by simp [show isSyB 34 = false from rfl]) (by simp [show isSyB 34 = false from rfl])
  unfold rdSym
  rw [hx.1, hx.2]
  simp [hl]

theorem moreText_stop (l : List Tm) (r : List UInt8) : Stop (moreText l ++ r) := by
  cases l with
  | nil => exact .inr ⟨41, r, by rw [moreText]; rfl, .inr rfl⟩
  | cons a l => exact .inr ⟨44, a.text ++ moreText l ++ r, by rw [moreText]; simp, .inl rfl⟩
theorem moreText_pos (l : List Tm) : 1 ≤ (moreText l).length := by
  cases l <;> rw [moreText] <;> simp

theorem rdArgs_text {r : List UInt8} : ∀ (as' : List Tm) (a : Tm) (g : Nat), (∀ x ∈ a :: as', ∀ (f : Nat) (r : List UInt8), Stop r → 2 * x.text.length + 2 ≤ f → rdTerm f (x.text ++ r) = some (x, r)) →
    2 * (a.text ++ moreText as').length + 2 ≤ g → rdArgs g (a.text ++ (moreText as' ++ r)) = some (a :: as', r)
  | [], a, g, h, hg => by
    obtain ⟨g, rfl⟩ : ∃ g', g = g' + 1 := ⟨g - 1, by omega⟩
    have hp := moreText_pos []
    rw [List.length_append] at hg
    have h1 := h a (by simp) g (moreText [] ++ r) (moreText_stop _ _) (by omega)
    rw [moreText] at h1 ⊢
    rw [rdArgs_cons (c := 41) (r := r) h1, if_pos rfl]
  | b :: bs, a, g, h, hg => by
    obtain ⟨g, rfl⟩ : ∃ g', g = g' + 1 := ⟨g - 1, by omega⟩
    have hp := moreText_pos (b :: bs)
    have e : moreText (b :: bs) = 44 :: (b.text ++ moreText bs) := by rw [moreText]
    rw [List.length_append] at hg
    have h1 := h a (by simp) g (moreText (b :: bs) ++ r) (moreText_stop _ _) (by omega)
    rw [e, List.cons_append] at h1
    rw [e, List.length_cons] at hg
    have h2 := rdArgs_text (r := r) bs b g (fun x hx => h x (by simp [List.mem_cons.1 hx])) (by omega)
    rw [e, List.cons_append, rdArgs_cons h1, if_neg (by decide), if_pos rfl, List.append_assoc, h2]
    rfl

theorem rd_text {t : Tm} (h : Wf t) : ∀ (f : Nat) (r : List UInt8), Stop r → 2 * t.text.length + 2 ≤ f → rdTerm f (t.text ++ r) = some (t, r) := by
  induction h with
  | num n h0 h1 =>
    intro f r hr hf
    obtain ⟨f, rfl⟩ : ∃ f', f = f' + 1 := ⟨f - 1, by omega⟩
    obtain ⟨_, _, c, q, hcq, h34, hbig⟩ := rdNum_itoa (numOf_iff.2 ⟨h0, h1, rfl⟩)
    have hx := rdNum_text h0 h1 hr
    rw [Tm.text]
    rw [hcq] at hx ⊢
    rw [List.cons_append] at hx ⊢
    rw [rdTerm, if_neg h34, hbig]
    simp [hx]
  | sym b h hl =>
    intro f r hr hf
    obtain ⟨f, rfl⟩ : ∃ f', f = f' + 1 := ⟨f - 1, by omega⟩
    rw [Tm.text, List.cons_append, rdTerm, if_pos rfl, List.append_assoc]
    have := rdSym_text h hl r
    rw [show [34] ++ r = 34 :: r from rfl, this]
    rfl
  | con name args h ha ih =>
    intro f r hr hf
    obtain ⟨f, rfl⟩ : ∃ f', f = f' + 1 := ⟨f - 1, by omega⟩
    obtain ⟨c, q, hcq, hbig, hlen, hall⟩ := bigName_cons h
    have h34 : c ≠ 34 := by rintro rfl; exact absurd hbig (by decide)
    have hx : (argText args ++ r).takeWhile isNam = [] ∧ (argText args ++ r).dropWhile isNam = argText args ++ r := by
      cases args with
      | nil => rw [argText, List.nil_append]; exact hr.head isNam (by decide) (by decide)
      | cons a as' => rw [argText]; simp [show isNam 40 = false from rfl]
    have hy := takeWhile_app hall hx.1 hx.2
    rw [Tm.text, List.append_assoc]
    have e : name ++ (argText args ++ r) = c :: (q ++ (argText args ++ r)) := by rw [hcq]; rfl
    rw [e, rdTerm, if_neg h34, hbig]
    simp only [if_true]
    rw [← e, hy.1, hy.2]
    unfold rdCon
    rw [if_neg (by omega)]
    cases args with
    | nil =>
      rw [argText, List.nil_append]
      rcases hr with rfl | ⟨c', r', rfl, hc'⟩
      · rfl
      · have : ¬ c' = 40 := by rcases hc' with rfl | rfl <;> decide
        simp [this]
    | cons a as' =>
      rw [Tm.text, argText, List.length_append, List.length_cons] at hf
      obtain ⟨f, rfl⟩ : ∃ f', f = f' + 1 := ⟨f - 1, by omega⟩
      have h2 := rdArgs_text (r := r) as' a f (fun x hx => ih x hx) (by omega)
      rw [argText, List.cons_append, List.append_assoc]
      simp [h2]

/-- impl reads a text as the term whose text it is. -/
theorem rdAll_text {t : Tm} (h : Wf t) (hl : t.text.length ≤ 200) : rdAll t.text = some t := by
  apply rdAll_mk hl
  have := rd_text h 500 [] (.inl rfl) (by omega)
  rwa [List.append_nil] at this
theorem rdAll_sound {l : List UInt8} {t : Tm} (h : rdAll l = some t) : Wf t ∧ t.text = l ∧ l.length ≤ 200 := by
  obtain ⟨h1, h2⟩ := rdAll_of h
  have := (rd_sound 500).1 _ _ _ h2
  rw [List.append_nil] at this
  exact ⟨this.1, this.2.symm, h1⟩

end Go.Proofs.YtngnmfoephegmaaDoor
