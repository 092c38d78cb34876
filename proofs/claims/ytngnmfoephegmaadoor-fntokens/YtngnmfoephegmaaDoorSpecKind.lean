/-
  PLAIN MATHEMATICS: spec.TermKind answers as impl.TermKind.
-/
import Derived.Test.YtngnmfoephegmaaDoorSpecTxt
namespace Go.Proofs.YtngnmfoephegmaaDoor
open Go

theorem glue_text : ∀ (as' : List Tm) (a : Tm), glue ((a :: as').map Tm.text) ++ [41] = a.text ++ moreText as'
  | [], a => by rw [moreText]; rfl
  | b :: bs, a => by
    have := glue_text bs b
    rw [moreText]
    show (a.text ++ 44 :: glue ((b :: bs).map Tm.text)) ++ [41] = _
    rw [List.append_assoc, List.cons_append, this]

theorem open_of_nam {c : UInt8} (h : isNam c = true) : isOpen c = true := by
  simp only [isOpen, bne_iff_ne]
  rintro rfl
  exact absurd h (by decide)

theorem sArgs_con {name : List UInt8} {args : List Tm} (h : bigName name = true) (ha : ∀ a ∈ args, Wf a) : sArgs (Tm.con name args).text = (name, args.map Tm.text, true) := by
  obtain ⟨_, _, _, _, _, hall⟩ := bigName_cons h
  cases args with
  | nil =>
    have e : (Tm.con name []).text = name := by rw [Tm.text, argText, List.append_nil]
    have hx := takeWhile_app (r := []) (fun c hc => open_of_nam (hall c hc)) rfl rfl
    rw [List.append_nil] at hx
    rw [e]
    unfold sArgs
    rw [hx.2]
    rfl
  | cons a as' =>
    have e : (Tm.con name (a :: as')).text = name ++ 40 :: (a.text ++ moreText as') := by rw [Tm.text, argText]
    have hx := takeWhile_app (P := isOpen) (r := 40 :: (a.text ++ moreText as')) (fun c hc => open_of_nam (hall c hc)) (by simp [show isOpen 40 = false from rfl]) (by simp [show isOpen 40 = false from rfl])
    have hs := scan_args as' a [] [] ha
    rw [List.append_nil] at hs
    rw [e]
    unfold sArgs
    rw [hx.2]
    simp only
    rw [hs, hx.1]
    rfl

theorem numOf_other {t : Tm} (h : Wf t) (hl : t.text.length ≤ 200) (hk : t.kind ≠ 1) : numOf t.text = none := by
  cases hm : numOf t.text with
  | none => rfl
  | some m =>
    have := rdAll_num.2 hm
    rw [rdAll_text h hl] at this
    obtain rfl := Option.some.inj this
    exact absurd rfl hk

theorem symOk_text {b : List UInt8} (h : ∀ c ∈ b, isSyB c = true) (hl : b.length ≤ 20) : symOk (34 :: (b ++ [34])) = true := by
  simp only [symOk, List.length_cons, List.length_append, List.length_nil, Bool.and_eq_true, decide_eq_true_eq, List.tail_cons, List.all_eq_true]
  refine ⟨⟨⟨by omega, by omega⟩, ?_⟩, ?_⟩
  · rw [← List.cons_append, List.getLast?_append]; rfl
  · rw [List.dropLast_concat]; exact h
theorem symOk_back {r : List UInt8} (h : symOk (34 :: r) = true) : ∃ b, r = b ++ [34] ∧ (∀ c ∈ b, isSyB c = true) ∧ b.length ≤ 20 := by
  simp only [symOk, List.length_cons, Bool.and_eq_true, decide_eq_true_eq, List.tail_cons, List.all_eq_true, beq_iff_eq] at h
  obtain ⟨⟨⟨h1, h2⟩, h3⟩, h4⟩ := h
  have hr : r ≠ [] := by rintro rfl; simp at h1
  rw [List.getLast?_cons_of_ne_nil hr, List.getLast?_eq_some_getLast hr] at h3
  have h5 := List.dropLast_concat_getLast hr
  rw [Option.some.inj h3] at h5
  refine ⟨r.dropLast, h5.symm, h4, ?_⟩
  rw [List.length_dropLast]; omega

theorem sub_len {a : Tm} {args : List Tm} {name : List UInt8} (h : a ∈ args) : a.text.length < (Tm.con name args).text.length := by
  have key : ∀ (as' : List Tm) (b : Tm), a ∈ b :: as' → a.text.length < (b.text ++ moreText as').length := by
    intro as'
    induction as' with
    | nil =>
      intro b hb
      obtain rfl : a = b := by simpa using hb
      rw [moreText]; simp
    | cons c cs ih =>
      intro b hb
      rcases List.mem_cons.1 hb with rfl | hb
      · have := moreText_pos (c :: cs)
        rw [List.length_append]; omega
      · have := ih c hb
        rw [moreText, List.length_append, List.length_cons]; omega
  cases args with
  | nil => cases h
  | cons b bs =>
    have := key bs b h
    rw [Tm.text, argText, List.length_append, List.length_cons]
    omega

theorem kind_pos (t : Tm) : t.kind ≠ 0 := by cases t <;> simp [Tm.kind]

theorem sKind_text : ∀ (f : Nat) (t : Tm), Wf t → t.text.length ≤ 200 → t.text.length < f → sKind f t.text = t.kind := by
  intro f
  induction f with
  | zero => intro t _ _ hf; omega
  | succ f ih =>
    intro t ht hl hf
    have hne : t.text ≠ [] := by
      cases ht with
      | num n h0 h1 => rw [Tm.text]; exact itoa_ne_nil n
      | sym b h hl => rw [Tm.text]; simp
      | con name args h ha =>
        obtain ⟨c, r, rfl, _⟩ := bigName_cons h
        rw [Tm.text]; simp
    rw [sKind, if_neg (fun h => h.elim hne (by omega))]
    cases ht with
    | num n h0 h1 =>
      have : numOf (Tm.num n).text = some n := by rw [Tm.text]; exact numOf_iff.2 ⟨h0, h1, rfl⟩
      rw [this]; rfl
    | sym b h hl' =>
      rw [numOf_other (.sym b h hl') hl (by simp [Tm.kind])]
      have e : (Tm.sym b).text = 34 :: (b ++ [34]) := by rw [Tm.text]
      rw [e]
      simp only [Option.isSome_none, Bool.false_eq_true, if_false, List.head?_cons, if_true]
      rw [symOk_text h hl']; rfl
    | con name args h ha =>
      rw [numOf_other (.con name args h ha) hl (by simp [Tm.kind])]
      obtain ⟨c, r, hcr, hbig, _, _⟩ := bigName_cons h
      have hh : (Tm.con name args).text.head? = some c := by rw [Tm.text, hcr]; rfl
      have h34 : c ≠ 34 := by rintro rfl; exact absurd hbig (by decide)
      rw [hh]
      simp only [Option.isSome_none, Bool.false_eq_true, if_false, Option.some.injEq, h34]
      rw [sArgs_con h ha]
      simp only [h, Bool.and_self, if_true]
      rw [if_pos]
      · rfl
      · rw [List.all_map, List.all_eq_true]
        intro a haa
        have hlt := sub_len (name := name) haa
        have := ih a (ha a haa) (by omega) (by omega)
        simp only [Function.comp, this, bne_iff_ne]
        exact kind_pos a

theorem texts_back {f : Nat} (ih : ∀ l, sKind f l ≠ 0 → ∃ t, Wf t ∧ t.text = l) : ∀ (args : List (List UInt8)), (∀ a ∈ args, sKind f a ≠ 0) → ∃ ts : List Tm, (∀ t ∈ ts, Wf t) ∧ ts.map Tm.text = args
  | [], _ => ⟨[], by simp, rfl⟩
  | a :: r, h => by
    obtain ⟨t, h1, h2⟩ := ih a (h a (by simp))
    obtain ⟨ts, h3, h4⟩ := texts_back ih r (fun x hx => h x (by simp [hx]))
    exact ⟨t :: ts, fun x hx => (List.mem_cons.1 hx).elim (fun e => e ▸ h1) (h3 x), by simp [h2, h4]⟩

theorem sKind_back : ∀ (f : Nat) (l : List UInt8), sKind f l ≠ 0 → ∃ t, Wf t ∧ t.text = l := by
  intro f
  induction f with
  | zero => intro l h; exact absurd rfl h
  | succ f ih =>
    intro l h
    rw [sKind] at h
    split at h
    · exact absurd rfl h
    · split at h
      · rename_i hn
        obtain ⟨n, hn⟩ := Option.isSome_iff_exists.1 hn
        obtain ⟨h0, h1, hi⟩ := numOf_iff.1 hn
        exact ⟨.num n, .num n h0 h1, by rw [Tm.text]; exact hi⟩
      · split at h
        · rename_i hh
          split at h
          · rename_i hs
            cases l with
            | nil => cases hh
            | cons c r =>
              obtain rfl : c = 34 := by simpa using hh
              obtain ⟨b, rfl, h1, h2⟩ := symOk_back hs
              exact ⟨.sym b, .sym b h1 h2, by rw [Tm.text]⟩
          · exact absurd rfl h
        · split at h
          · rename_i hc
            split at h
            · rename_i hall
              rw [Bool.and_eq_true] at hc
              obtain ⟨hok, hbn⟩ := hc
              have hall' : ∀ a ∈ (sArgs l).2.1, sKind f a ≠ 0 := fun a ha => by
                have := List.all_eq_true.1 hall a ha
                simpa using this
              obtain ⟨ts, h1, h2⟩ := texts_back ih _ hall'
              have hsplit := (List.takeWhile_append_dropWhile (p := isOpen) (l := l)).symm
              cases hd : l.dropWhile isOpen with
              | nil =>
                have e : sArgs l = (l, [], true) := by unfold sArgs; rw [hd]
                rw [e] at hbn
                exact ⟨.con l [], .con l [] hbn (by simp), by rw [Tm.text, argText, List.append_nil]⟩
              | cons c r =>
                have hc40 : c = 40 := by
                  have : isOpen c = false := by
                    have := List.head?_dropWhile_not isOpen l
                    rw [hd] at this
                    simpa using this
                  simpa [isOpen] using this
                cases hsc : scan r 1 false [] [] with
                | none =>
                  have e : sArgs l = ([], [], false) := by unfold sArgs; rw [hd]; simp only; rw [hsc]
                  rw [e] at hok
                  cases hok
                | some x =>
                  obtain ⟨args, rest⟩ := x
                  have e : sArgs l = (l.takeWhile isOpen, args, rest.isEmpty) := by unfold sArgs; rw [hd]; simp only; rw [hsc]
                  rw [e] at hok hbn h2
                  obtain ⟨args', h3, h4, h5⟩ := scan_back _ _ _ _ _ _ _ hsc
                  have hr : rest = [] := by simpa using hok
                  rw [List.nil_append] at h3 h5
                  subst h3
                  rw [hr] at h5
                  cases ts with
                  | nil => exact absurd h2.symm h4
                  | cons a as' =>
                    refine ⟨.con (l.takeWhile isOpen) (a :: as'), .con _ _ hbn h1, ?_⟩
                    rw [Tm.text, argText, ← glue_text as' a, h2, ← h5, ← hc40, ← hd]
                    exact hsplit.symm
            · exact absurd rfl h
          · exact absurd rfl h

/-- The two kinds are one. -/
theorem sKind_eq (f : Nat) (l : List UInt8) (hf : l.length < f) : sKind f l = iKind l := by
  unfold iKind
  cases hr : rdAll l with
  | some t =>
    obtain ⟨h1, h2, h3⟩ := rdAll_sound hr
    subst h2
    exact sKind_text f t h1 h3 hf
  | none =>
    by_cases h : sKind f l = 0
    · exact h
    · have hl : l.length ≤ 200 := by
        cases f with
        | zero => omega
        | succ f =>
          rcases Nat.lt_or_ge 200 l.length with h' | h'
          · exact absurd (by rw [sKind, if_pos (.inr h')]) h
          · exact h'
      obtain ⟨t, h1, rfl⟩ := sKind_back f l h
      rw [rdAll_text h1 hl] at hr
      cases hr

end Go.Proofs.YtngnmfoephegmaaDoor
