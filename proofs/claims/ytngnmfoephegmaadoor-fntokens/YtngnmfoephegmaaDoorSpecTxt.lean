/-
  PLAIN MATHEMATICS: spec.l01Args and spec.TermKind as functions on lists; they take just the texts of terms.
-/
import Derived.Test.YtngnmfoephegmaaDoorTxt
namespace Go.Proofs.YtngnmfoephegmaaDoor
open Go

/-- l01Args behind the first bracket: d the depth, q within quotes, cur the argument so far. -/
def scan : List UInt8 → Nat → Bool → List UInt8 → List (List UInt8) → Option (List (List UInt8) × List UInt8)
  | [], _, _, _, _ => none
  | c :: r, d, q, cur, out =>
    if c = 34 then scan r d (!q) (cur ++ [c]) out
    else if q then scan r d q (cur ++ [c]) out
    else if c = 40 then scan r (d + 1) q (cur ++ [c]) out
    else if c = 41 then (if d = 1 then some (out ++ [cur], r) else scan r (d - 1) q (cur ++ [c]) out)
    else if c = 44 ∧ d = 1 then scan r d q [] (out ++ [cur])
    else scan r d q (cur ++ [c]) out

def isOpen (c : UInt8) : Bool := c != 40

/-- l01Args: the name, the arguments, whether it closes. -/
def sArgs (l : List UInt8) : List UInt8 × List (List UInt8) × Bool :=
  match l.dropWhile isOpen with
  | [] => (l, [], true)
  | _ :: r => match scan r 1 false [] [] with
    | none => ([], [], false)
    | some x => (l.takeWhile isOpen, x.1, x.2.isEmpty)

/-- A symbol, by its length, its last byte and the bytes between. -/
def symOk (l : List UInt8) : Bool := decide (2 ≤ l.length) && decide (l.length ≤ 22) && (l.getLast? == some 34) && (l.tail.dropLast.all isSyB)

/-- spec.TermKind. -/
def sKind : Nat → List UInt8 → Int
  | 0, _ => 0
  | f + 1, l =>
    if l = [] ∨ 200 < l.length then 0
    else if (numOf l).isSome then 1
    else if l.head? = some 34 then (if symOk l then 2 else 0)
    else if (sArgs l).2.2 && bigName (sArgs l).1 then (if (sArgs l).2.1.all (fun a => sKind f a != 0) then 3 else 0) else 0

/-- A byte that l01Args only goes along. -/
def isPlain (c : UInt8) : Bool := c != 34 && c != 40 && c != 41 && c != 44

theorem scan_plain : ∀ (l r : List UInt8) (d : Nat) (cur : List UInt8) (out : List (List UInt8)), (∀ c ∈ l, isPlain c = true) → scan (l ++ r) d false cur out = scan r d false (cur ++ l) out
  | [], r, d, cur, out, _ => by rw [List.nil_append, List.append_nil]
  | c :: l, r, d, cur, out, h => by
    have hc := h c (by simp)
    simp only [isPlain, Bool.and_eq_true, bne_iff_ne] at hc
    obtain ⟨⟨⟨h1, h2⟩, h3⟩, h4⟩ := hc
    rw [List.cons_append, scan, if_neg h1, if_neg (by simp), if_neg h2, if_neg h3, if_neg (fun h => h4 h.1), scan_plain l r d _ out (fun x hx => h x (by simp [hx]))]
    rw [List.append_assoc]; rfl
theorem scan_quoted : ∀ (l r : List UInt8) (d : Nat) (cur : List UInt8) (out : List (List UInt8)), (∀ c ∈ l, c ≠ 34) → scan (l ++ r) d true cur out = scan r d true (cur ++ l) out
  | [], r, d, cur, out, _ => by rw [List.nil_append, List.append_nil]
  | c :: l, r, d, cur, out, h => by
    rw [List.cons_append, scan, if_neg (h c (by simp)), if_pos rfl, scan_quoted l r d _ out (fun x hx => h x (by simp [hx]))]
    rw [List.append_assoc]; rfl

theorem plain_of_nam {c : UInt8} (h : isNam c = true) : isPlain c = true := by
  have hc := c.toNat_lt
  simp only [isPlain, Bool.and_eq_true, bne_iff_ne]
  refine ⟨⟨⟨?_, ?_⟩, ?_⟩, ?_⟩ <;> (rintro rfl; exact absurd h (by decide))
theorem plain_of_dig {c : UInt8} (h : isDig c = true) : isPlain c = true := plain_of_nam (by simp [isNam, h])

theorem scan_more : ∀ (as' : List Tm) (r : List UInt8) (d : Nat) (cur : List UInt8) (out : List (List UInt8)), 1 ≤ d →
    (∀ x ∈ as', ∀ (r : List UInt8) (d : Nat) (cur : List UInt8) (out : List (List UInt8)), 1 ≤ d → scan (x.text ++ r) d false cur out = scan r d false (cur ++ x.text) out) →
    scan (moreText as' ++ r) (d + 1) false cur out = scan r d false (cur ++ moreText as') out
  | [], r, d, cur, out, hd, _ => by
    rw [moreText, show ([41] : List UInt8) ++ r = 41 :: r from rfl, scan, if_neg (by decide), if_neg (by simp), if_neg (by decide), if_pos rfl, if_neg (by omega)]
    rfl
  | a :: as', r, d, cur, out, hd, h => by
    rw [moreText, List.cons_append, scan, if_neg (by decide), if_neg (by simp), if_neg (by decide), if_neg (by decide), if_neg (by omega), List.append_assoc, h a (by simp) _ _ _ _ (by omega),
      scan_more as' r d _ out hd (fun x hx => h x (by simp [hx]))]
    congr 1
    simp

theorem scan_text {t : Tm} (h : Wf t) : ∀ (r : List UInt8) (d : Nat) (cur : List UInt8) (out : List (List UInt8)), 1 ≤ d → scan (t.text ++ r) d false cur out = scan r d false (cur ++ t.text) out := by
  induction h with
  | num n h0 h1 =>
    intro r d cur out _
    rw [Tm.text]
    apply scan_plain
    obtain ⟨ds, _, _, a3, a4⟩ := itoa_shape h0 h1
    rcases a4 with ⟨_, b1, _⟩ | ⟨_, b1, _⟩
    · rw [b1]; exact fun c hc => plain_of_dig (a3 c hc)
    · rw [b1]
      intro c hc
      rcases List.mem_cons.1 hc with rfl | hc
      · rfl
      · exact plain_of_dig (a3 c hc)
  | sym b h hl =>
    intro r d cur out _
    have hb : ∀ c ∈ b, c ≠ 34 := fun c hc => by
      rintro rfl
      exact absurd (h 34 hc) (by decide)
    rw [Tm.text, List.cons_append, scan, if_pos rfl, Bool.not_false, List.append_assoc, scan_quoted b _ _ _ _ hb, show ([34] : List UInt8) ++ r = 34 :: r from rfl, scan, if_pos rfl, Bool.not_true]
    congr 1
    simp
  | con name args h ha ih =>
    intro r d cur out hd
    obtain ⟨_, _, _, _, _, hall⟩ := bigName_cons h
    rw [Tm.text, List.append_assoc, scan_plain name _ _ _ _ (fun c hc => plain_of_nam (hall c hc))]
    cases args with
    | nil => rw [argText, List.nil_append, List.append_nil]
    | cons a as' =>
      rw [argText, List.cons_append, scan, if_neg (by decide), if_neg (by simp), if_pos rfl, List.append_assoc, ih a (by simp) _ _ _ _ (by omega), scan_more as' r d _ out hd (fun x hx => ih x (by simp [hx]))]
      congr 1
      simp

theorem scan_args : ∀ (as' : List Tm) (a : Tm) (r : List UInt8) (out : List (List UInt8)), (∀ x ∈ a :: as', Wf x) → scan (a.text ++ (moreText as' ++ r)) 1 false [] out = some (out ++ (a :: as').map Tm.text, r)
  | [], a, r, out, h => by
    rw [scan_text (h a (by simp)) _ _ _ _ (by omega), List.nil_append, moreText, show ([41] : List UInt8) ++ r = 41 :: r from rfl, scan, if_neg (by decide), if_neg (by simp), if_neg (by decide), if_pos rfl, if_pos rfl]
    rfl
  | b :: bs, a, r, out, h => by
    rw [scan_text (h a (by simp)) _ _ _ _ (by omega), List.nil_append, moreText, List.cons_append, scan, if_neg (by decide), if_neg (by simp), if_neg (by decide), if_neg (by decide), if_pos ⟨rfl, rfl⟩, List.append_assoc,
      scan_args bs b r _ (fun x hx => h x (by simp [List.mem_cons.1 hx]))]
    simp

/-- What is cut is put together again. -/
def glue : List (List UInt8) → List UInt8
  | [] => []
  | [a] => a
  | a :: b :: r => a ++ 44 :: glue (b :: r)

theorem scan_back : ∀ (l : List UInt8) (d : Nat) (q : Bool) (cur : List UInt8) (out args : List (List UInt8)) (r : List UInt8), scan l d q cur out = some (args, r) →
    ∃ args', args = out ++ args' ∧ args' ≠ [] ∧ cur ++ l = glue args' ++ 41 :: r
  | [], _, _, _, _, _, _, h => by simp [scan] at h
  | c :: l, d, q, cur, out, args, r, h => by
    have go : ∀ d' q', scan l d' q' (cur ++ [c]) out = some (args, r) → ∃ args', args = out ++ args' ∧ args' ≠ [] ∧ cur ++ c :: l = glue args' ++ 41 :: r := fun d' q' h' => by
      obtain ⟨args', h1, h2, h3⟩ := scan_back l d' q' (cur ++ [c]) out args r h'
      exact ⟨args', h1, h2, by simpa using h3⟩
    rw [scan] at h
    split at h
    · exact go _ _ h
    · split at h
      · exact go _ _ h
      · split at h
        · exact go _ _ h
        · split at h
          · rename_i h41
            split at h
            · simp only [Option.some.injEq, Prod.mk.injEq] at h
              obtain ⟨rfl, rfl⟩ := h
              exact ⟨[cur], rfl, by simp, by rw [h41]; rfl⟩
            · exact go _ _ h
          · split at h
            · rename_i h44
              obtain ⟨args', h1, h2, h3⟩ := scan_back l _ _ [] (out ++ [cur]) args r h
              refine ⟨cur :: args', by rw [h1]; simp, by simp, ?_⟩
              cases args' with
              | nil => exact absurd rfl h2
              | cons b bs =>
                rw [h44.1]
                show cur ++ 44 :: l = (cur ++ 44 :: glue (b :: bs)) ++ 41 :: r
                rw [List.nil_append] at h3
                rw [h3]; simp
            · exact go _ _ h

end Go.Proofs.YtngnmfoephegmaaDoor
