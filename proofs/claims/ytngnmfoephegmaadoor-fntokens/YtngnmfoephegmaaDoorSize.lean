/-
  THE WALKS over argsOf, size, impl.TermSize.
-/
import Derived.Test.YtngnmfoephegmaaDoorSpecTK
namespace Go.Proofs.YtngnmfoephegmaaDoor
open Go Go.RowKit Go.Maps Go.WideMaps

mutual
def Tm.size : Tm → Nat
  | .num _ => 1
  | .sym _ => 1
  | .con _ args => 1 + sizes args
def sizes : List Tm → Nat
  | [] => 0
  | a :: r => a.size + sizes r
end
def Tm.kids : Tm → List Tm
  | .con _ args => args
  | _ => []
theorem size_kids (t : Tm) : t.size = 1 + sizes t.kids := by
  cases t with
  | num n =>
    rw [Tm.size]
    show 1 = 1 + sizes []
    rw [sizes]
  | sym b =>
    rw [Tm.size]
    show 1 = 1 + sizes []
    rw [sizes]
  | con name args => rw [Tm.size]; rfl
theorem sizes_append : ∀ (l r : List Tm), sizes (l ++ r) = sizes l + sizes r
  | [], r => by rw [List.nil_append, sizes]; omega
  | a :: l, r => by rw [List.cons_append, sizes, sizes, sizes_append l r]; omega
theorem sizes_take {l : List Tm} {k : Nat} (h : k < l.length) : sizes (l.take (k + 1)) = sizes (l.take k) + l[k].size := by
  rw [List.take_succ_eq_append_getElem h, sizes_append, sizes, sizes]; omega
theorem sizes_take_le (l : List Tm) (k : Nat) : sizes (l.take k) ≤ sizes l := by
  have := sizes_append (l.take k) (l.drop k)
  rw [List.take_append_drop] at this
  omega
theorem size_le {t : Tm} (h : Wf t) : t.size ≤ t.text.length := by
  induction h with
  | num n h0 h1 =>
    rw [Tm.size, Tm.text]
    have := itoa_ne_nil n
    cases hx : Lib.itoa n with
    | nil => exact absurd hx this
    | cons _ _ => simp
  | sym b h hl => rw [Tm.size, Tm.text]; simp
  | con name args h ha ih =>
    obtain ⟨c, r, rfl, _⟩ := bigName_cons h
    have key : ∀ (as' : List Tm), (∀ a ∈ as', a.size ≤ a.text.length) → sizes as' ≤ (moreText as').length := by
      intro as'
      induction as' with
      | nil => intro _; rw [sizes]; exact Nat.zero_le _
      | cons b bs ihb =>
        intro hx
        have h1 := hx b (by simp)
        have h2 := ihb (fun a ha => hx a (by simp [ha]))
        rw [sizes, moreText, List.length_cons, List.length_append]
        omega
    rw [Tm.size, Tm.text, List.length_append, List.length_cons]
    cases args with
    | nil => rw [sizes]; omega
    | cons a as' =>
      have h1 := ih a (by simp)
      have h2 := key as' (fun x hx => ih x (by simp [hx]))
      rw [sizes, argText, List.length_cons, List.length_append]
      omega
theorem kids_wf {t : Tm} (h : Wf t) : ∀ a ∈ t.kids, Wf a := by
  cases h with
  | num n h0 h1 => intro a ha; cases ha
  | sym b h hl => intro a ha; cases ha
  | con name args h ha => exact ha
theorem kids_len {t a : Tm} (h : a ∈ t.kids) : a.text.length < t.text.length := by
  cases t with
  | num n => cases h
  | sym b => cases h
  | con name args => exact sub_len h
theorem kids_count {t : Tm} (h : Wf t) : t.kids.length ≤ t.text.length := by
  have h1 := size_le h
  rw [size_kids] at h1
  have : ∀ l : List Tm, l.length ≤ sizes l := fun l => by
    induction l with
    | nil => exact Nat.zero_le _
    | cons a r ih => rw [sizes, size_kids, List.length_cons]; omega
  have := this t.kids
  omega

theorem At.kids {ns : List Nd} {cs : List Cl} {i : Nat} {t : Tm} (h : At ns cs i t) : ∃ (n : Nd) (is : List Nat), ns[i]? = some n ∧ ListAt cs n.args is ∧ Ats ns cs is t.kids := by
  cases h with
  | num i n h => exact ⟨_, [], h, rfl, Ats.nil⟩
  | sym i y h => exact ⟨_, [], h, rfl, Ats.nil⟩
  | con i name args l is h hl hlen ha => exact ⟨_, is, h, hl, hlen, ha⟩

/-- What the loop over the arguments holds. -/
def SizeRel (base b : Nat) (ns : List Nd) (cs : List Cl) (w : World) (is : List Nat) (ts : List Tm) (rb : Nat) (vs : Value) (v5 v12 : Value) (wr : World) : Prop :=
  ∃ k : Nat, v12 = .int .i64 (k : Int) ∧ k ≤ is.length ∧ v5 = .int .i64 (1 + (sizes (ts.take k) : Int)) ∧ wr.ownsRow rb 3 1 vs is.length (intCells is) ∧ StoreAt wr base b ns cs ∧ Below w.heap.size w wr

/-- TermSize. -/
def sz (l : List UInt8) : Nat := match rdAll l with | none => 0 | some t => t.size
theorem sz_none {l : List UInt8} (h : rdAll l = none) : sz l = 0 := by unfold sz; rw [h]
theorem sz_some {l : List UInt8} {t : Tm} (h : rdAll l = some t) : sz l = t.size := by unfold sz; rw [h]

/-- TermParts. -/
def partsOf (l : List UInt8) : List UInt8 × List (List UInt8) := match rdAll l with
  | none => ([], [])
  | some (.con n args) => (n, args.map Tm.text)
  | some _ => (l, [])

def PartsAns (s : ByteArray) (w : World) (e : Ending) (w' : World) : Prop :=
  ∃ (nm : ByteArray) (xs : List ByteArray) (v : Value), e = .returned (.tuple #[.string nm, v]) ∧ partsOf (lst s) = (lst nm, xs.map lst) ∧ w'.ownsRow w.heap.size 9 1 v xs.length (strCells xs) ∧ Below w.heap.size w w'

end Go.Proofs.YtngnmfoephegmaaDoor
