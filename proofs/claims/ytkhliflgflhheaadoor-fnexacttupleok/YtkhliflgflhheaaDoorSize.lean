/-
  THE WALKS over argsOf, size, impl.TermSize.
-/
import Derived.Test.YtkhliflgflhheaaDoorSpecTK
namespace Go.Proofs.YtkhliflgflhheaaDoor
open Go Go.RowKit Go.Maps Go.WideMaps

mutual
def Tm.size : Tm → Nat
  | .num _ => 1
  | .sym _ => 1
  | .con _ args => 1 + sizes args
def sizes : List Tm → Nat
  | [] => 0
  | a :: r => a.size + sizes r
end
def Tm.kids : Tm → List Tm
  | .con _ args => args
  | _ => []
theorem size_kids (t : Tm) : t.size = 1 + sizes t.kids := by
  cases t with
  | num n =>
    rw [Tm.size]
    show 1 = 1 + sizes []
    rw [sizes]
  | sym b =>
    rw [Tm.size]
    show 1 = 1 + sizes []
    rw [sizes]
  | con name args => rw [Tm.size]; rfl
theorem sizes_append : ∀ (l r : List Tm), sizes (l ++ r) = sizes l + sizes r
  | [], r => by rw [List.nil_append, sizes]; omega
  | a :: l, r => by rw [List.cons_append, sizes, sizes, sizes_append l r]; omega
theorem sizes_take {l : List Tm} {k : Nat} (h : k < l.length) : sizes (l.take (k + 1)) = sizes (l.take k) + l[k].size := by
  rw [List.take_succ_eq_append_getElem h, sizes_append, sizes, sizes]; omega
theorem sizes_take_le (l : List Tm) (k : Nat) : sizes (l.take k) ≤ sizes l := by
  have := sizes_append (l.take k) (l.drop k)
  rw [List.take_append_drop] at this
  omega
theorem size_le {t : Tm} (h : Wf t) : t.size ≤ t.text.length := by
  induction h with
  | num n h0 h1 =>
    rw [Tm.size, Tm.text]
    have := itoa_ne_nil n
    cases hx : Lib.itoa n with
    | nil => exact absurd hx this
    | cons _ _ => simp
  | sym b h hl => rw [Tm.size, Tm.text]; simp
  | con name args h ha ih =>
    obtain ⟨c, r, rfl, _⟩ := bigName_cons h
    have key : ∀ (as' : List Tm), (∀ a ∈ as', a.size ≤ a.text.length) → sizes as' ≤ (moreText as').length := by
      intro as'
      induction as' with
      | nil => intro _; rw [sizes]; exact Nat.zero_le _
      | cons b bs ihb =>
        intro hx
        have h1 := hx b (by simp)
        have h2 := ihb (fun a ha => hx a (by simp [ha]))
        rw [sizes, moreText, List.length_cons, List.length_append]
        omega
    rw [Tm.size, Tm.text, List.length_append, List.length_cons]
    cases args with
    | nil => rw [sizes]; omega
    | cons a as' =>
      have h1 := ih a (by simp)
      have h2 := key as' (fun x hx => ih x (by simp [hx]))
      rw [sizes, argText, List.length_cons, List.length_append]
      omega
theorem kids_wf {t : Tm} (h : Wf t) : ∀ a ∈ t.kids, Wf a := by
  cases h with
  | num n h0 h1 => intro a ha; cases ha
  | sym b h hl => intro a ha; cases ha
  | con name args h ha => exact ha
theorem kids_len {t a : Tm} (h : a ∈ t.kids) : a.text.length < t.text.length := by
  cases t with
  | num n => cases h
  | sym b => cases h
  | con name args => exact sub_len h
theorem kids_count {t : Tm} (h : Wf t) : t.kids.length ≤ t.text.length := by
  have h1 := size_le h
  rw [size_kids] at h1
  have : ∀ l : List Tm, l.length ≤ sizes l := fun l => by
    induction l with
    | nil => exact Nat.zero_le _
    | cons a r ih => rw [sizes, size_kids, List.length_cons]; omega
  have := this t.kids
  omega

theorem At.kids {ns : List Nd} {cs : List Cl} {i : Nat} {t : Tm} (h : At ns cs i t) : ∃ (n : Nd) (is : List Nat), ns[i]? = some n ∧ ListAt cs n.args is ∧ Ats ns cs is t.kids := by
  cases h with
  | num i n h => exact ⟨_, [], h, rfl, Ats.nil⟩
  | sym i y h => exact ⟨_, [], h, rfl, Ats.nil⟩
  | con i name args l is h hl hlen ha => exact ⟨_, is, h, hl, hlen, ha⟩

set_option maxRecDepth 100000 in
set_option maxHeartbeats 1000000 in
theorem argsOf_any {base b : Nat} {ns : List Nd} {cs : List Cl} {i : Nat} {t : Tm} (w : World) (hS : StoreAt w base b ns cs) (hat : At ns cs i t) (ht : Wf t) (hl : t.text.length ≤ 200) (hn : ns.length ≤ 900000) (hc : cs.length ≤ 900000) :
    Calls Tryd.prog 59 #[.pointer (some ⟨b, 0, none⟩), .int .i64 (i : Int)] w fun e w' => ∃ (v : Value) (is : List Nat), e = .returned v ∧ Ats ns cs is t.kids ∧ w'.ownsRow w.heap.size 3 1 v is.length (intCells is) ∧ Below w.heap.size w w' := by
  obtain ⟨n, is, hi, hL, hats⟩ := hat.kids
  obtain ⟨gn, capn, hN⟩ := hS.node hi
  have hlt := hat.lt
  have hil : is.length ≤ 900000 := by
    have := kids_count ht
    rw [hats.1]; omega
  have x0 := hN.st
  have x1 := hN.args
  have x2 : i * 4 < 10000000 := by omega
  have HLI := Lib.hid (listItems_any n.args is w hS hL (by omega) hil)
  have HAT := Lib.hid hats
  clear hN hi hL hats hat hS
  go_enter Tryd.func59, Tryd.ntmps59
  go_wp2_with fail
  refine HLI.out.mono ?_
  rintro e w1 ⟨v, rfl, ho, hb⟩
  clear HLI
  go_wp2
  go_ret
  exact ⟨v, is, rfl, HAT.out, ho, hb⟩

/-- What the loop over the arguments holds. -/
def SizeRel (base b : Nat) (ns : List Nd) (cs : List Cl) (w : World) (is : List Nat) (ts : List Tm) (rb : Nat) (vs : Value) (v5 v12 : Value) (wr : World) : Prop :=
  ∃ k : Nat, v12 = .int .i64 (k : Int) ∧ k ≤ is.length ∧ v5 = .int .i64 (1 + (sizes (ts.take k) : Int)) ∧ wr.ownsRow rb 3 1 vs is.length (intCells is) ∧ StoreAt wr base b ns cs ∧ Below w.heap.size w wr

set_option maxRecDepth 100000 in
set_option maxHeartbeats 2000000 in
theorem size_any {base b : Nat} {ns : List Nd} {cs : List Cl} (hn : ns.length ≤ 900000) (hc : cs.length ≤ 900000) {i : Nat} {t : Tm} (hat : At ns cs i t) : ∀ (w : World), StoreAt w base b ns cs → Wf t → t.text.length ≤ 200 →
    Calls Tryd.prog 39 #[.pointer (some ⟨b, 0, none⟩), .int .i64 (i : Int)] w fun e w' => e = .returned (.int .i64 (t.size : Int)) ∧ Below w.heap.size w w' := by
  have main : ∀ (N : Nat) (i : Nat) (t : Tm), t.text.length < N → At ns cs i t → ∀ (w : World), StoreAt w base b ns cs → Wf t → t.text.length ≤ 200 →
      Calls Tryd.prog 39 #[.pointer (some ⟨b, 0, none⟩), .int .i64 (i : Int)] w fun e w' => e = .returned (.int .i64 (t.size : Int)) ∧ Below w.heap.size w w' := by
    intro N
    induction N with
    | zero => intro i t h; omega
    | succ N ih =>
      intro i t hN hat w hS ht hl
      have IH := Lib.hid ih
      have hsz := size_le ht
      have hsk := size_kids t
      have HAO := Lib.hid (argsOf_any w hS hat ht hl hn hc)
      have HSK := Lib.hid hsk
      clear ih hsk
      go_enter Tryd.func39, Tryd.ntmps39
      go_wp2_with fail
      refine HAO.out.mono ?_
      rintro e w1 ⟨v, is, rfl, hats, hown, hb1⟩
      have hS1 := hS.kept hb1
      obtain ⟨av, cv, rfl⟩ := owns_shape hown
      have hkc := kids_count ht
      have hlen := hats.1
      have HATS := Lib.hid hats
      have HLEN := Lib.hid hlen
      have hisl : is.length ≤ 200 := by omega
      clear HAO hats hlen
      go_wp2
      go_loopw [5, 12] (fun v5 v12 wr => SizeRel base b ns cs w is t.kids w.heap.size (.slice av is.length cv) v5 v12 wr) (fun _ v12 _ => (is.length - (intOf v12).toNat))
      case atStart => exact ⟨0, rfl, Nat.zero_le _, by rw [List.take_zero, sizes]; rfl, hown, hS1, hb1⟩
      case round =>
        obtain ⟨k, rfl, hk, rfl, hownr, hSr, hbr⟩ := hrel
        have hst := sizes_take_le t.kids k
        have hsb : 1 + sizes t.kids ≤ 200 := by have := HSK.out; omega
        by_cases hlt : k < is.length
        · have hltk : k < t.kids.length := by have := HLEN.out; omega
          obtain ⟨g, cap, hgv, _, _⟩ := hownr.form (by omega)
          simp only [Value.slice.injEq, true_and] at hgv
          obtain ⟨rfl, rfl⟩ := hgv
          have hx : wr.cell? ⟨g, k, none⟩ = some (.int .i64 (is[k] : Int)) := by
            rw [hownr.cellAt k (by omega)]
            simp [intCells, hlt]
          have hmem : t.kids[k] ∈ t.kids := List.getElem_mem _
          have hkl := kids_len hmem
          have hatk := HATS.out.2 k is[k] t.kids[k] (List.getElem?_eq_getElem hlt) (List.getElem?_eq_getElem hltk)
          have HC := Lib.hid (IH.out is[k] t.kids[k] (by omega) hatk wr hSr (kids_wf ht _ hmem) (by omega))
          have hstk := sizes_take hltk
          have hle2 := sizes_take_le t.kids (k + 1)
          have Z : ∀ w3, Below wr.heap.size wr w3 → SizeRel base b ns cs w is t.kids w.heap.size (.slice (some ⟨g, 0, none⟩) is.length cv) (.int .i64 (1 + (sizes (t.kids.take k) : Int) + (t.kids[k].size : Int))) (.int .i64 ((k : Int) + 1)) w3 := fun w3 hb3 =>
            ⟨k + 1, by go_num, by omega, by
              rw [hstk]
              congr 1
              omega, by
              have hg3 : wr.grownBy w3 none := ⟨hb3.os, hb3.tape, hb3.output, hb3.size, fun k hk _ => hb3.block k hk⟩
              exact hownr.kept hg3 (.inr (by simp [Value.ownBlock])), hSr.kept hb3, hbr.trans (hb3.mono hbr.size)⟩
          have HZ := Lib.hid Z
          have hsk2 : sizes (t.kids.take k) + t.kids[k].size ≤ 200 := by omega
          clear Z hstk hle2 hatk hmem hSr hbr hownr hkl
          generalize is[k] = j at *
          generalize t.kids[k].size = z at *
          generalize sizes (t.kids.take k) = y at *
          go_wp2_with fail
          refine HC.out.mono ?_
          rintro e w3 ⟨rfl, hb3⟩
          have HR := Lib.hid (HZ.out w3 hb3)
          clear hb3 HC HZ
          go_wp2
          go_roundw
          case rel => exact HR.out
          case measure => simp [intOf]; omega
        · have hlt2 : decide ((k : Int) < (is.length : Int)) = false := decide_eq_false (by omega)
          have htk : t.kids.take k = t.kids := List.take_of_length_le (by have := HLEN.out; omega)
          rw [htk]
          have e : (1 + (sizes t.kids : Int)) = (t.size : Int) := by have := HSK.out; omega
          have HEE := Lib.hid e
          clear htk e hownr hSr
          go_wp2
          go_ret
          exact ⟨congrArg (fun z : Int => Ending.returned (.int .i64 z)) HEE.out, hbr⟩
  exact main (t.text.length + 1) i t (by omega) hat

/-- TermSize. -/
def sz (l : List UInt8) : Nat := match rdAll l with | none => 0 | some t => t.size
theorem sz_none {l : List UInt8} (h : rdAll l = none) : sz l = 0 := by unfold sz; rw [h]
theorem sz_some {l : List UInt8} {t : Tm} (h : rdAll l = some t) : sz l = t.size := by unfold sz; rw [h]

set_option maxRecDepth 100000 in
set_option maxHeartbeats 1000000 in
theorem implTermSize (s : ByteArray) (hlim : s.size ≤ 140737488351232) (w : World) (hE : Env w.heap.size w) :
    Calls Tryd.prog 13 #[.string s] w fun e w' => e = .returned (.int .i64 (sz (lst s) : Int)) ∧ Below w.heap.size w w' := by
  go_enter Tryd.func13, Tryd.ntmps13
  go_wp2_with fail
  refine (newTermStore_any _).mono ?_
  rintro e w1 ⟨b, rfl, hS1, hb1⟩
  have hE1 := hE.stays hb1
  go_wp2_with fail
  refine (read_any w.heap.size b [] [] s hlim 200 w1 hS1 hE1 (by simp) (by simp) (by omega) (by omega)).mono ?_
  rintro e w2 ⟨ns, cs, h1, h2, h3, h4, h5, h6, (⟨hr, rfl⟩ | ⟨t, i, hr, hat, rfl⟩)⟩
  · have HZ := Lib.hid (sz_none hr)
    have hb := hb1.trans h6.below
    clear hr h1 h2 h3 h4 h5 h6 hb1 hS1 hE1
    go_wp2
    go_ret
    rw [HZ.out]
    exact ⟨rfl, hb⟩
  · have HZ := Lib.hid (sz_some hr)
    have hb := hb1.trans h6.below
    have hsz : w.heap.size ≤ w2.heap.size := hb.size
    obtain ⟨hw, hx, hl⟩ := rdAll_sound hr
    have HC := Lib.hid (size_any (base := w.heap.size) (b := b) (by omega) (by omega) hat w2 h5 hw (by rw [hx]; exact hl))
    clear hr h1 h2 h3 h4 h5 h6 hb1 hS1 hE1 hat hw hx hl
    go_wp2_with fail
    refine HC.out.mono ?_
    rintro e w3 ⟨rfl, hb3⟩
    have hbb := hb.trans (hb3.mono hsz)
    clear HC hb3 hb
    go_wp2
    go_ret
    rw [HZ.out]
    exact ⟨rfl, hbb⟩

/-- TermParts. -/
def partsOf (l : List UInt8) : List UInt8 × List (List UInt8) := match rdAll l with
  | none => ([], [])
  | some (.con n args) => (n, args.map Tm.text)
  | some _ => (l, [])

def PartsAns (s : ByteArray) (w : World) (e : Ending) (w' : World) : Prop :=
  ∃ (nm : ByteArray) (xs : List ByteArray) (v : Value), e = .returned (.tuple #[.string nm, v]) ∧ partsOf (lst s) = (lst nm, xs.map lst) ∧ w'.ownsRow w.heap.size 9 1 v xs.length (strCells xs) ∧ Below w.heap.size w w'

set_option maxRecDepth 100000 in
set_option maxHeartbeats 1000000 in
theorem specTermParts (s : ByteArray) (hlim : s.size ≤ 140737488351232) (w : World) : Calls Tryd.prog 87 #[.string s] w (PartsAns s w) := by
  cases hr : rdAll (lst s) with
  | none =>
    have hk : iKind (lst s) = 0 := by unfold iKind; rw [hr]
    have hpn : partsOf (lst s) = ([], []) := by unfold partsOf; rw [hr]
    have HPN := Lib.hid hpn
    have HK := Lib.hid hk
    clear hr hk hpn
    go_enter Tryd.func87, Tryd.ntmps87
    go_wp2_with fail
    refine (specTermKind s hlim _).mono ?_
    rintro e w1 ⟨rfl, hb1⟩
    rw [HK.out]
    have P : PartsAns s w (.returned (.tuple #[.string ⟨#[]⟩, .slice (some ⟨w1.heap.size, 0, none⟩) 0 0])) (w1.alloc (.cells #[] 9)) :=
      ⟨⟨#[]⟩, [], _, rfl, HPN.out, owns_empty9 w1 _ hb1.size, hb1.alloc hb1.size _⟩
    have HP := Lib.hid P
    clear P hb1
    go_wp2
    go_ret2
    exact HP.out
  | some t =>
    obtain ⟨hw, hx, hl⟩ := rdAll_sound hr
    have hls := lst_len s
    have hk : iKind (lst s) = t.kind := by unfold iKind; rw [hr]
    have HK := Lib.hid hk
    by_cases h3 : t.kind = 3
    · obtain ⟨name, args, rfl⟩ : ∃ name args, t = .con name args := by
        cases t with
        | num n => cases h3
        | sym b => cases h3
        | con name args => exact ⟨_, _, rfl⟩
      have hpn : partsOf (lst s) = (name, args.map Tm.text) := by unfold partsOf; rw [hr]
      have hsa : sArgs (lst s) = (name, args.map Tm.text, true) := by
        rw [← hx]
        cases hw with
        | con _ _ h ha => exact sArgs_con h ha
      have HPN := Lib.hid hpn
      have HSA := Lib.hid hsa
      clear hr hk hpn hsa hw hx
      go_enter Tryd.func87, Tryd.ntmps87
      go_wp2_with fail
      refine (specTermKind s hlim _).mono ?_
      rintro e w1 ⟨rfl, hb1⟩
      rw [HK.out, h3]
      go_wp2_with fail
      refine (l01Args_any s (by omega) _).mono ?_
      rintro e w2 ⟨nm, xs, v, ok, rfl, hsa, hnm, hown, hb2⟩
      obtain ⟨av, cv, rfl⟩ := owns_shape hown
      have P : PartsAns s w (.returned (.tuple #[.string nm, .slice av xs.length cv])) w2 := by
        rw [HSA.out] at hsa
        simp only [Prod.mk.injEq] at hsa
        refine ⟨nm, xs, _, rfl, by rw [HPN.out, hsa.1, hsa.2.1], ?_, hb1.trans (hb2.mono hb1.size)⟩
        refine ⟨hown.1, ?_⟩
        rcases hown.2 with h' | ⟨g, cap, cur, hv, hg, r⟩
        · exact .inl h'
        · exact .inr ⟨g, cap, cur, hv, Nat.le_trans hb1.size hg, r⟩
      have HP := Lib.hid P
      clear P hsa hown hb1 hb2
      go_wp2
      go_ret2
      exact HP.out
    · have hk0 := kind_pos t
      have hpn : partsOf (lst s) = (lst s, []) := by
        unfold partsOf
        rw [hr]
        cases t with
        | num n => rfl
        | sym b => rfl
        | con name args => exact absurd rfl h3
      have HPN := Lib.hid hpn
      have hb0 : (t.kind == 0) = false := beq_eq_false_iff_ne.2 hk0
      have hb3 : (t.kind == 3) = false := beq_eq_false_iff_ne.2 h3
      clear hr hk hpn hw hx h3 hk0
      go_enter Tryd.func87, Tryd.ntmps87
      go_wp2_with fail
      refine (specTermKind s hlim _).mono ?_
      rintro e w1 ⟨rfl, hb1⟩
      rw [HK.out]
      generalize t.kind = y at *
      have P : PartsAns s w (.returned (.tuple #[.string s, .slice (some ⟨w1.heap.size, 0, none⟩) 0 0])) (w1.alloc (.cells #[] 9)) :=
        ⟨s, [], _, rfl, HPN.out, owns_empty9 w1 _ hb1.size, hb1.alloc hb1.size _⟩
      have HP := Lib.hid P
      clear P hb1
      go_wp2
      go_ret2
      exact HP.out

end Go.Proofs.YtkhliflgflhheaaDoor
