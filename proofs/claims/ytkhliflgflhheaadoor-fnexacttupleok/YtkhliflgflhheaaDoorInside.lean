/-
  THE WALKS over inside, impl.Inside, spec.Inside; laws.FnExactInside answers true.
-/
import Derived.Test.YtkhliflgflhheaaDoorSpecSize
namespace Go.Proofs.YtkhliflgflhheaaDoor
open Go Go.RowKit Go.Maps Go.WideMaps

/-- a lies inside t: it is an argument of t, or lies inside one. -/
inductive Has (a : Tm) : Tm → Prop
  | here (t : Tm) (h : a ∈ t.kids) : Has a t
  | deep (t x : Tm) (h : x ∈ t.kids) (hx : Has a x) : Has a t

theorem has_iff (a t : Tm) : Has a t ↔ ∃ x ∈ t.kids, x = a ∨ Has a x := by
  constructor
  · intro h
    cases h with
    | here _ h => exact ⟨a, h, .inl rfl⟩
    | deep _ x h hx => exact ⟨x, h, .inr hx⟩
  · rintro ⟨x, h, rfl | hx⟩
    · exact .here _ h
    · exact .deep _ x h hx
theorem has_len {a t : Tm} (h : Has a t) : a.text.length < t.text.length := by
  induction h with
  | here t h => exact kids_len h
  | deep t x h _ ih => have := kids_len h; omega

theorem ListAt.fun {cs : List Cl} : ∀ {xs ys : List Nat} {l : Nat}, ListAt cs l xs → ListAt cs l ys → xs = ys
  | [], [], _, _, _ => rfl
  | [], y :: ys, l, h, k => by
    have h0 : l = 0 := h
    obtain ⟨i, l', e, _⟩ := k
    omega
  | x :: xs, [], l, h, k => by
    have h0 : l = 0 := k
    obtain ⟨i, l', e, _⟩ := h
    omega
  | x :: xs, y :: ys, l, h, k => by
    obtain ⟨i, l1, e1, c1, t1⟩ := h
    obtain ⟨j, l2, e2, c2, t2⟩ := k
    obtain rfl : i = j := by omega
    rw [c1] at c2
    have := Option.some.inj c2
    simp only [Cl.mk.injEq] at this
    obtain ⟨e3, rfl⟩ := this
    rw [ListAt.fun t1 t2]
    congr 1
theorem ListAt.inj {cs : List Cl} (hc : ∀ (i j : Nat) (c : Cl), cs[i]? = some c → cs[j]? = some c → i = j) : ∀ {xs : List Nat} {l l' : Nat}, ListAt cs l xs → ListAt cs l' xs → l = l'
  | [], l, l', h, k => by
    have h0 : l = 0 := h
    have k0 : l' = 0 := k
    omega
  | x :: xs, l, l', h, k => by
    obtain ⟨i, l1, e1, c1, t1⟩ := h
    obtain ⟨j, l2, e2, c2, t2⟩ := k
    obtain rfl := ListAt.inj hc t1 t2
    have := hc i j _ c1 c2
    omega

theorem At.fun {ns : List Nd} {cs : List Cl} {i : Nat} {t : Tm} (h : At ns cs i t) : ∀ {u : Tm}, At ns cs i u → t = u := by
  induction h with
  | num i n h =>
    intro u hu
    cases hu with
    | num _ n' h' => rw [h] at h'; simp only [Option.some.injEq, Nd.mk.injEq, true_and, and_true] at h'; rw [h']
    | sym _ y h' => rw [h] at h'; simp at h'
    | con _ name args l is h' _ _ _ => rw [h] at h'; simp at h'
  | sym i y h =>
    intro u hu
    cases hu with
    | num _ n' h' => rw [h] at h'; simp at h'
    | sym _ y' h' =>
      rw [h] at h'
      simp only [Option.some.injEq, Nd.mk.injEq, true_and, and_true, ByteArray.mk.injEq, Array.mk.injEq, List.cons_append, List.cons.injEq] at h'
      rw [List.append_cancel_right h']
    | con _ name args l is h' _ _ _ => rw [h] at h'; simp at h'
  | con i name args l is h hl hlen ha ih =>
    intro u hu
    cases hu with
    | num _ n' h' => rw [h] at h'; simp at h'
    | sym _ y' h' => rw [h] at h'; simp at h'
    | con _ name' args' l' is' h' hl' hlen' ha' =>
      rw [h] at h'
      simp only [Option.some.injEq, Nd.mk.injEq, true_and] at h'
      obtain ⟨rfl, hll⟩ := h'
      obtain rfl : l = l' := by omega
      obtain rfl := hl.fun hl'
      congr 1
      apply List.ext_getElem (by omega)
      intro k hk hk'
      have hki : k < is.length := by omega
      exact ih k is[k] args[k] (List.getElem?_eq_getElem hki) (List.getElem?_eq_getElem hk) (ha' k is[k] args'[k] (List.getElem?_eq_getElem hki) (List.getElem?_eq_getElem hk'))

theorem At.inj {ns : List Nd} {cs : List Cl} (hn : ∀ (i j : Nat) (c : Nd), ns[i]? = some c → ns[j]? = some c → i = j) (hc : ∀ (i j : Nat) (c : Cl), cs[i]? = some c → cs[j]? = some c → i = j)
    {i : Nat} {t : Tm} (h : At ns cs i t) : ∀ {j : Nat}, At ns cs j t → i = j := by
  induction h with
  | num i n h =>
    intro j hu
    cases hu with
    | num _ n' h' => exact hn i j _ h h'
  | sym i y h =>
    intro j hu
    cases hu with
    | sym _ y' h' => exact hn i j _ h h'
  | con i name args l is h hl hlen ha ih =>
    intro j hu
    generalize hz : Tm.con (lst name) args = z at hu
    cases hu with
    | num _ n' h' => cases hz
    | sym _ y' h' => cases hz
    | con _ name' args' l' is' h' hl' hlen' ha' =>
      simp only [Tm.con.injEq] at hz
      obtain ⟨hnm, rfl⟩ := hz
      obtain rfl := lst_inj hnm
      have e : is = is' := by
        apply List.ext_getElem (by omega)
        intro k hk hk'
        have hka : k < args.length := by omega
        exact ih k is[k] args[k] (List.getElem?_eq_getElem hk) (List.getElem?_eq_getElem hka) (ha' k is'[k] args[k] (List.getElem?_eq_getElem hk') (List.getElem?_eq_getElem hka))
      subst e
      obtain rfl := ListAt.inj hc hl hl'
      exact hn i j _ h h'

theorem StoreAt.inj {w : World} {base b : Nat} {ns : List Nd} {cs : List Cl} (h : StoreAt w base b ns cs) {i j : Nat} {t : Tm} (hi : At ns cs i t) (hj : At ns cs j t) : i = j := by
  obtain ⟨vn, vc, mn, mc, Dn, Dc, a1, a2, a3, a4, a5, a6, a7, a8, a9, a10, a11⟩ := h.lies
  refine hi.inj (fun i j c hi hj => a9.inj (v := c.val) ?_ ?_) (fun i j c hi hj => a11.inj (v := c.val) ?_ ?_) hj
  · rw [List.getElem?_map, hi]; rfl
  · rw [List.getElem?_map, hj]; rfl
  · rw [List.getElem?_map, hi]; rfl
  · rw [List.getElem?_map, hj]; rfl

/-- The arguments gone by are not a, and a lies in none. -/
def GoneBy (a : Tm) (ts : List Tm) (k : Nat) : Prop := ∀ (j : Nat) (h : j < ts.length), j < k → ts[j] ≠ a ∧ ¬ Has a ts[j]
theorem gone_not {a t : Tm} {k : Nat} (h : GoneBy a t.kids k) (hk : t.kids.length ≤ k) : ¬ Has a t := by
  rw [has_iff]
  rintro ⟨x, hx, h1⟩
  obtain ⟨j, hj, rfl⟩ := List.getElem_of_mem hx
  have := h j hj (by omega)
  exact h1.elim this.1 this.2
theorem gone_more {a : Tm} {ts : List Tm} {k : Nat} (h : GoneBy a ts k) (hk : k < ts.length) (h1 : ts[k] ≠ a) (h2 : ¬ Has a ts[k]) : GoneBy a ts (k + 1) := by
  intro j hj hjk
  by_cases e : j < k
  · exact h j hj e
  · obtain rfl : j = k := by omega
    exact ⟨h1, h2⟩

def InRel (base b : Nat) (ns : List Nd) (cs : List Cl) (w : World) (a : Tm) (is : List Nat) (ts : List Tm) (rb : Nat) (vs : Value) (v12 : Value) (wr : World) : Prop :=
  ∃ k : Nat, v12 = .int .i64 (k : Int) ∧ k ≤ is.length ∧ GoneBy a ts k ∧ wr.ownsRow rb 3 1 vs is.length (intCells is) ∧ StoreAt wr base b ns cs ∧ Below w.heap.size w wr

set_option maxRecDepth 100000 in
set_option maxHeartbeats 2000000 in
theorem inside_any {base b : Nat} {ns : List Nd} {cs : List Cl} (hn : ns.length ≤ 900000) (hc : cs.length ≤ 900000) {ia : Nat} {a : Tm} (hata : At ns cs ia a) {i : Nat} {t : Tm} (hat : At ns cs i t) : ∀ (w : World), StoreAt w base b ns cs → Wf t → t.text.length ≤ 200 →
    Calls Tryd.prog 42 #[.pointer (some ⟨b, 0, none⟩), .int .i64 (ia : Int), .int .i64 (i : Int)] w fun e w' => ∃ v : Bool, e = .returned (.bool v) ∧ (v = true ↔ Has a t) ∧ Below w.heap.size w w' := by
  have main : ∀ (N : Nat) (i : Nat) (t : Tm), t.text.length < N → At ns cs i t → ∀ (w : World), StoreAt w base b ns cs → Wf t → t.text.length ≤ 200 →
      Calls Tryd.prog 42 #[.pointer (some ⟨b, 0, none⟩), .int .i64 (ia : Int), .int .i64 (i : Int)] w fun e w' => ∃ v : Bool, e = .returned (.bool v) ∧ (v = true ↔ Has a t) ∧ Below w.heap.size w w' := by
    intro N
    induction N with
    | zero => intro i t h; omega
    | succ N ih =>
      intro i t hN hat w hS ht hl
      have IH := Lib.hid ih
      have HATA := Lib.hid hata
      have hial := hata.lt
      have HAO := Lib.hid (argsOf_any w hS hat ht hl hn hc)
      clear ih
      go_enter Tryd.func42, Tryd.ntmps42
      go_wp2_with fail
      refine HAO.out.mono ?_
      rintro e w1 ⟨v, is, rfl, hats, hown, hb1⟩
      have hS1 := hS.kept hb1
      obtain ⟨av, cv, rfl⟩ := owns_shape hown
      have hkc := kids_count ht
      have hlen := hats.1
      have HATS := Lib.hid hats
      have HLEN := Lib.hid hlen
      have hisl : is.length ≤ 200 := by omega
      clear HAO hats hlen
      go_wp2
      go_loopw [13] (fun v13 wr => InRel base b ns cs w a is t.kids w.heap.size (.slice av is.length cv) v13 wr) (fun v13 _ => (is.length - (intOf v13).toNat))
      case atStart => exact ⟨0, rfl, Nat.zero_le _, fun j h a => by omega, hown, hS1, hb1⟩
      case round =>
        obtain ⟨k, rfl, hk, hgone, hownr, hSr, hbr⟩ := hrel
        have HG := Lib.hid hgone
        clear hgone
        by_cases hlt : k < is.length
        · have hltk : k < t.kids.length := by have := HLEN.out; omega
          obtain ⟨g, cap, hgv, _, _⟩ := hownr.form (by omega)
          simp only [Value.slice.injEq, true_and] at hgv
          obtain ⟨rfl, rfl⟩ := hgv
          have hx : wr.cell? ⟨g, k, none⟩ = some (.int .i64 (is[k] : Int)) := by
            rw [hownr.cellAt k (by omega)]
            simp [intCells, hlt]
          have hmem : t.kids[k] ∈ t.kids := List.getElem_mem _
          have hkl := kids_len hmem
          have hatk := HATS.out.2 k is[k] t.kids[k] (List.getElem?_eq_getElem hlt) (List.getElem?_eq_getElem hltk)
          have hikl := hatk.lt
          have HC := Lib.hid (IH.out is[k] t.kids[k] (by omega) hatk wr hSr (kids_wf ht _ hmem) (by omega))
          have Z : ∀ w3, t.kids[k] ≠ a → ¬ Has a t.kids[k] → Below wr.heap.size wr w3 → InRel base b ns cs w a is t.kids w.heap.size (.slice (some ⟨g, 0, none⟩) is.length cv) (.int .i64 ((k : Int) + 1)) w3 := fun w3 h1 h2 hb3 =>
            ⟨k + 1, by go_num, by omega, gone_more HG.out hltk h1 h2, by
              have hg3 : wr.grownBy w3 none := ⟨hb3.os, hb3.tape, hb3.output, hb3.size, fun k hk _ => hb3.block k hk⟩
              exact hownr.kept hg3 (.inr (by simp [Value.ownBlock])), hSr.kept hb3, hbr.trans (hb3.mono hbr.size)⟩
          have HZ := Lib.hid Z
          have hEq : is[k] = ia ↔ t.kids[k] = a := ⟨fun h => by rw [h] at hatk; exact hatk.fun HATA.out, fun h => by rw [h] at hatk; exact hSr.inj hatk HATA.out⟩
          have HT := Lib.hid (fun (h : t.kids[k] = a ∨ Has a t.kids[k]) => (has_iff a t).2 ⟨_, hmem, h⟩)
          clear Z hatk hmem hSr hownr hkl
          generalize is[k] = j at *
          generalize t.kids[k] = x at *
          by_cases hj : j = ia
          · have hjb : ((j : Int) == (ia : Int)) = true := by simp [hj]
            have HY := Lib.hid (HT.out (.inl (hEq.1 hj)))
            clear hEq hj
            go_wp2
            go_ret
            exact ⟨true, rfl, ⟨fun _ => HY.out, fun _ => rfl⟩, hbr⟩
          · have hjb : ((j : Int) == (ia : Int)) = false := beq_eq_false_iff_ne.2 (by omega)
            have HNE := Lib.hid (fun h => hj (hEq.2 h))
            clear hEq hj
            go_wp2_with fail
            refine HC.out.mono ?_
            rintro e w3 ⟨v, rfl, hv, hb3⟩
            have hb := hbr.trans (hb3.mono hbr.size)
            cases v with
            | true =>
              have HY := Lib.hid (HT.out (.inr (hv.1 rfl)))
              clear hv hb3 HC
              go_wp2
              go_ret
              exact ⟨true, rfl, ⟨fun _ => HY.out, fun _ => rfl⟩, hb⟩
            | false =>
              have HR := Lib.hid (HZ.out w3 HNE.out (fun h => by have := hv.2 h; cases this) hb3)
              clear hv hb3 HC HZ
              go_wp2
              go_roundw
              case rel => exact HR.out
              case measure => simp [intOf]; omega
        · have hlt2 : decide ((k : Int) < (is.length : Int)) = false := decide_eq_false (by omega)
          have HN := Lib.hid (gone_not HG.out (by have := HLEN.out; omega))
          clear hownr hSr
          go_wp2
          go_ret
          exact ⟨false, rfl, ⟨fun h => (by cases h), fun h => absurd h HN.out⟩, hbr⟩
  exact main (t.text.length + 1) i t (by omega) hat


/-- What both answer. -/
def InsideIs (x y : List UInt8) : Prop := ∃ a t : Tm, rdAll x = some a ∧ rdAll y = some t ∧ Has a t

set_option maxRecDepth 100000 in
set_option maxHeartbeats 1000000 in
theorem implInside (x y : ByteArray) (hx : x.size ≤ 140737488351232) (hy : y.size ≤ 140737488351232) (w : World) (hE : Env w.heap.size w) :
    Calls Tryd.prog 15 #[.string x, .string y] w fun e w' => ∃ v : Bool, e = .returned (.bool v) ∧ (v = true ↔ InsideIs (lst x) (lst y)) ∧ Below w.heap.size w w' := by
  go_enter Tryd.func15, Tryd.ntmps15
  go_wp2_with fail
  refine (newTermStore_any _).mono ?_
  rintro e w1 ⟨b, rfl, hS1, hb1⟩
  have hE1 := hE.stays hb1
  go_wp2_with fail
  refine (read_any w.heap.size b [] [] x hx 200 w1 hS1 hE1 (by simp) (by simp) (by omega) (by omega)).mono ?_
  rintro e w2 ⟨ns, cs, h1, h2, h3, h4, h5, h6, (⟨hr, rfl⟩ | ⟨a, i, hr, hat, rfl⟩)⟩
  · have hE2 := hE1.stays h6.below
    have HN := Lib.hid (show ¬ InsideIs (lst x) (lst y) from fun ⟨_, _, h, _⟩ => by rw [hr] at h; cases h)
    have hb12 := hb1.trans h6.below
    clear hr h1 h2 h6 hb1 hS1 hE1
    go_wp2_with fail
    refine (read_any w.heap.size b ns cs y hy 400 w2 h5 hE2 (by omega) (by omega) (by omega) (by omega)).mono ?_
    rintro e w3 ⟨ns3, cs3, k1, k2, k3, k4, k5, k6, (⟨hr3, rfl⟩ | ⟨t, j, hr3, hat3, rfl⟩)⟩
    · have hb := hb12.trans k6.below
      clear k1 k2 k3 k4 k5 k6 hb12 hr3
      go_wp2
      go_ret
      exact ⟨false, rfl, ⟨fun h => (by cases h), fun h => absurd h HN.out⟩, hb⟩
    · have hb := hb12.trans k6.below
      clear k1 k2 k3 k4 k5 k6 hb12 hr3 hat3
      go_wp2
      go_ret
      exact ⟨false, rfl, ⟨fun h => (by cases h), fun h => absurd h HN.out⟩, hb⟩
  · have hE2 := hE1.stays h6.below
    have hb12 := hb1.trans h6.below
    have HR := Lib.hid hr
    have HAT := Lib.hid hat
    clear hr h1 h2 h6 hb1 hS1 hE1 hat
    go_wp2_with fail
    refine (read_any w.heap.size b ns cs y hy 400 w2 h5 hE2 (by omega) (by omega) (by omega) (by omega)).mono ?_
    rintro e w3 ⟨ns3, cs3, k1, k2, k3, k4, k5, k6, (⟨hr3, rfl⟩ | ⟨t, j, hr3, hat3, rfl⟩)⟩
    · have HN := Lib.hid (show ¬ InsideIs (lst x) (lst y) from fun ⟨_, _, _, h, _⟩ => by rw [hr3] at h; cases h)
      have hb := hb12.trans k6.below
      clear k1 k2 k3 k4 k5 k6 hb12 hr3
      go_wp2
      go_ret
      exact ⟨false, rfl, ⟨fun h => (by cases h), fun h => absurd h HN.out⟩, hb⟩
    · have hb := hb12.trans k6.below
      have hsz := hb.size
      obtain ⟨hw, hxx, hl⟩ := rdAll_sound hr3
      have HC := Lib.hid (inside_any (base := w.heap.size) (b := b) (by omega) (by omega) (HAT.out.mono k1 k2) hat3 w3 k5 hw (by rw [hxx]; exact hl))
      have HI : InsideIs (lst x) (lst y) ↔ Has a t := ⟨fun ⟨a', t', e1, e2, h⟩ => by
        rw [HR.out] at e1
        rw [hr3] at e2
        obtain rfl := Option.some.inj e1
        obtain rfl := Option.some.inj e2
        exact h, fun h => ⟨a, t, HR.out, hr3, h⟩⟩
      have HII := Lib.hid HI
      clear k1 k2 k3 k4 k5 k6 hb12 hr3 hat3 hw hxx hl HI
      go_wp2_with fail
      refine HC.out.mono ?_
      rintro e w4 ⟨v, rfl, hv, hb4⟩
      have hbb := hb.trans (hb4.mono hsz)
      clear HC hb4 hb
      go_wp2
      go_ret
      exact ⟨v, rfl, hv.trans HII.out.symm, hbb⟩

/-- What the loop over the parts holds. -/
def InParts (w : World) (a : Tm) (xs : List ByteArray) (ts : List Tm) (rb : Nat) (vs : Value) (v : Value) (wr : World) : Prop :=
  ∃ k : Nat, v = .int .i64 (k : Int) ∧ k ≤ xs.length ∧ GoneBy a ts k ∧ wr.ownsRow rb 9 1 vs xs.length (strCells xs) ∧ Below w.heap.size w wr

end Go.Proofs.YtkhliflgflhheaaDoor
