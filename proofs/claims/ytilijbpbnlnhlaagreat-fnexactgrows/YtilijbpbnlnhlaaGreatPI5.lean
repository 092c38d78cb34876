/-
  THE BUILDER: what it holds; impl's take.
-/
import Derived.Test.YtilijbpbnlnhlaaGreatPI4
namespace Go.Proofs.YtilijbpbnlnhlaaGreat.Pr
open Go Go.RowKit Go.Maps Go.WideMaps

/-- Which of n places are named. -/
def tkOf (n : Nat) (R : List Int) : List Bool := (List.range n).map fun (m : Nat) => decide ((m : Int) ∈ R)
def boolCells (l : List Bool) : List Value := l.map (fun b => .bool b)
theorem tkOf_length (n : Nat) (R : List Int) : (tkOf n R).length = n := by simp [tkOf]
theorem tkOf_get (n : Nat) (R : List Int) (m : Nat) (h : m < n) : (boolCells (tkOf n R))[m]? = some (.bool (decide ((m : Int) ∈ R))) := by
  simp [boolCells, tkOf, h]
theorem tkOf_set (n : Nat) (R : List Int) (m : Nat) (_h : m < n) : (boolCells (tkOf n R)).set m (.bool true) = boolCells (tkOf n (R ++ [(m : Int)])) := by
  apply List.ext_getElem
  · simp [boolCells, tkOf]
  · intro i h1 h2
    rw [List.getElem_set]
    by_cases hmi : m = i
    · subst hmi
      simp [boolCells, tkOf]
    · have : ¬ (i : Int) = (m : Int) := by omega
      simp [boolCells, tkOf, hmi, this]
theorem tkOf_grow (n : Nat) (R : List Int) (h : (n : Int) ∉ R) : boolCells (tkOf (n + 1) R) = boolCells (tkOf n R) ++ [.bool false] := by
  unfold tkOf boolCells
  rw [List.range_succ, List.map_append, List.map_append]
  simp [h]

/-- The builder at gb: the nodes ns, of which those that R names are taken; on, ot: where the two rows lie; N: where the nodes' own parts lie. -/
structure Bld (gb : Nat) (ns : List Nd) (R : List Int) (on ot : Option Nat) (N : Nat → Prop) (w : World) : Prop where
  lies : ∃ (vn vt : Value) (cs : List Value), vn.ownBlock = on ∧ vt.ownBlock = ot ∧ w.heap[gb]? = some (.cells #[vn, vt] 110 (0, 0)) ∧ w.ownsRow (gb + 1) 94 1 vn ns.length cs ∧ w.ownsRow (gb + 1) 4 1 vt ns.length (boolCells (tkOf ns.length R)) ∧ ∀ i (h : i < ns.length), ∃ v, cs[i]? = some v ∧ NodeIn N w ns[i] v
  free : ∀ b, N b → gb < b ∧ b < w.heap.size ∧ on ≠ some b ∧ ot ≠ some b
/-- Only the builder, its two rows and new blocks have changed. -/
structure BStep (gb : Nat) (on ot on' ot' : Option Nat) (w w' : World) : Prop where
  os : w'.os = w.os
  tape : w'.tape = w.tape
  output : w'.output = w.output
  size : w.heap.size ≤ w'.heap.size
  block : ∀ k, k < w.heap.size → k ≠ gb → on ≠ some k → ot ≠ some k → w'.heap[k]? = w.heap[k]?
  own : (on' = on ∨ ∃ g, on' = some g ∧ w.heap.size ≤ g) ∧ (ot' = ot ∨ ∃ g, ot' = some g ∧ w.heap.size ≤ g)
theorem BStep.refl (gb : Nat) (on ot : Option Nat) (w : World) : BStep gb on ot on ot w w := ⟨rfl, rfl, rfl, Nat.le_refl _, fun _ _ _ _ _ => rfl, .inl rfl, .inl rfl⟩
theorem BStep.trans {gb : Nat} {on ot on' ot' on'' ot'' : Option Nat} {a b c : World} (h : BStep gb on ot on' ot' a b) (k : BStep gb on' ot' on'' ot'' b c) : BStep gb on ot on'' ot'' a c := by
  have aux : ∀ {p q : Option Nat} {x : Nat}, (q = p ∨ ∃ g, q = some g ∧ a.heap.size ≤ g) → x < a.heap.size → p ≠ some x → q ≠ some x := by
    rintro p q x (rfl | ⟨g, rfl, hg⟩) hx hp
    · exact hp
    · simp; omega
  have aux2 : ∀ {p q r : Option Nat}, (q = p ∨ ∃ g, q = some g ∧ a.heap.size ≤ g) → (r = q ∨ ∃ g, r = some g ∧ b.heap.size ≤ g) → (r = p ∨ ∃ g, r = some g ∧ a.heap.size ≤ g) := by
    rintro p q r h1 (rfl | ⟨g, rfl, hg⟩)
    · exact h1
    · exact .inr ⟨g, rfl, Nat.le_trans h.size hg⟩
  exact ⟨k.os.trans h.os, k.tape.trans h.tape, k.output.trans h.output, Nat.le_trans h.size k.size, fun x hx h1 h2 h3 => (k.block x (Nat.lt_of_lt_of_le hx h.size) h1 (aux h.own.1 hx h2) (aux h.own.2 hx h3)).trans (h.block x hx h1 h2 h3), aux2 h.own.1 k.own.1, aux2 h.own.2 k.own.2⟩
theorem BStep.below {gb : Nat} {on ot : Option Nat} {w w' : World} (hb : Below w.heap.size w w') : BStep gb on ot on ot w w' := ⟨hb.os, hb.tape, hb.output, hb.size, fun k hk _ _ _ => hb.block k hk, .inl rfl, .inl rfl⟩
theorem Bld.lt {gb : Nat} {ns : List Nd} {R : List Int} {on ot : Option Nat} {N : Nat → Prop} {w : World} (h : Bld gb ns R on ot N w) : gb < w.heap.size := by
  obtain ⟨_, _, _, _, _, h1, _⟩ := h.lies
  exact lt_of_block h1
theorem own_lt {w : World} {base : Nat} {e : TypeId} {v : Value} {n : Nat} {xs : List Value} (h : w.ownsRow base e 1 v n xs) {k : Nat} (hk : v.ownBlock = some k) : base ≤ k ∧ k < w.heap.size := by
  rcases h.2 with ⟨rfl, _⟩ | ⟨g, cap, cur, rfl, hg, hh, _⟩
  · simp [Value.ownBlock] at hk
  · simp only [Value.ownBlock, Option.some.injEq] at hk
    subst hk
    exact ⟨hg, lt_of_block hh⟩
/-- What a step keeps: the builder itself, where neither it nor its rows nor its nodes' parts are touched. -/
theorem Bld.keep {gb : Nat} {ns : List Nd} {R : List Int} {on ot : Option Nat} {N : Nat → Prop} {w w' : World} (h : Bld gb ns R on ot N w) (row : Option Nat) (hg : w.grownBy w' row) (hr : ∀ g, row = some g → g ≠ gb ∧ on ≠ some g ∧ ot ≠ some g ∧ ¬ N g) : Bld gb ns R on ot N w' := by
  obtain ⟨vn, vt, cs, h1, h2, h3, h4, h5, h6⟩ := h.lies
  have ne : ∀ k, (k = gb ∨ on = some k ∨ ot = some k ∨ N k) → some k ≠ row := by
    intro k hk e
    obtain ⟨a, b, c, d⟩ := hr k e.symm
    rcases hk with hk | hk | hk | hk
    · exact a hk
    · exact b hk
    · exact c hk
    · exact d hk
  have kn : vn.ownBlock = none ∨ vn.ownBlock ≠ row := by
    cases hv : vn.ownBlock with
    | none => exact .inl rfl
    | some k => exact .inr (ne k (.inr (.inl (by rw [← h1, hv]))))
  have kt : vt.ownBlock = none ∨ vt.ownBlock ≠ row := by
    cases hv : vt.ownBlock with
    | none => exact .inl rfl
    | some k => exact .inr (ne k (.inr (.inr (.inl (by rw [← h2, hv])))))
  refine ⟨⟨vn, vt, cs, h1, h2, (hg.block gb (lt_of_block h3) (ne gb (.inl rfl))).trans h3, h4.kept hg kn, h5.kept hg kt, ?_⟩, fun b hb => ?_⟩
  · intro i hi
    obtain ⟨v, hv, hn⟩ := h6 i hi
    exact ⟨v, hv, NodeIn.kept (fun b hb => hg.block b (h.free b hb).2.1 (ne b (.inr (.inr (.inr hb))))) (fun _ h => h) _ _ hn⟩
  · obtain ⟨a, b, c, d⟩ := h.free b hb
    exact ⟨a, Nat.lt_of_lt_of_le b hg.size, c, d⟩
theorem Bld.go {gb : Nat} {ns : List Nd} {R : List Int} {on ot : Option Nat} {N : Nat → Prop} {w w' : World} (h : Bld gb ns R on ot N w) (hb : Below w.heap.size w w') : Bld gb ns R on ot N w' :=
  h.keep none ⟨hb.os, hb.tape, hb.output, hb.size, fun k hk _ => hb.block k hk⟩ (fun g hg => by cases hg)

/-- All these places can be taken. -/
def TakeOk (n : Nat) (R xs : List Int) : Prop := ∀ k (h : k < xs.length), 0 ≤ xs[k] ∧ xs[k] < (n : Int) ∧ xs[k] ∉ R ++ xs.take k

theorem infoNode : (Tryz.prog.info? 94).map (fun i => (i.zero, i.size, i.bytes)) = some (some .nilIface, 1, 16) := by kernel_rfl
theorem infoBool : (Tryz.prog.info? 4).map (fun i => (i.zero, i.size, i.bytes)) = some (some (.bool false), 1, 1) := by kernel_rfl

/-- append of one node. -/
theorem append_node (w : World) (base : Nat) (v : Value) (n : Nat) (xs : List Value) (hown : w.ownsRow base 94 1 v n xs) (t : TypeId) (x : Value) (g : Nat) (hg : w.heap[g]? = some (.cells #[.iface t x] 94 (0, 0))) (hn : n ≤ 1048576) (hbase : base ≤ w.heap.size) :
    ∃ g' cap w', (∀ ty, (Builtin.append_ #[108, 108] ty #[v, .slice (some ⟨g, 0, none⟩) 1 1]).run Tryz.prog w = .ok (.slice (some ⟨g', 0, none⟩) (n + 1) cap) w') ∧ w'.ownsRow base 94 1 (.slice (some ⟨g', 0, none⟩) (n + 1) cap) (n + 1) (xs ++ [.iface t x]) ∧ w.grownBy w' v.ownBlock ∧ (v.ownBlock = some g' ∨ g' = w.heap.size) := by
  obtain ⟨i0, hi0, hz0, hz1, hz2⟩ := info_parts infoNode
  obtain ⟨g', cap, w', a1, a2, a3, a4, a5⟩ := run_append_lies (P := Tryz.prog) w 108 0 base 94 i0 _ 1 16 Tryz.underlying108 hi0 hz0 hz1 hz2 rfl (by omega) v n xs hown ⟨g, 0, none⟩ 1 1 [.iface t x] rfl
    (fun j u hu => by
      cases j with
      | zero => simp only [List.getElem?_cons_zero, Option.some.injEq] at hu; rw [hown_add, cell_of_row _ _ _ _ _ _ hg, ← hu]; rfl
      | succ j => simp at hu) (by intro u hu; rw [List.mem_singleton.1 hu]; rfl) (by omega) (by unfold maxLen; omega) (by omega) hbase w.heap.size rfl
  exact ⟨g', cap, w', fun ty => a1, a2, a3, a4⟩

def TakeRel (gb : Nat) (ns : List Nd) (R : List Int) (on ot : Option Nat) (N : Nat → Prop) (xs : List Int) (w : World) (v6 v11 : Value) (wr : World) : Prop :=
  ∃ (k : Nat) (cl : List Value), v11 = .int .i64 (k : Int) ∧ k ≤ xs.length ∧ wr.ownsRow w.heap.size 94 1 v6 k cl ∧ (∀ j (h : j < k) (h2 : j < xs.length), ∃ (hm : xs[j].toNat < ns.length) (v : Value), cl[j]? = some v ∧ NodeIn N wr ns[xs[j].toNat] v) ∧
    Bld gb ns (R ++ xs.take k) on ot N wr ∧ BStep gb on ot on ot w wr ∧ (∀ j (h : j < xs.length), j < k → 0 ≤ xs[j] ∧ xs[j] < (ns.length : Int) ∧ xs[j] ∉ R ++ xs.take j)

def TakePost (gb : Nat) (ns : List Nd) (R : List Int) (on ot : Option Nat) (N : Nat → Prop) (xs : List Int) (w : World) (e : Ending) (w' : World) : Prop :=
  (∃ (a : Option Addr) (c : Nat), e = .returned (.tuple #[.slice a xs.length c, .bool true]) ∧ TakeOk ns.length R xs ∧ Bld gb ns (R ++ xs) on ot N w' ∧ BStep gb on ot on ot w w' ∧ ∃ L : Nat, w.heap.size ≤ L ∧ (∀ b, a = some b → b.block < w'.heap.size) ∧ (0 < xs.length → a = some ⟨L, 0, none⟩) ∧ (0 < xs.length → L < w'.heap.size) ∧ NodesIn (fun b => N b ∨ b = L) w' (xs.map fun x => ns.getD x.toNat (.word ⟨#[]⟩)) a 0) ∨
  (∃ R', e = .returned (.tuple #[.slice none 0 0, .bool false]) ∧ ¬ TakeOk ns.length R xs ∧ Bld gb ns R' on ot N w' ∧ BStep gb on ot on ot w w')

set_option maxRecDepth 100000 in
set_option maxHeartbeats 2000000 in
theorem take_any (gb : Nat) (ns : List Nd) (R : List Int) (on ot : Option Nat) (N S : Nat → Prop) (xs : List Int) (a : Option Addr) (cap : Nat) (w : World) (hB : Bld gb ns R on ot N w) (hx : IntsIn S w a xs) (hS : ∀ b, S b → b < w.heap.size ∧ b ≠ gb ∧ on ≠ some b ∧ ot ≠ some b) (hn : xs.length ≤ 1048576) (hns : ns.length ≤ 1048576) :
    Calls Tryz.prog 99 #[.pointer (some ⟨gb, 0, none⟩), .slice a xs.length cap] w (TakePost gb ns R on ot N xs w) := by
  have HB := Lib.hid hB
  have HX := Lib.hid hx
  have HS := Lib.hid hS
  clear hB hx hS
  go_enter Tryz.func99, Tryz.ntmps99
  go_wp2
  go_loopw [6, 11] (fun v6 v11 wr => TakeRel gb ns R on ot N xs w v6 v11 wr) (fun _ v11 _ => (xs.length - (intOf v11).toNat))
  case atStart => exact ⟨0, [], rfl, Nat.zero_le _, World.ownsRow_nil w _ _ _, fun j h => by omega, by rw [List.take_zero, List.append_nil]; exact HB.out, BStep.refl _ _ _ _, fun j h hj => by omega⟩
  case round =>
    obtain ⟨k, cl, rfl, hk, hown, hcl, hB, hst, hok⟩ := hrel
    obtain ⟨aL, cL, rfl⟩ := owns_shape hown
    by_cases hlt : k < xs.length
    · have hsm : Same S w wr := fun b hb => by
        obtain ⟨q1, q2, q3, q4⟩ := HS.out b hb
        exact hst.block b q1 q2 q3 q4
      obtain ⟨b, off, rfl, hSb, hxk⟩ := (HX.out.kept hsm) k hlt
      obtain ⟨vn, vt, cs, h1, h2, h3, h4, h5, h6⟩ := hB.lies
      have c0 := cell_of_row _ gb 0 _ _ _ h3
      have c1 := cell_of_row _ gb 1 _ _ _ h3
      simp only [List.getElem?_toArray, List.getElem?_cons_zero, List.getElem?_cons_succ] at c0 c1
      obtain ⟨an, cn, rfl⟩ := owns_shape h4
      obtain ⟨at', ct, rfl⟩ := owns_shape h5
      have HB' := Lib.hid hB
      have HST := Lib.hid hst
      have hbad : ¬ (0 ≤ xs[k] ∧ xs[k] < (ns.length : Int) ∧ xs[k] ∉ R ++ xs.take k) → TakePost gb ns R on ot N xs w (.returned (.tuple #[.slice none 0 0, .bool false])) wr := fun h => .inr ⟨_, rfl, fun t => h (t k hlt), HB'.out, HST.out⟩
      have HBAD := Lib.hid hbad
      clear hbad hB hst hsm hSb
      by_cases hneg : xs[k] < 0
      · have hd : decide (xs[k] < 0) = true := decide_eq_true hneg
        have HP := Lib.hid (HBAD.out (fun h => by omega))
        clear HBAD HST HB' hcl hown h1 h2 h3 h4 h5 h6 hok
        generalize xs[k] = x at *
        go_wp2
        go_ret2
        exact HP.out
      · have hd : decide (xs[k] < 0) = false := decide_eq_false hneg
        obtain ⟨m, hm⟩ := Int.eq_ofNat_of_zero_le (show 0 ≤ xs[k] by omega)
        by_cases hge : ns.length ≤ m
        · have hd2 : decide ((ns.length : Int) ≤ xs[k]) = true := decide_eq_true (by omega)
          have hd3 : decide ((ns.length : Int) ≤ (m : Int)) = true := decide_eq_true (by omega)
          have HP := Lib.hid (HBAD.out (fun h => by omega))
          rw [hm] at hxk hd hd2
          clear HBAD HST HB' hcl hown h1 h2 h3 h4 h5 h6 hok hm hneg
          go_wp2
          go_ret2
          exact HP.out
        · have hd2 : decide ((ns.length : Int) ≤ xs[k]) = false := decide_eq_false (by omega)
          have hd3 : decide ((ns.length : Int) ≤ (m : Int)) = false := decide_eq_false (by omega)
          obtain ⟨gt, ct', hvt, hbt, hgtl⟩ := h5.form (by omega)
          simp only [Value.slice.injEq, true_and] at hvt
          obtain ⟨rfl, rfl⟩ := hvt
          have htc := (h5.cellAt m (by omega)).trans (tkOf_get ns.length (R ++ xs.take k) m (by omega))
          by_cases hin : (m : Int) ∈ R ++ xs.take k
          · rw [decide_eq_true hin] at htc
            have HP := Lib.hid (HBAD.out (fun h => by rw [hm] at h; exact h.2.2 hin))
            rw [hm] at hxk hd hd2
            clear HBAD HST HB' hcl hown h1 h2 h3 h4 h5 h6 hok hm hneg hin
            go_wp2
            go_ret2
            exact HP.out
          · rw [decide_eq_false hin] at htc
            obtain ⟨gn, cn', hvn, hbn, hgnl⟩ := h4.form (by omega)
            simp only [Value.slice.injEq, true_and] at hvn
            obtain ⟨rfl, rfl⟩ := hvn
            obtain ⟨nv, hnv, hnode⟩ := h6 m (by omega)
            obtain ⟨nt, nx, rfl⟩ := hnode.shape
            have hnc := (h4.cellAt m (by omega)).trans hnv
            have hgtt : ∃ cur, wr.heap[gt]? = some (.cells cur 4 (0, 0)) := by
              rcases h5.2 with ⟨h', _⟩ | ⟨g', cap', cur, hv', _, hh', _⟩
              · cases h'
              · simp only [Value.slice.injEq, Option.some.injEq, Addr.mk.injEq, true_and, and_true] at hv'
                obtain ⟨rfl, rfl⟩ := hv'
                exact ⟨cur, hh'⟩
            obtain ⟨curt, hcurt⟩ := hgtt
            have hgnt : gn ≠ gt := by
              rcases own_ne h4 hcurt (by decide) with h | h
              · simp [Value.ownBlock] at h
              · simpa [Value.ownBlock] using h
            have hLt := own_ne hown hcurt (by decide)
            have hot : ot = some gt := by rw [← h2]; rfl
            have hon : on = some gn := by rw [← h1]; rfl
            have hfz : wr.frozen? ⟨gt, m, none⟩ = false := by simp [World.frozen?, hcurt]
            -- the world with the place marked
            obtain ⟨w1, hw1⟩ : ∃ w1, wr.setCell ⟨gt, m, none⟩ (.bool true) = w1 := ⟨_, rfl⟩
            have hgs : wr.grownBy w1 (some gt) := by rw [← hw1]; exact grown_set wr gt m _
            have hs1 : w1.heap.size = wr.heap.size := by rw [← hw1]; simp
            have hB1 : Bld gb ns (R ++ xs.take (k + 1)) on ot N w1 := by
              refine ⟨⟨_, _, cs, h1, h2, (hgs.block gb (lt_of_block h3) (by simp; omega)).trans h3, h4.kept hgs (.inr (by simp [Value.ownBlock]; exact hgnt)), ?_, ?_⟩, ?_⟩
              · have := owns_set h5 (show m < ns.length by omega) (.bool true)
                rw [hw1, tkOf_set ns.length _ m (by omega)] at this
                rw [List.take_succ_eq_append_getElem hlt, hm, ← List.append_assoc]
                exact this
              · intro i hi
                obtain ⟨v, hv, hn'⟩ := h6 i hi
                exact ⟨v, hv, NodeIn.kept (fun b hb => hgs.block b (HB'.out.free b hb).2.1 (by have := (HB'.out.free b hb).2.2.2; rw [hot] at this; exact fun e => this e.symm)) (fun _ h => h) _ _ hn'⟩
              · intro b hb
                obtain ⟨q1, q2, q3, q4⟩ := HB'.out.free b hb
                exact ⟨q1, by rw [hs1]; exact q2, q3, q4⟩
            have hown1 : w1.ownsRow w.heap.size 94 1 (.slice aL k cL) k cl := hown.kept hgs hLt
            have hNw : Same N wr w1 := fun b hb => hgs.block b (HB'.out.free b hb).2.1 (by have := (HB'.out.free b hb).2.2.2; rw [hot] at this; exact fun e => this e.symm)
            have hb2 : Below w1.heap.size w1 (w1.alloc (.cells #[.iface nt nx] 94)) := (Below.refl _ _).alloc (Nat.le_refl _) _
            have k2 := heap_alloc_new w1 (.cells #[.iface nt nx] 94)
            have hown2 := row_kept hown1 hb2
            have hwle : w.heap.size ≤ w1.heap.size := by rw [hs1]; exact HST.out.size
            obtain ⟨g', cap', w3, hrun, hown3, hgr3, hat⟩ := append_node (w1.alloc (.cells #[.iface nt nx] 94)) w.heap.size (.slice aL k cL) k cl hown2 nt nx w1.heap.size k2 (by omega) (by have := hb2.size; omega)
            have hLb : ∀ g, (Value.slice aL k cL).ownBlock = some g → w.heap.size ≤ g := fun g hg => (own_lt hown hg).1
            have honw : ∀ g, w.heap.size ≤ g → g ≠ gb ∧ on ≠ some g ∧ ot ≠ some g ∧ ¬ N g := by
              intro g hg
              obtain ⟨vn0, vt0, cs0, e1, e2, e3, e4, e5, e6⟩ := HB.out.lies
              refine ⟨?_, ?_, ?_, ?_⟩
              · have := HB.out.lt; omega
              · intro h; have := (own_lt e4 (e1.trans h)).2; omega
              · intro h; have := (own_lt e5 (e2.trans h)).2; omega
              · intro h; have := (HB.out.free g h).2.1; omega
            have hB3 : Bld gb ns (R ++ xs.take (k + 1)) on ot N w3 := (hB1.go hb2).keep _ hgr3 (fun g hg => honw g (hLb g hg))
            have hN3 : Same N wr w3 := fun b hb => by
              have q := HB.out.free b hb
              rw [hgr3.block b (by have := hb2.size; have := (HB'.out.free b hb).2.1; omega) (fun e => by have := hLb b e.symm; omega), hb2.block b (by have := (HB'.out.free b hb).2.1; omega)]
              exact hNw b hb
            have hst3 : BStep gb on ot on ot w w3 := by
              refine ⟨hgr3.os.trans (hb2.os.trans (hgs.os.trans HST.out.os)), hgr3.tape.trans (hb2.tape.trans (hgs.tape.trans HST.out.tape)), hgr3.output.trans (hb2.output.trans (hgs.output.trans HST.out.output)), by have := hgr3.size; have := hb2.size; omega, ?_, .inl rfl, .inl rfl⟩
              intro q hq q1 q2 q3
              rw [hgr3.block q (by have := hb2.size; omega) (fun e => by have := hLb q e.symm; omega), hb2.block q (by omega), hgs.block q (by have := HST.out.size; omega) (by rw [hot] at q3; exact fun e => q3 e.symm)]
              exact HST.out.block q hq q1 q2 q3
            have hnext : TakeRel gb ns R on ot N xs w (.slice (some ⟨g', 0, none⟩) (k + 1) cap') (.int .i64 ((k : Int) + 1)) w3 := by
              refine ⟨k + 1, cl ++ [.iface nt nx], by go_num, by omega, hown3, ?_, hB3, hst3, ?_⟩
              · intro j hj hj2
                have hcll : cl.length = k := by have := hown.1; omega
                by_cases hjk : j < k
                · obtain ⟨hm', v, hv, hn'⟩ := hcl j hjk hj2
                  exact ⟨hm', v, by rw [List.getElem?_append_left (by omega)]; exact hv, NodeIn.kept hN3 (fun _ h => h) _ _ hn'⟩
                · obtain rfl : j = k := by omega
                  have hmm : xs[j].toNat = m := by rw [hm]; simp
                  refine ⟨by omega, .iface nt nx, by rw [List.getElem?_append_right (by omega), hcll, Nat.sub_self]; rfl, ?_⟩
                  have := NodeIn.kept hN3 (fun _ h => h) _ _ hnode
                  simp only [hmm]
                  exact this
              · intro j hj hj2
                by_cases hjk : j < k
                · exact hok j hj hjk
                · obtain rfl : j = k := by omega
                  exact ⟨by omega, by omega, by rw [hm]; exact hin⟩
            have d0 : w1.cell? ⟨gb, 0, none⟩ = some (.slice (some ⟨gn, 0, none⟩) ns.length cn) := by
              unfold World.cell?
              rw [show (⟨gb, 0, none⟩ : Addr).block = gb from rfl, hgs.block gb (lt_of_block h3) (by simp; omega)]
              exact c0
            have dn : w1.cell? ⟨gn, m, none⟩ = some (.iface nt nx) := by
              unfold World.cell?
              rw [show (⟨gn, m, none⟩ : Addr).block = gn from rfl, hgs.block gn hgnl (by simp; exact hgnt)]
              exact hnc
            have HN := Lib.hid hnext
            have HRUN := Lib.hid hrun
            have HW1 := Lib.hid hw1
            rw [hm] at hxk hd hd2
            have hmn : m < ns.length := by omega
            clear hnext hrun hst3 hN3 hB3 honw hLb hgr3 hown3 hat hown2 k2 hb2 hNw hown1 hB1 hgs hLt hcurt hgnt HBAD HST HB' hcl hown h1 h2 h3 h4 h5 h6 hok hm hneg hin hge hnc hnv hnode hot hon hbt hbn hgtl hgnl hwle hs1
            go_wp2_with (first
              | (at_builtin
                 refine wpList_append_run rfl (.tmp 41) (.tmp 49) _ rfl rfl rfl HRUN.out ?_))
            go_roundw
            case rel => exact HN.out
            case measure => simp [intOf]; omega
    · obtain rfl : k = xs.length := by omega
      rw [List.take_length] at hB
      have hP : TakePost gb ns R on ot N xs w (.returned (.tuple #[.slice aL xs.length cL, .bool true])) wr := by
        refine .inl ⟨aL, cL, rfl, fun j h => hok j h h, hB, hst, ?_⟩
        have hlen : ∀ L : Nat, aL = some ⟨L, 0, none⟩ → L < wr.heap.size → w.heap.size ≤ L → ∃ L : Nat, w.heap.size ≤ L ∧ (∀ b, aL = some b → b.block < wr.heap.size) ∧ (0 < xs.length → aL = some ⟨L, 0, none⟩) ∧ (0 < xs.length → L < wr.heap.size) ∧ NodesIn (fun b => N b ∨ b = L) wr (xs.map fun x => ns.getD x.toNat (.word ⟨#[]⟩)) aL 0 := by
          rintro L rfl hL1 hL2
          refine ⟨L, hL2, (fun b hb => by cases hb; exact hL1), fun _ => rfl, fun _ => hL1, NodesIn.of _ _ _ (fun j hj => ?_)⟩
          have hj' : j < xs.length := by simpa using hj
          obtain ⟨hm, v, hv, hn⟩ := hcl j hj' hj'
          refine ⟨L, 0, v, rfl, .inr rfl, ?_, ?_⟩
          · rw [Nat.zero_add, Nat.zero_add, hown.cellAt j (by omega)]
            exact hv
          · have e : (xs.map fun x => ns.getD x.toNat (.word ⟨#[]⟩))[j] = ns[xs[j].toNat] := by
              rw [List.getElem_map]
              simp [List.getD, hm]
            rw [e]
            exact NodeIn.kept (Same.refl _ _) (fun b hb => .inl hb) _ _ hn
        rcases Nat.eq_zero_or_pos xs.length with h0 | h0
        · have hx0 : xs = [] := List.eq_nil_of_length_eq_zero h0
          rcases hown.2 with ⟨hv, _⟩ | ⟨g, cap', cur, hv, hg, hh, _⟩
          · simp only [Value.slice.injEq] at hv
            obtain ⟨rfl, _, _⟩ := hv
            exact ⟨w.heap.size, Nat.le_refl _, (fun b hb => by cases hb), (fun h => by omega), (fun h => by omega), by rw [hx0, List.map_nil, NodesIn]; trivial⟩
          · simp only [Value.slice.injEq] at hv
            obtain ⟨rfl, _, _⟩ := hv
            exact hlen g rfl (lt_of_block hh) hg
        · obtain ⟨g, c', hv, hg1, hg2⟩ := hown.form h0
          simp only [Value.slice.injEq] at hv
          obtain ⟨rfl, _, _⟩ := hv
          exact hlen g rfl hg2 hg1
      have HP := Lib.hid hP
      clear hP hown hcl hok hB hst
      go_wp2
      go_ret2
      exact HP.out

end Go.Proofs.YtilijbpbnlnhlaaGreat.Pr
