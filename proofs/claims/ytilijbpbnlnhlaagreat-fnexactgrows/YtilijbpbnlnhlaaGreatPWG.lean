/-
  GROWS: which heads make terms; what is Old is Bound; THE WALKS of impl.hasName, makesTerms, grows, Grows, of spec.Bound, Old, Grows.
-/
import Derived.Test.YtilijbpbnlnhlaaGreatPW6
import Derived.Test.YtilijbpbnlnhlaaGreatPW9
import Derived.Test.YtilijbpbnlnhlaaGreatPWB
namespace Go.Proofs.YtilijbpbnlnhlaaGreat.Pr
open Go Go.RowKit Go.Maps Go.WideMaps

/-- The bound names ahead of place i, each once, as they first stand. -/
noncomputable def selTo (es : List It) (r : List ByteArray) (i : Nat) : List ByteArray := by
  classical
  exact ((named es (List.range i)).filter fun p => decide (p.1 ∈ r)).map Prod.fst
theorem selTo_all (es : List It) (r : List ByteArray) : selTo es r es.length = (sel es r).map Prod.fst := rfl
theorem mem_selTo {es : List It} {r : List ByteArray} {i : Nat} {x : ByteArray} : x ∈ selTo es r i ↔ x ∈ (named es (List.range i)).map Prod.fst ∧ x ∈ r := by
  classical
  unfold selTo
  rw [List.mem_map, List.mem_map]
  constructor
  · rintro ⟨p, hp, rfl⟩
    rw [List.mem_filter, decide_eq_true_eq] at hp
    exact ⟨⟨p, hp.1, rfl⟩, hp.2⟩
  · rintro ⟨⟨p, hp, rfl⟩, hr⟩
    exact ⟨p, by rw [List.mem_filter, decide_eq_true_eq]; exact ⟨hp, hr⟩, rfl⟩
theorem selTo_len (es : List It) (r : List ByteArray) (i : Nat) : (selTo es r i).length ≤ i := by
  classical
  unfold selTo
  rw [List.length_map]
  refine Nat.le_trans (List.length_filter_le _ _) ?_
  unfold named
  rw [List.length_map]
  exact Nat.le_trans (firsts_len _ _) (by simp)
theorem selTo_skip {es : List It} {r : List ByteArray} {i : Nat} (h : (expAt es i).k ≠ 1 ∨ txtAt es i ∉ r ∨ txtAt es i ∈ selTo es r i) : selTo es r (i + 1) = selTo es r i := by
  classical
  by_cases hk : (expAt es i).k ≠ 1 ∨ ∃ p ∈ named es (List.range i), p.1 = txtAt es i
  · unfold selTo
    rw [List.range_succ, named_snoc_skip hk]
  · have hk1 : (expAt es i).k = 1 := Classical.byContradiction fun h => hk (.inl h)
    have hno : ∀ p ∈ named es (List.range i), p.1 ≠ txtAt es i := fun p hp e => hk (.inr ⟨p, hp, e⟩)
    have hr : txtAt es i ∉ r := by
      rcases h with h | h | h
      · exact absurd hk1 h
      · exact h
      · obtain ⟨p, hp, e⟩ := List.mem_map.1 (mem_selTo.1 h).1
        exact absurd e (hno p hp)
    unfold selTo
    rw [List.range_succ, named_snoc_put hk1 hno, List.filter_append]
    simp [hr]
theorem selTo_put {es : List It} {r : List ByteArray} {i : Nat} (h1 : (expAt es i).k = 1) (h2 : txtAt es i ∈ r) (h3 : txtAt es i ∉ selTo es r i) : selTo es r (i + 1) = selTo es r i ++ [txtAt es i] := by
  classical
  have hno : ∀ p ∈ named es (List.range i), p.1 ≠ txtAt es i := fun p hp e => h3 (mem_selTo.2 ⟨List.mem_map.2 ⟨p, hp, e⟩, h2⟩)
  unfold selTo
  rw [List.range_succ, named_snoc_put h1 hno, List.filter_append, List.map_append]
  simp [h2]

def SBRel (w0 : World) (es : List It) (r : List ByteArray) (vl : Value) (v3 v5 : Value) (wr : World) : Prop :=
  ∃ i : Nat, v5 = .int .i64 (i : Int) ∧ i ≤ es.length ∧ wr.ownsRow w0.heap.size 9 1 v3 (selTo es r i).length (txtCells (selTo es r i)) ∧ wr.ownsRow w0.heap.size 9 1 vl r.length (txtCells r) ∧ (∀ g, v3.ownBlock = some g → vl.ownBlock ≠ some g) ∧ Below w0.heap.size w0 wr

set_option maxRecDepth 100000 in
set_option maxHeartbeats 2000000 in
theorem specBound_any (u : Ru) (vs : List Value) (S : Nat → Prop) (w : World) (hF : FRu S w vs u) (hS : ∀ b, S b → b < w.heap.size) (hw : u.wt ≤ 1048576) : Calls Tryz.prog 7 #[.agg vs.toArray] w (BoundPost u w) := by
  have hF0 := hF
  obtain ⟨aes, ces, ahd, chd, abd, cbd, rfl, r0, r1, r2⟩ := hF
  have hb0 : Below w.heap.size w (w.alloc (.cells #[.slice aes u.es.length ces, .int .i64 u.hd.k, .string u.hd.s, .slice ahd u.hd.xs.length chd, .slice abd u.bd.length cbd] 36)) := (Below.refl _ _).alloc (Nat.le_refl _) _
  have k0 := heap_alloc_new w (.cells #[.slice aes u.es.length ces, .int .i64 u.hd.k, .string u.hd.s, .slice ahd u.hd.xs.length chd, .slice abd u.bd.length cbd] 36)
  obtain ⟨w0, hw0⟩ : ∃ w0, w.alloc (.cells #[.slice aes u.es.length ces, .int .i64 u.hd.k, .string u.hd.s, .slice ahd u.hd.xs.length chd, .slice abd u.bd.length cbd] 36) = w0 := ⟨_, rfl⟩
  have hsz0 : w0.heap.size = w.heap.size + 1 := by rw [← hw0]; simp
  rw [hw0] at hb0 k0
  have q0 := cell_of_row _ w.heap.size 0 _ _ _ k0
  have q1 := cell_of_row _ w.heap.size 1 _ _ _ k0
  have q2 := cell_of_row _ w.heap.size 2 _ _ _ k0
  have q3 := cell_of_row _ w.heap.size 3 _ _ _ k0
  have q4 := cell_of_row _ w.heap.size 4 _ _ _ k0
  simp only [List.getElem?_toArray, List.getElem?_cons_zero, List.getElem?_cons_succ] at q0 q1 q2 q3 q4
  have hbW : Below w0.heap.size w0 (w0.alloc (.cells #[] 9)) := (Below.refl _ _).alloc (Nat.le_refl _) _
  have hoW : (w0.alloc (.cells #[] 9)).ownsRow (w.heap.size + 1) 9 1 (.slice (some ⟨w.heap.size + 1, 0, none⟩) 0 0) 0 (txtCells []) := by
    rw [← hsz0]
    exact nil_row w0 _ rfl
  have hsW : (w0.alloc (.cells #[] 9)).heap.size = w.heap.size + 2 := by simp; omega
  have HF := Lib.hid (fun (W : World) (h : Below w0.heap.size w0 W) => FRu_keeps.1 _ _ _ _ _ hF0 (Same.below hS (below_step hb0 h)))
  have HS0 := Lib.hid (fun (W : World) (h : Below w0.heap.size w0 W) (b : Nat) (hb : S b) => Nat.lt_of_lt_of_le (hS b hb) (below_step hb0 h).size)
  have HSR := Lib.hid (specRule_any u _ S _ (HF.out _ hbW) (HS0.out _ hbW) hw)
  have HR0 := Lib.hid (fun (W : World) (h : Below w0.heap.size w0 W) => RowIn.kept FIt_keeps r0 (Same.below hS (below_step hb0 h)))
  have HSL := Lib.hid (fun (hok : RuleOk u) (W : World) (h : Below w0.heap.size w0 W) => specBoundL_any u hok _ S W (HF.out W h) (HS0.out W h) hw)
  have HB0 := Lib.hid hb0
  have HK0 := Lib.hid k0
  have HBW := Lib.hid hbW
  have HOW := Lib.hid hoW
  have HSZ := Lib.hid hsz0
  have HSW := Lib.hid hsW
  have hel : u.es.length ≤ 1048576 := by unfold Ru.wt wtExpS at hw; omega
  clear hF0 r0 r1 r2 hS hb0 k0 hbW hoW hw hsW
  go_enter Tryz.func7, Tryz.ntmps7
  go_wp2_with fail
  refine HSR.out.mono ?_
  rintro e w1 ⟨rfl, hb1⟩
  have hb01 := below_step HBW.out hb1
  have K1 := (hb01.block _ (lt_of_block HK0.out)).trans HK0.out
  have ho1 := row_kept HOW.out hb1
  have hs1 := hb1.size
  rw [HSW.out] at hs1
  clear q0 q1 q2 q3 q4 HSR hsz0
  by_cases hok : RuleOk u
  · have hne := ruleAns_some hok
    have HOK := Lib.hid hok
    generalize ruleAns u = A at *
    have q0 := cell_of_row _ w.heap.size 0 _ _ _ K1
    have q1 := cell_of_row _ w.heap.size 1 _ _ _ K1
    have q2 := cell_of_row _ w.heap.size 2 _ _ _ K1
    have q3 := cell_of_row _ w.heap.size 3 _ _ _ K1
    have q4 := cell_of_row _ w.heap.size 4 _ _ _ K1
    simp only [List.getElem?_toArray, List.getElem?_cons_zero, List.getElem?_cons_succ] at q0 q1 q2 q3 q4
    have HCL := Lib.hid (HSL.out hok w1 hb01)
    have HB1 := Lib.hid hb01
    have HO1 := Lib.hid ho1
    have HS1 := Lib.hid hs1
    clear hok K1 hb1 hb01 ho1 hs1 HSL
    go_wp2_with fail
    refine HCL.out.mono ?_
    rintro e w2 ⟨⟨r, vl, rfl, hfix, hrl, hown⟩, hb2⟩
    obtain ⟨al, cl, rfl⟩ := owns_shape hown
    have hfew := HOK.out.good.tree.few
    have HST := Lib.hid (show SBRel w0 u.es r (.slice al r.length cl) (.slice (some ⟨w.heap.size + 1, 0, none⟩) 0 0) (.int .i64 0) w2 from ⟨0, rfl, Nat.zero_le _, by
      have := HSZ.out
      exact owns_mono (by omega) (row_kept HO1.out hb2), owns_mono HB1.out.size hown, fun g hg hg2 => by
        have h5 : w.heap.size + 1 = g := Option.some.inj hg
        have h6 := (own_lt hown hg2).1
        have := HS1.out
        omega, below_step HB1.out hb2⟩)
    have HFIX := Lib.hid hfix
    clear hown hb2 HCL HO1 HS1 HB1 hfix q0 q1 q2 q3 q4 hne
    go_wp2
    go_loopw [3, 5] (fun v3 v5 wr => SBRel w0 u.es r (.slice al r.length cl) v3 v5 wr) (fun _ v5 _ => (u.es.length - (intOf v5).toNat))
    case atStart => exact HST.out
    case round =>
      obtain ⟨i, rfl, hi, ho, hl, hap, hb⟩ := hrel
      clear HST
      obtain ⟨ao, co, rfl⟩ := owns_shape ho
      have K1 := (hb.block _ (lt_of_block HK0.out)).trans HK0.out
      have q0 := cell_of_row _ w.heap.size 0 _ _ _ K1
      simp only [List.getElem?_toArray, List.getElem?_cons_zero] at q0
      have hsl := selTo_len u.es r i
      by_cases hlt : i < u.es.length
      · have hd : decide ((i : Int) < (u.es.length : Int)) = true := decide_eq_true (by omega)
        obtain ⟨b5, o5, vs5, ha5, hS5, hv5, hcc5, ax5, cx5, rfl, hI5⟩ := HR0.out wr hb i hlt
        rw [ha5] at q0
        have x0 : wr.cell? ⟨b5, o5 + i * 3, none⟩ = some (.int .i64 u.es[i].k) := hcc5 0 (by simp)
        have x1 : wr.cell? ⟨b5, o5 + i * 3 + 1, none⟩ = some (.string u.es[i].s) := hcc5 1 (by simp)
        rw [← expAt_lt hlt] at x0 x1
        have ht : (expAt u.es i).s = txtAt u.es i := rfl
        rw [ht] at x1
        have HSKIP := Lib.hid (fun (W : World) (hW : Below wr.heap.size wr W) (h : (expAt u.es i).k ≠ 1 ∨ txtAt u.es i ∉ r ∨ txtAt u.es i ∈ selTo u.es r i) => (⟨i + 1, by go_num, by omega, by rw [selTo_skip h]; exact row_kept ho hW, row_kept hl hW, hap, below_step hb hW⟩ : SBRel w0 u.es r (.slice al r.length cl) (.slice ao (selTo u.es r i).length co) (.int .i64 ((i : Int) + 1)) W))
        have hgb5 : b5 < wr.heap.size := cell_lt x0
        have hgw : w.heap.size < wr.heap.size := cell_lt q0
        by_cases hk1 : (expAt u.es i).k = 1
        · have ek : ((expAt u.es i).k == 1) = true := by simp [hk1]
          have HI1 := Lib.hid (specIn_any r (txtAt u.es i) al cl _ wr (own_txtsB hl) (fun b h => h) (by omega))
          have HI2 := Lib.hid (fun (W : World) (hW : Below wr.heap.size wr W) => specIn_any (selTo u.es r i) (txtAt u.es i) ao co _ W (own_txtsB (row_kept ho hW)) (fun b h => h) (by omega))
          have HPUT := Lib.hid (fun h2 h3 => selTo_put (es := u.es) (r := r) (i := i) hk1 h2 h3)
          have HO := Lib.hid ho
          have HL := Lib.hid hl
          have HAP := Lib.hid hap
          have HBB := Lib.hid hb
          clear ho hl hap hb K1 hcc5 hI5 hS5 hv5 ha5 ht hk1
          obtain ⟨kk, hkk⟩ : ∃ kk, (expAt u.es i).k = kk := ⟨_, rfl⟩
          rw [hkk] at x0 ek HSKIP
          clear hkk
          obtain ⟨tx, htx⟩ : ∃ tx, txtAt u.es i = tx := ⟨_, rfl⟩
          rw [htx] at x1 HI1 HI2 HPUT HSKIP
          clear htx
          obtain ⟨o2, ho2⟩ : ∃ o2, selTo u.es r i = o2 := ⟨_, rfl⟩
          rw [ho2] at HI2 HPUT HO HSKIP HAP hsl ⊢
          clear ho2
          go_wp2_with fail
          refine HI1.out.mono ?_
          rintro e9 wA ⟨⟨r1, rfl, hr1⟩, hbA⟩
          cases r1 with
          | false =>
            have HR := Lib.hid (HSKIP.out wA hbA (.inr (.inl (fun h => by have := hr1.2 h; cases this))))
            clear hr1 hbA HSKIP HI1
            go_wp2
            go_roundw
            case rel => exact HR.out
            case measure => (simp [intOf] <;> omega)
          | true =>
            have HM := Lib.hid (hr1.1 rfl)
            have c3 := (hbA.cell (p := ⟨w.heap.size, 0, none⟩) hgw).trans q0
            have c4 := (hbA.cell (p := ⟨b5, o5 + i * 3 + 1, none⟩) hgb5).trans x1
            have hAs := hbA.size
            have HBA := Lib.hid hbA
            clear hr1 hbA HI1 q0 x0 x1
            go_wp2_with fail
            refine (HI2.out wA HBA.out).mono ?_
            rintro e9 wB ⟨⟨r2, rfl, hr2⟩, hbB⟩
            have hbB' := below_step HBA.out hbB
            cases r2 with
            | true =>
              have HR := Lib.hid (HSKIP.out wB hbB' (.inr (.inr (hr2.1 rfl))))
              clear hr2 hbB hbB' HSKIP HI2
              go_wp2
              go_roundw
              case rel => exact HR.out
              case measure => (simp [intOf] <;> omega)
            | false =>
              have hno : tx ∉ o2 := fun h => by have := hr2.2 h; cases this
              have hoB := row_kept HO.out hbB'
              have hlB := row_kept HL.out hbB'
              have hb0B := below_step HBB.out hbB'
              obtain ⟨g', cap, w4, hrun, ho4, hb4, hk4, hor4⟩ := push_txt hoB tx (by omega) hb0B hb0B.size
              have HR := Lib.hid (show SBRel w0 u.es r (.slice al r.length cl) (.slice (some ⟨g', 0, none⟩) (o2.length + 1) cap) (.int .i64 ((i : Int) + 1)) w4 from ⟨i + 1, by go_num, by omega, by rw [HPUT.out HM.out hno]; exact ho4, row_push hk4 hlB HAP.out, fun g hg hg2 => by
                obtain rfl : g' = g := Option.some.inj hg
                rcases hor4 with h | h
                · exact HAP.out _ h hg2
                · have := (own_lt hlB hg2).2
                  omega, hb4⟩)
              have d3 := (hbB.cell (p := ⟨w.heap.size, 0, none⟩) (Nat.lt_of_lt_of_le hgw hAs)).trans c3
              have d4 := (hbB.cell (p := ⟨b5, o5 + i * 3 + 1, none⟩) (Nat.lt_of_lt_of_le hgb5 hAs)).trans c4
              have HRUN := Lib.hid hrun
              clear hr2 hno hrun ho4 hb4 hk4 hor4 hbB hbB' hoB hlB hb0B HI2 c3 c4 HSKIP
              go_wp2_with (first
                | (at_builtin
                   refine wpList_append_run rfl _ _ _ rfl rfl rfl HRUN.out ?_))
              go_roundw
              case rel => exact HR.out
              case measure => (simp [intOf] <;> omega)
        · have ek : ((expAt u.es i).k == 1) = false := by simp [hk1]
          have HR := Lib.hid (HSKIP.out wr (Below.refl _ _) (.inl hk1))
          clear HSKIP hk1 ho hl hap hb K1 hcc5 hI5 hS5 hv5 ha5
          generalize (expAt u.es i).k = kk at *
          go_wp2
          go_roundw
          case rel => exact HR.out
          case measure => (simp [intOf] <;> omega)
      · obtain rfl : i = u.es.length := by omega
        have hd : decide ((u.es.length : Int) < (u.es.length : Int)) = false := by simp
        have HP := Lib.hid (show BoundPost u w (.returned (.slice ao (selTo u.es r u.es.length).length co)) wr from ⟨⟨_, rfl, by
          rw [boundAns_ok HOK.out HFIX.out, ← selTo_all]
          exact owns_mono (by have := HSZ.out; omega) ho⟩, below_step HB0.out hb⟩)
        clear ho hl hap hb K1
        go_wp2
        go_ret
        exact HP.out
  · have hne := ruleAns_none hok
    have HP := Lib.hid (show BoundPost u w (.returned (.slice (some ⟨w.heap.size + 1, 0, none⟩) 0 0)) w1 from ⟨⟨_, rfl, by rw [boundAns_no hok]; exact owns_mono (by omega) ho1⟩, below_step HB0.out hb01⟩)
    generalize ruleAns u = A at *
    clear hok K1 hb1 hb01 ho1 HSL
    go_wp2
    go_ret
    exact HP.out

end Go.Proofs.YtilijbpbnlnhlaaGreat.Pr

namespace Go.Proofs.YtilijbpbnlnhlaaGreat.Pr
open Go Go.RowKit Go.Maps Go.WideMaps Go.Sort Go.Proofs
variable {K : Bool}

/-! ### Which exps may be greater than what they are made of -/
theorem kids_kind {es ls : List It} (h : Good es ls) {m : Nat} (hm : m < es.length) (hne : (expAt es m).xs ≠ []) : (expAt es m).k = 4 ∨ isSumAt es m = true := by
  have hk := h.kind es[m] (List.getElem_mem hm)
  rw [← expAt_lt hm] at hk
  unfold kindOk at hk
  simp only [Bool.or_eq_true, Bool.and_eq_true, decide_eq_true_eq] at hk
  rcases hk with (⟨_, h1⟩ | h1) | ⟨h1, _⟩
  · exact absurd (by cases hx : (expAt es m).xs with
      | nil => rfl
      | cons a l => rw [hx] at h1; cases h1) hne
  · exact .inl h1
  · exact .inr h1
theorem In.trans {es : List It} {en : It → Bool} {n m p : Nat} (h : In es en n m) (h2 : In es en m p) : In es en n p := by
  induction h2 with
  | self => exact h
  | kid _ hx ih => exact .kid ih hx
theorem In.kids {es : List It} {n m : Nat} (h : In es allE n m) (hne : m ≠ n) : (expAt es n).xs ≠ [] := by
  induction h with
  | self => exact absurd rfl hne
  | @kid p x hp hx ih =>
    by_cases e : p = n
    · subst e
      rw [kidsE_all] at hx
      intro h0
      rw [h0] at hx
      simp at hx
    · exact ih e
def MakesAt (es : List It) (m : Nat) : Prop := isSumAt es m = true ∨ ((expAt es m).k = 4 ∧ varsIn es m ≠ [])
def Makes (es : List It) (n : Nat) : Prop := ∃ m, In es allE n m ∧ MakesAt es m
theorem isSumAt_iff {es : List It} {m : Nat} : isSumAt es m = true ↔ 5 ≤ (expAt es m).k ∧ (expAt es m).k ≤ 7 := by
  show (decide (5 ≤ (expAt es m).k) && decide ((expAt es m).k ≤ 7)) = true ↔ _
  rw [Bool.and_eq_true, decide_eq_true_eq, decide_eq_true_eq]
theorem makes_iff {es ls : List It} (G : Good es ls) {n : Nat} (hn : n < es.length) : Makes es n ↔ (∃ m, In es allE n m ∧ 5 ≤ (expAt es m).k ∧ (expAt es m).k ≤ 7) ∨ ((expAt es n).k = 4 ∧ varsIn es n ≠ []) := by
  have T := G.tree
  constructor
  · rintro ⟨m, hm, h | ⟨h1, h2⟩⟩
    · exact .inl ⟨m, hm, isSumAt_iff.1 h⟩
    · have hv : varsIn es n ≠ [] := by
        obtain ⟨s, hs⟩ := List.exists_mem_of_ne_nil _ h2
        have hml : m < es.length := by have := hm.le T hn; omega
        obtain ⟨p, hp, h3⟩ := (mem_varsIn T hml s).1 hs
        exact List.ne_nil_of_mem ((mem_varsIn T hn s).2 ⟨p, hm.trans hp, h3⟩)
      by_cases e : m = n
      · subst e; exact .inr ⟨h1, h2⟩
      · rcases kids_kind G hn (hm.kids e) with h4 | h5
        · exact .inr ⟨h4, hv⟩
        · exact .inl ⟨n, .self, isSumAt_iff.1 h5⟩
  · rintro (⟨m, hm, h⟩ | h)
    · exact ⟨m, hm, .inl (isSumAt_iff.2 h)⟩
    · exact ⟨n, .self, .inr h⟩

/-! ### What is Old is Bound -/
theorem args_of {u : Ru} (h : RuleOk u) : ArgsIn u.es u.bd := fun l hl => by
  have hx : ∀ x ∈ l.xs, 0 ≤ x ∧ x < (u.es.length : Int) := fun x hx => h.good.arg l (by simp [hl]) x hx
  refine ⟨fun x hx' => by have := hx x hx'; omega, fun h3 => ?_⟩
  have h2 : l.xs.length = 2 := by
    have := h.body l hl
    unfold litOk at this
    rw [h3] at this
    simpa using this
  have g : ∀ k (hk : k < l.xs.length), (l.xs.getD k 0).toNat < u.es.length := fun k hk => by
    rw [List.getD_eq_getElem?_getD, List.getElem?_eq_getElem hk]
    have := hx l.xs[k] (List.getElem_mem hk)
    show l.xs[k].toNat < _
    omega
  exact ⟨g 0 (by omega), g 1 (by omega)⟩
theorem pre_fix {a b c : List ByteArray} (h1 : ∃ r, b = a ++ r) (h2 : ∃ r, c = b ++ r) (h : c = a) : b = a := by
  obtain ⟨r, rfl⟩ := h1
  obtain ⟨s, hs⟩ := h2
  have h3 := congrArg List.length (h.symm.trans hs)
  rw [List.length_append, List.length_append] at h3
  have : r = [] := List.length_eq_zero_iff.1 (by omega)
  rw [this]; simp
theorem fold_fix {f : List ByteArray → It → List ByteArray} (h : ∀ a, Grow (fun o => f o a)) : ∀ (l : List It) (r : List ByteArray), l.foldl f r = r → ∀ a ∈ l, f r a = r
  | [], _, _, _, ha => by simp at ha
  | a :: l, r, hr, b, hb => by
    have e : f r a = r := pre_fix (h a r) (Grow.foldl h l (f r a)) hr
    rcases List.mem_cons.1 hb with rfl | hb
    · exact e
    · refine fold_fix h l r ?_ b hb
      have h2 : l.foldl f (f r a) = r := hr
      rwa [e] at h2
theorem side_closed {es : List It} {r : List ByteArray} {a b : Nat} (h : eqSide K es r a b = r) (hs : SideOk K es r a b) : ∀ x ∈ varsIn es b, x ∈ r := fun x hx => by
  unfold eqSide at h
  rw [if_pos hs] at h
  rw [← h]
  exact mem_addAll.2 (.inr hx)
theorem fix_closed {es bd : List It} {r : List ByteArray} (h : passB K es bd r = r) {l : It} (hl : l ∈ bd) (he : isEq l) :
    (SideOk K es r (argAt l 0) (argAt l 1) → ∀ x ∈ varsIn es (argAt l 1), x ∈ r) ∧ (SideOk K es r (argAt l 1) (argAt l 0) → ∀ x ∈ varsIn es (argAt l 0), x ∈ r) := by
  have h1 := fold_fix (fun l => grow_eqLit (K := K) es l) bd r h l hl
  unfold eqLit at h1
  rw [if_pos he] at h1
  have h2 : eqSide K es r (argAt l 0) (argAt l 1) = r := pre_fix (grow_eqSide (K := K) es (argAt l 0) (argAt l 1) r) (grow_eqSide (K := K) es (argAt l 1) (argAt l 0) _) h1
  rw [h2] at h1
  exact ⟨side_closed h2, side_closed h1⟩
theorem fold_in {f : List ByteArray → It → List ByteArray} {r : List ByteArray} : ∀ (l : List It), (∀ a ∈ l, ∀ o, (∀ x ∈ o, x ∈ r) → ∀ x ∈ f o a, x ∈ r) → ∀ o, (∀ x ∈ o, x ∈ r) → ∀ x ∈ l.foldl f o, x ∈ r
  | [], _, _, ho => ho
  | a :: l, h, o, ho => fold_in l (fun b hb => h b (List.mem_cons_of_mem _ hb)) (f o a) (h a (by simp) o ho)
theorem var_alone {es ls : List It} (G : Good es ls) {a m : Nat} (ha : a < es.length) (h1 : (expAt es a).k = 1) (hm : In es allE a m) : m = a := by
  by_cases e : m = a
  · exact e
  · rcases kids_kind G ha (hm.kids e) with h | h
    · omega
    · have := isSumAt_iff.1 h; omega
theorem side_up {es ls : List It} (G : Good es ls) {o r : List ByteArray} (ho : ∀ x ∈ o, x ∈ r) {a b : Nat} (ha : a < es.length) (h : SideOk true es o a b) : SideOk false es r a b := by
  obtain ⟨⟨h1, h2⟩, h3⟩ := h
  refine ⟨⟨fun m hm => ?_, fun v hv => ?_⟩, h3⟩
  · rw [var_alone G ha h1 hm, h1]; omega
  · obtain ⟨m, hm, _, rfl⟩ := (mem_varsIn G.tree ha v).1 hv
    rw [var_alone G ha h1 hm]
    exact ho _ h2
theorem eqSide_in {es ls : List It} (G : Good es ls) {o r : List ByteArray} (ho : ∀ x ∈ o, x ∈ r) {a b : Nat} (ha : a < es.length) (hc : SideOk false es r a b → ∀ x ∈ varsIn es b, x ∈ r) : ∀ x ∈ eqSide true es o a b, x ∈ r := fun x hx => by
  unfold eqSide at hx
  split at hx
  · rename_i hs
    rcases mem_addAll.1 hx with h | h
    · exact ho x h
    · exact hc (side_up G ho ha hs) x h
  · exact ho x hx
theorem pass_in {u : Ru} (hok : RuleOk u) {o r : List ByteArray} (hr : passB false u.es u.bd r = r) (ho : ∀ x ∈ o, x ∈ r) : ∀ x ∈ passB true u.es u.bd o, x ∈ r := by
  refine fold_in u.bd (fun l hl o ho x hx => ?_) o ho
  unfold eqLit at hx
  split at hx
  · rename_i he
    obtain ⟨h1, h2⟩ := fix_closed hr hl he
    obtain ⟨g0, g1⟩ := (args_of hok l hl).2 he.1
    exact eqSide_in hok.good (eqSide_in hok.good ho g0 h1) g1 h2 x hx
  · exact ho x hx
theorem passN_start (K : Bool) (es bd : List It) : ∀ k, ∃ r, passN K es bd k = atomsB es bd ++ r
  | 0 => ⟨[], by simp [passN]⟩
  | k + 1 => by
    obtain ⟨r, hr⟩ := passN_start K es bd k
    obtain ⟨s, hs⟩ := grow_pass (K := K) es bd (passN K es bd k)
    exact ⟨r ++ s, by show passB K es bd (passN K es bd k) = _; rw [hs, hr, List.append_assoc]⟩
theorem old_bound {u : Ru} (hok : RuleOk u) {ro rb : List ByteArray} (ho : Fix true u.es u.bd ro) (hb : Fix false u.es u.bd rb) : ∀ x ∈ ro, x ∈ rb := by
  obtain ⟨k, rfl, hk0⟩ := ho
  clear hk0
  obtain ⟨j, hj, hfix⟩ := hb
  induction k with
  | zero =>
    obtain ⟨r, hr⟩ := passN_start false u.es u.bd j
    intro x hx
    rw [hj, hr]
    exact List.mem_append_left _ hx
  | succ k ih => exact pass_in hok hfix ih
theorem sel_names (es : List It) (r : List ByteArray) (x : ByteArray) : x ∈ (sel es r).map Prod.fst ↔ x ∈ allNames es ∧ x ∈ r := by
  rw [List.mem_map]
  constructor
  · rintro ⟨p, hp, rfl⟩
    exact ⟨List.mem_map.2 ⟨p, (mem_sel.1 hp).1, rfl⟩, (mem_sel.1 hp).2⟩
  · rintro ⟨h1, h2⟩
    obtain ⟨p, hp, rfl⟩ := List.mem_map.1 h1
    exact ⟨p, mem_sel.2 ⟨hp, h2⟩, rfl⟩
theorem sel_nodup (es : List It) (r : List ByteArray) : ((sel es r).map Prod.fst).Nodup := List.pairwise_map.2 ((allNamed_apart es).sublist (sel_sub es r))
theorem fewer_iff {u : Ru} (hok : RuleOk u) {ro rb : List ByteArray} (ho : Fix true u.es u.bd ro) (hb : Fix false u.es u.bd rb) : (sel u.es ro).length < (sel u.es rb).length ↔ ¬ ∀ x ∈ namesAns false u, x ∈ namesAns true u := by
  rw [boundAns_ok hok ho, boundAns_ok hok hb]
  have e1 : (sel u.es ro).length = ((sel u.es ro).map Prod.fst).length := by simp
  have e2 : (sel u.es rb).length = ((sel u.es rb).map Prod.fst).length := by simp
  rw [e1, e2]
  constructor
  · intro hlt hall
    have := sub_len (sel_nodup u.es rb) (sel_nodup u.es ro) hall
    omega
  · intro hne
    obtain ⟨x, hx⟩ := Classical.not_forall.1 hne
    obtain ⟨h1, h2⟩ := Classical.not_imp.1 hx
    have h3 : (x :: (sel u.es ro).map Prod.fst).Nodup := List.nodup_cons.2 ⟨h2, sel_nodup u.es ro⟩
    have := sub_len h3 (sel_nodup u.es rb) (fun y hy => by
      rcases List.mem_cons.1 hy with rfl | hy
      · exact h1
      · have h4 := (sel_names _ _ _).1 hy
        exact (sel_names _ _ _).2 ⟨h4.1, old_bound hok ho hb y h4.2⟩)
    rw [List.length_cons] at this
    omega

open Classical in
/-- What Grows answers. -/
noncomputable def growsAns (u : Ru) : Bool := decide (RuleOk u ∧ ((¬ ∀ x ∈ namesAns false u, x ∈ namesAns true u) ∨ ∃ a ∈ u.hd.xs, Makes u.es a.toNat))
theorem growsAns_iff {u : Ru} : growsAns u = true ↔ RuleOk u ∧ ((¬ ∀ x ∈ namesAns false u, x ∈ namesAns true u) ∨ ∃ a ∈ u.hd.xs, Makes u.es a.toNat) := by
  classical
  unfold growsAns
  rw [decide_eq_true_eq]
def GrowsPost (u : Ru) (w : World) (e : Ending) (w' : World) : Prop := e = .returned (.bool (growsAns u)) ∧ Below w.heap.size w w'
theorem growsAns_yes {u : Ru} (h : RuleOk u) (h2 : (¬ ∀ x ∈ namesAns false u, x ∈ namesAns true u) ∨ ∃ a ∈ u.hd.xs, Makes u.es a.toNat) : growsAns u = true := growsAns_iff.2 ⟨h, h2⟩
theorem growsAns_no {u : Ru} (h : ¬ (RuleOk u ∧ ((¬ ∀ x ∈ namesAns false u, x ∈ namesAns true u) ∨ ∃ a ∈ u.hd.xs, Makes u.es a.toNat))) : growsAns u = false := by
  cases hg : growsAns u with
  | false => rfl
  | true => exact absurd (growsAns_iff.1 hg) h

/-! ### The program -/
theorem drewB {B : Nat} {a w : World} (h : Below B a w) : Below B a w.drew := ⟨h.os, h.tape, h.output, h.size, h.block⟩
theorem wp_len_own {P : Program} {w : World} {o : Oper} {a : Act} {Kk : Act → World → Prop} {Q : Exit → Act → World → Prop} {H : Type} (m : Operand) (t : TypeId) (hop : o.op = Op.call { callee := Callee.builtin Builtin.len, args := #[m], argTypes := #[t] })
    (k e : TypeId) (ht : P.underlying t = some (.map k e)) (R : Value → Option (DataW H × List MemPlace)) (b n : Nat) (D : DataW H) (hm : a.eval m = .map (some b)) (hown : w.ownsMap P k R b n D)
    (hK : Kk (a.put o.dst (.int .i64 (Maps.size D))) w) : o.wp P a w Kk Q := by
  unfold Oper.wp
  simp [execOp, hop, resolve, invoke, builtin, hm, hown.len ht o.type, Result.andThen]
  exact hK
set_option maxRecDepth 100000 in
set_option maxHeartbeats 2000000 in
theorem hasName_any (u : Ru) (n : Nat) (vs : List Value) (S : Nat → Prop) (w : World) (hF : FRu S w vs u) (hS : ∀ b, S b → b < w.heap.size) (T : TreeOk u.es) (hw : u.wt ≤ 1048576) (hn : n < u.es.length) :
    Calls Tryz.prog 77 #[.agg vs.toArray, .int .i64 (n : Int)] w fun e w' => (∃ r : Bool, e = .returned (.bool r) ∧ (r = true ↔ varsIn u.es n ≠ [])) ∧ Below w.heap.size w w' := by
  have hF0 := hF
  obtain ⟨aes, ces, ahd, chd, abd, cbd, rfl, r0, r1, r2⟩ := hF
  have hb0 : Below w.heap.size w (w.alloc (.cells #[.slice aes u.es.length ces, .int .i64 u.hd.k, .string u.hd.s, .slice ahd u.hd.xs.length chd, .slice abd u.bd.length cbd] 36)) := (Below.refl _ _).alloc (Nat.le_refl _) _
  have k0 := heap_alloc_new w (.cells #[.slice aes u.es.length ces, .int .i64 u.hd.k, .string u.hd.s, .slice ahd u.hd.xs.length chd, .slice abd u.bd.length cbd] 36)
  obtain ⟨w0, hw0⟩ : ∃ w0, w.alloc (.cells #[.slice aes u.es.length ces, .int .i64 u.hd.k, .string u.hd.s, .slice ahd u.hd.xs.length chd, .slice abd u.bd.length cbd] 36) = w0 := ⟨_, rfl⟩
  rw [hw0] at hb0 k0
  have hfew := T.few
  have HF := Lib.hid (fun (W : World) (h : Below w.heap.size w W) => FRu_keeps.1 _ _ _ _ _ hF0 (Same.below hS h))
  have HS := Lib.hid (fun (W : World) (h : Below w.heap.size w W) (b : Nat) (hb : S b) => Nat.lt_of_lt_of_le (hS b hb) h.size)
  have HPO := Lib.hid (fun (W : World) (h : Below w0.heap.size w0 W) => partsOf_any u n _ S W (HF.out W (below_step hb0 h)) (HS.out W (below_step hb0 h)) T hn)
  have hpm : ∀ m ∈ parts u.es allE n, m < u.es.length := fun m hm => by have := ((mem_parts T hn).1 hm).le T hn; omega
  have hpl : (parts u.es allE n).length ≤ 60 := by
    unfold parts
    refine Nat.le_trans (List.length_filter_le _ _) ?_
    simp; omega
  have HNA := Lib.hid (fun (W : World) (h : Below w0.heap.size w0 W) (a : Option Addr) (c : Nat) (hi : IntsIn (fun b => b < W.heap.size) W a (ints (parts u.es allE n))) => namesAt_any u (parts u.es allE n) a c _ S _ W (HF.out W (below_step hb0 h)) (HS.out W (below_step hb0 h)) hw hi (fun b h => h) hpm (by omega))
  have HB0 := Lib.hid hb0
  have HK0 := Lib.hid k0
  have hvl : (varsIn u.es n).length = (named u.es (parts u.es allE n)).length := by rw [show varsIn u.es n = (named u.es (parts u.es allE n)).map Prod.fst from (named_names _ _).symm, List.length_map]
  have q0 := cell_of_row _ w.heap.size 0 _ _ _ k0
  have q1 := cell_of_row _ w.heap.size 1 _ _ _ k0
  have q2 := cell_of_row _ w.heap.size 2 _ _ _ k0
  have q3 := cell_of_row _ w.heap.size 3 _ _ _ k0
  have q4 := cell_of_row _ w.heap.size 4 _ _ _ k0
  simp only [List.getElem?_toArray, List.getElem?_cons_zero, List.getElem?_cons_succ] at q0 q1 q2 q3 q4
  clear hF0 r0 r1 r2 hS hb0 k0 hpm
  have HSS := Lib.hid (show ∀ W' : World, Below w0.heap.size w0 W' → (fun w' => w'.cell? ⟨w.heap.size, 0, none⟩ = some (.slice aes u.es.length ces) ∧ w'.cell? ⟨w.heap.size, 1, none⟩ = some (.int .i64 u.hd.k) ∧ w'.cell? ⟨w.heap.size, 2, none⟩ = some (.string u.hd.s) ∧ w'.cell? ⟨w.heap.size, 3, none⟩ = some (.slice ahd u.hd.xs.length chd) ∧ w'.cell? ⟨w.heap.size, 4, none⟩ = some (.slice abd u.bd.length cbd) ∧ Below w0.heap.size w0 w') W' from fun W' hW => by
    obtain k1 := (hW.block _ (lt_of_block HK0.out)).trans HK0.out
    have q0 := cell_of_row _ w.heap.size 0 _ _ _ k1
    have q1 := cell_of_row _ w.heap.size 1 _ _ _ k1
    have q2 := cell_of_row _ w.heap.size 2 _ _ _ k1
    have q3 := cell_of_row _ w.heap.size 3 _ _ _ k1
    have q4 := cell_of_row _ w.heap.size 4 _ _ _ k1
    simp only [List.getElem?_toArray, List.getElem?_cons_zero, List.getElem?_cons_succ] at q0 q1 q2 q3 q4
    exact ⟨q0, q1, q2, q3, q4, hW⟩)
  have HVL := Lib.hid hvl
  clear hvl q0 q1 q2 q3 q4
  go_enter Tryz.func77, Tryz.ntmps77
  go_wp2
  refine wp_region_held_drew (S := (fun w' => w'.cell? ⟨w.heap.size, 0, none⟩ = some (.slice aes u.es.length ces) ∧ w'.cell? ⟨w.heap.size, 1, none⟩ = some (.int .i64 u.hd.k) ∧ w'.cell? ⟨w.heap.size, 2, none⟩ = some (.string u.hd.s) ∧ w'.cell? ⟨w.heap.size, 3, none⟩ = some (.slice ahd u.hd.xs.length chd) ∧ w'.cell? ⟨w.heap.size, 4, none⟩ = some (.slice abd u.bd.length cbd) ∧ Below w0.heap.size w0 w')) (by kernel_rfl) (HSS.out _ (drewB (Below.refl _ _))) (fun hHeld => ?_)
  have hc : Below w0.heap.size w0 w0.drew := drewB (Below.refl _ _)
  refine wpAnyH_take (i := 0) (v := ?_) rfl (by kernel_rfl) (by kernel_rfl) (by kernel_rfl) (fun _ _ _ h => h) (Or.inl ⟨by rfl, ?_⟩) (by assumption) ?_
  rotate_left
  · (intro w9 hSw; obtain ⟨s0, s1, s2, s3, s4, s5⟩ := hSw; go_simp; try with_reducible rfl)
  try simp only [Act.put, List.getElem_toArray, List.getElem_cons_zero, List.setIfInBounds_toArray, List.set_cons_zero, List.set_cons_succ]
  refine wpAnyH_take (i := 1) (v := ?_) rfl (by kernel_rfl) (by kernel_rfl) (by kernel_rfl) (fun _ _ _ h => h) (Or.inl ⟨by rfl, ?_⟩) (by assumption) ?_
  rotate_left
  · (intro w9 hSw; obtain ⟨s0, s1, s2, s3, s4, s5⟩ := hSw; go_simp; try with_reducible rfl)
  try simp only [Act.put, List.getElem_toArray, List.getElem_cons_zero, List.getElem_cons_succ, List.setIfInBounds_toArray, List.set_cons_zero, List.set_cons_succ]
  refine wpAnyH_take (i := 2) (v := ?_) rfl (by kernel_rfl) (by kernel_rfl) (by kernel_rfl) (fun _ _ _ h => h) (Or.inl ⟨by rfl, ?_⟩) (by assumption) ?_
  rotate_left
  · (intro w9 hSw; obtain ⟨s0, s1, s2, s3, s4, s5⟩ := hSw; go_simp; try with_reducible rfl)
  try simp only [Act.put, List.getElem_toArray, List.getElem_cons_zero, List.getElem_cons_succ, List.setIfInBounds_toArray, List.set_cons_zero, List.set_cons_succ]
  refine wpAnyH_ready (rs := [3]) (by kernel_rfl) (by simp) ?_
  refine AllReadyH.cons rfl (fun K hK => ?_) AllReadyH.nil
  go_simp
  refine (HPO.out _ hc).mono ?_
  rintro e7 w7 ⟨⟨g7, c7, rfl, ho7⟩, hb7⟩
  have hcn := below_step hc hb7
  have HN7 := Lib.hid (HNA.out w7 hcn _ c7 (own_intsW rfl ho7))
  clear hc hb7 ho7
  go_wp2_with fail
  refine hK.out _ _ (HSS.out _ hcn) (fun _ => ?_)
  clear hK K
  try simp only [Act.put, List.getElem_toArray, List.getElem_cons_zero, List.getElem_cons_succ, List.setIfInBounds_toArray, List.set_cons_zero, List.set_cons_succ]
  refine wpAnyH_ready (rs := [4]) (by kernel_rfl) (by simp) ?_
  refine AllReadyH.cons rfl (fun K hK => ?_) AllReadyH.nil
  go_simp
  refine HN7.out.mono ?_
  rintro e8 w8 ⟨⟨B8, k8, D8, rfl, hB8, hk8, hN8, ho8⟩, hb8⟩
  have hcm := below_step hcn hb8
  have HSZ := Lib.hid (hN8.size ho8 (named_apart _ _))
  have HO8 := Lib.hid ho8
  clear hcn hb8 ho8 hN8 hB8 hk8 HN7
  go_wp2_with fail
  refine hK.out _ _ (HSS.out _ hcm) (fun _ => ?_)
  clear hK K
  try simp only [Act.put, List.getElem_toArray, List.getElem_cons_zero, List.getElem_cons_succ, List.setIfInBounds_toArray, List.set_cons_zero, List.set_cons_succ]
  refine wpAnyH_ready (rs := [5]) (by kernel_rfl) (by simp) ?_
  refine AllReadyH.cons rfl (fun K hK => ?_) AllReadyH.nil
  refine wp_len_own _ 55 rfl 9 3 Tryz.underlying55 _ B8 k8 D8 rfl HO8.out ?_
  rw [HSZ.out]
  refine hK.out _ _ (HSS.out _ hcm) (fun _ => ?_)
  clear hK K
  try simp only [Act.put, List.getElem_toArray, List.getElem_cons_zero, List.getElem_cons_succ, List.setIfInBounds_toArray, List.set_cons_zero, List.set_cons_succ]
  refine wpAnyH_take (i := 6) (v := ?_) rfl (by kernel_rfl) (by kernel_rfl) (by kernel_rfl) (fun _ _ _ h => h) (Or.inl ⟨by rfl, ?_⟩) (by assumption) ?_
  rotate_left
  · (intro w9 hSw; obtain ⟨s0, s1, s2, s3, s4, s5⟩ := hSw; go_simp; try with_reducible rfl)
  try simp only [Act.put, List.getElem_toArray, List.getElem_cons_zero, List.getElem_cons_succ, List.setIfInBounds_toArray, List.set_cons_zero, List.set_cons_succ]
  refine wpAnyH_take (i := 7) (v := ?_) rfl (by kernel_rfl) (by kernel_rfl) (by kernel_rfl) (fun _ _ _ h => h) (Or.inl ⟨by rfl, ?_⟩) (by assumption) ?_
  rotate_left
  · (intro w9 hSw; obtain ⟨s0, s1, s2, s3, s4, s5⟩ := hSw; go_simp; try with_reducible rfl)
  try simp only [Act.put, List.getElem_toArray, List.getElem_cons_zero, List.getElem_cons_succ, List.setIfInBounds_toArray, List.set_cons_zero, List.set_cons_succ]
  refine wpAnyH_done (by kernel_rfl) ?_ _
  obtain ⟨L, hL⟩ : ∃ L, (named u.es (parts u.es allE n)).length = L := ⟨_, rfl⟩
  rw [hL] at HVL ⊢
  have HB2 := Lib.hid (below_step HB0.out hcm)
  clear hL hcm HSZ HO8 HSS HPO HNA
  go_wp2_with fail
  go_ret
  refine ⟨⟨_, rfl, ?_⟩, HB2.out⟩
  have hv := HVL.out
  rw [decide_eq_true_eq]
  constructor
  · intro h h0
    rw [h0] at hv
    simp at hv
    omega
  · intro h
    have := List.length_pos_iff.2 h
    omega

def MTO (w0 : World) (es : List It) (xs : List Int) (v : Value) (wr : World) : Prop := ∃ i : Nat, v = .int .i64 (i : Int) ∧ i ≤ xs.length ∧ (∀ a ∈ xs.take i, ¬ Makes es a.toNat) ∧ Below w0.heap.size w0 wr
def MTI (w2 : World) (es : List It) (P : List Nat) (v : Value) (wr : World) : Prop := ∃ k : Nat, v = .int .i64 (k : Int) ∧ k ≤ P.length ∧ (∀ m ∈ P.take k, ¬ MakesAt es m) ∧ Below w2.heap.size w2 wr

set_option maxRecDepth 100000 in
set_option maxHeartbeats 4000000 in
theorem makesTerms_any (u : Ru) (hok : RuleOk u) (vs : List Value) (S : Nat → Prop) (w : World) (hF : FRu S w vs u) (hS : ∀ b, S b → b < w.heap.size) (hw : u.wt ≤ 1048576) :
    Calls Tryz.prog 63 #[.agg vs.toArray] w fun e w' => (∃ r : Bool, e = .returned (.bool r) ∧ (r = true ↔ ∃ a ∈ u.hd.xs, Makes u.es a.toNat)) ∧ Below w.heap.size w w' := by
  have hF0 := hF
  obtain ⟨aes, ces, ahd, chd, abd, cbd, rfl, r0, r1, r2⟩ := hF
  have hb0 : Below w.heap.size w (w.alloc (.cells #[.slice aes u.es.length ces, .int .i64 u.hd.k, .string u.hd.s, .slice ahd u.hd.xs.length chd, .slice abd u.bd.length cbd] 36)) := (Below.refl _ _).alloc (Nat.le_refl _) _
  have k0 := heap_alloc_new w (.cells #[.slice aes u.es.length ces, .int .i64 u.hd.k, .string u.hd.s, .slice ahd u.hd.xs.length chd, .slice abd u.bd.length cbd] 36)
  obtain ⟨w0, hw0⟩ : ∃ w0, w.alloc (.cells #[.slice aes u.es.length ces, .int .i64 u.hd.k, .string u.hd.s, .slice ahd u.hd.xs.length chd, .slice abd u.bd.length cbd] 36) = w0 := ⟨_, rfl⟩
  rw [hw0] at hb0 k0
  have T := hok.good.tree
  have hfew := T.few
  have hxl : u.hd.xs.length ≤ 1048576 := by have := hw; unfold Ru.wt It.wt wtIntS at this; omega
  have HF := Lib.hid (fun (W : World) (h : Below w.heap.size w W) => FRu_keeps.1 _ _ _ _ _ hF0 (Same.below hS h))
  have HS := Lib.hid (fun (W : World) (h : Below w.heap.size w W) (b : Nat) (hb : S b) => Nat.lt_of_lt_of_le (hS b hb) h.size)
  have HR0 := Lib.hid (fun (W : World) (h : Below w.heap.size w W) => RowIn.kept FIt_keeps r0 (Same.below hS h))
  have HR1 := Lib.hid (fun (W : World) (h : Below w.heap.size w W) => r1.kept (Same.below hS h))
  have HARG := Lib.hid (fun x (hx : x ∈ u.hd.xs) => hok.good.arg u.hd (by simp) x hx)
  have HOK := Lib.hid hok
  have HT := Lib.hid T
  have HW := Lib.hid hw
  have HB0 := Lib.hid hb0
  have HK0 := Lib.hid k0
  have q0 := cell_of_row _ w.heap.size 0 _ _ _ k0
  have q1 := cell_of_row _ w.heap.size 1 _ _ _ k0
  have q2 := cell_of_row _ w.heap.size 2 _ _ _ k0
  have q3 := cell_of_row _ w.heap.size 3 _ _ _ k0
  have q4 := cell_of_row _ w.heap.size 4 _ _ _ k0
  simp only [List.getElem?_toArray, List.getElem?_cons_zero, List.getElem?_cons_succ] at q0 q1 q2 q3 q4
  clear hF0 r0 r1 r2 hS hb0 k0 hok T hw
  go_enter Tryz.func63, Tryz.ntmps63
  go_wp2
  clear q0 q1 q2 q3 q4
  go_loopw [12] (fun v wr => MTO w0 u.es u.hd.xs v wr) (fun v _ => (u.hd.xs.length - (intOf v).toNat))
  case atStart => exact ⟨0, rfl, Nat.zero_le _, by simp, Below.refl _ _⟩
  case round =>
    obtain ⟨i, rfl, hi, hall, hb⟩ := hrel
    by_cases hlt : i < u.hd.xs.length
    · have hb1 := below_step HB0.out hb
      have K1 := (hb.block _ (lt_of_block HK0.out)).trans HK0.out
      have q0 := cell_of_row _ w.heap.size 0 _ _ _ K1
      have q1 := cell_of_row _ w.heap.size 1 _ _ _ K1
      have q2 := cell_of_row _ w.heap.size 2 _ _ _ K1
      have q3 := cell_of_row _ w.heap.size 3 _ _ _ K1
      have q4 := cell_of_row _ w.heap.size 4 _ _ _ K1
      simp only [List.getElem?_toArray, List.getElem?_cons_zero, List.getElem?_cons_succ] at q0 q1 q2 q3 q4
      obtain ⟨b4, o4, hax, hS4, y0⟩ := HR1.out wr hb1 i hlt
      have hin := HARG.out u.hd.xs[i] (List.getElem_mem hlt)
      obtain ⟨n, hn⟩ := Int.eq_ofNat_of_zero_le hin.1
      have htk := List.take_succ_eq_append_getElem hlt
      have hmem := List.getElem_mem hlt
      rw [hn] at y0 hin htk hmem
      have hnl : n < u.es.length := by omega
      have HPO := Lib.hid (partsOf_any u n _ S wr (HF.out wr hb1) (HS.out wr hb1) HT.out hnl)
      have HALL := Lib.hid hall
      have HTK := Lib.hid htk
      have HMEM := Lib.hid hmem
      have HB := Lib.hid hb
      have HNL := Lib.hid hnl
      have hg0 : w.heap.size < wr.heap.size := lt_of_block K1
      subst hax
      clear hall hb hb1 K1 hin hn htk hmem hnl hS4
      go_wp2_with fail
      refine HPO.out.mono ?_
      rintro e w2 ⟨⟨g, cap, rfl, hown⟩, hb2⟩
      have HPI := Lib.hid (fun m => mem_parts (en := allE) HT.out HNL.out (m := m))
      have hpl : (parts u.es allE n).length ≤ 60 := by
        unfold parts
        refine Nat.le_trans (List.length_filter_le _ _) ?_
        have := HNL.out
        simp; omega
      have HII := Lib.hid (own_ints hown)
      have HB2 := Lib.hid (below_step HB.out hb2)
      obtain ⟨P, hP⟩ : ∃ P, parts u.es allE n = P := ⟨_, rfl⟩
      rw [hP] at HPI HII hpl ⊢
      clear hown hb2 hP HPO q0 q1 q2 q3 q4 y0
      have hPn : (u.hd.xs.length : Int) ≤ 1048576 := by omega
      go_wp2
      go_loopw [20] (fun v wr => MTI w2 u.es P v wr) (fun v _ => (P.length - (intOf v).toNat))
      case atStart => exact ⟨0, rfl, Nat.zero_le _, by simp, Below.refl _ _⟩
      case round =>
        obtain ⟨k, rfl, hk, hall, hb⟩ := hrel
        by_cases hkl : k < P.length
        · have hb3 := below_step HB2.out hb
          have hb4 := below_step HB0.out hb3
          have K1 := (hb3.block _ (lt_of_block HK0.out)).trans HK0.out
          have q0 := cell_of_row _ w.heap.size 0 _ _ _ K1
          have q1 := cell_of_row _ w.heap.size 1 _ _ _ K1
          have q2 := cell_of_row _ w.heap.size 2 _ _ _ K1
          have q3 := cell_of_row _ w.heap.size 3 _ _ _ K1
          have q4 := cell_of_row _ w.heap.size 4 _ _ _ K1
          simp only [List.getElem?_toArray, List.getElem?_cons_zero, List.getElem?_cons_succ] at q0 q1 q2 q3 q4
          obtain ⟨b6, o6, ha6, _, z0⟩ := HII.out.kept (Same.below (fun b h => h.2) hb) k (by rw [ints_len]; exact hkl)
          cases ha6
          have hgi : (ints P)[k]'(by rw [ints_len]; exact hkl) = (P[k] : Int) := by simp [ints]
          rw [hgi, Nat.zero_add] at z0
          have htk := List.take_succ_eq_append_getElem hkl
          have hmem := List.getElem_mem hkl
          obtain ⟨m, hm⟩ : ∃ m, P[k] = m := ⟨_, rfl⟩
          rw [hm] at z0 htk hmem
          have hIn := (HPI.out m).1 hmem
          have hml : m < u.es.length := by have := hIn.le HT.out HNL.out; have := HNL.out; omega
          obtain ⟨b5, o5, vs5, ha5, hS5, hv5, hcc5, ax5, cx5, rfl, hI5⟩ := HR0.out wr hb4 m hml
          subst ha5
          have x0 : wr.cell? ⟨b5, o5 + m * 3, none⟩ = some (.int .i64 u.es[m].k) := hcc5 0 (by simp)
          have x1 : wr.cell? ⟨b5, o5 + m * 3 + 1, none⟩ = some (.string u.es[m].s) := hcc5 1 (by simp)
          have x2 : wr.cell? ⟨b5, o5 + m * 3 + 2, none⟩ = some (.slice ax5 u.es[m].xs.length cx5) := hcc5 2 (by simp)
          rw [← expAt_lt hml] at x0 x1 x2
          have HHN := Lib.hid (fun (W : World) (h : Below wr.heap.size wr W) => hasName_any u m _ S W (HF.out W (below_step hb4 h)) (HS.out W (below_step hb4 h)) HT.out HW.out hml)
          have HQ := Lib.hid (fun (W : World) (h : Below wr.heap.size wr W) => (h.block _ (lt_of_block K1)).trans K1)
          have HSUM := Lib.hid (fun (W : World) => isSum_any (expAt u.es m).k (expAt u.es m).s ax5 (expAt u.es m).xs.length cx5 W)
          have hsm : isSumAt u.es m = isSum (expAt u.es m).k := rfl
          have HYES := Lib.hid (fun (h : MakesAt u.es m) (W : World) (hW : Below wr.heap.size wr W) => (⟨⟨true, rfl, ⟨fun _ => ⟨_, HMEM.out, by show Makes u.es ((n : Int)).toNat; exact ⟨m, hIn, h⟩⟩, fun _ => rfl⟩⟩, below_step hb4 hW⟩ : (∃ r : Bool, Ending.returned (.bool true) = .returned (.bool r) ∧ (r = true ↔ ∃ a ∈ u.hd.xs, Makes u.es a.toNat)) ∧ Below w.heap.size w W))
          have HNX := Lib.hid (fun (h : ¬ MakesAt u.es m) (W : World) (hW : Below wr.heap.size wr W) => (⟨k + 1, by go_num, by omega, by
            rw [htk]
            intro x hx
            rcases List.mem_append.1 hx with hx | hx
            · exact hall x hx
            · rw [List.mem_singleton.1 hx]; exact h, below_step hb hW⟩ : MTI w2 u.es P (.int .i64 ((k : Int) + 1)) W))
          have HMA := Lib.hid (show MakesAt u.es m ↔ (isSum (expAt u.es m).k = true ∨ ((expAt u.es m).k = 4 ∧ varsIn u.es m ≠ [])) from Iff.rfl)
          have hgw : w.heap.size < wr.heap.size := lt_of_block K1
          clear hall hb hb3 hb4 K1 htk hmem hm hIn hgi hcc5 hI5 hS5 hv5 hsm
          obtain ⟨kk, hkk⟩ : ∃ kk, (expAt u.es m).k = kk := ⟨_, rfl⟩
          rw [hkk] at x0 HSUM HMA
          clear hkk
          obtain ⟨ss, hss⟩ : ∃ ss, (expAt u.es m).s = ss := ⟨_, rfl⟩
          rw [hss] at x1 HSUM
          clear hss
          obtain ⟨nx, hnx⟩ : ∃ nx, (expAt u.es m).xs.length = nx := ⟨_, rfl⟩
          rw [hnx] at x2 HSUM
          clear hnx
          go_wp2_with fail
          refine (HSUM.out _).mono ?_
          rintro e w5 ⟨rfl, hb5⟩
          have HB5 := Lib.hid (below_keep (below_alloc (Below.refl _ _) _) hb5)
          have K5 := HQ.out w5 HB5.out
          have kx := (hb5.block _ (lt_of_block (heap_alloc_new wr (.cells #[.int .i64 kk, .string ss, .slice ax5 nx cx5] 49)))).trans (heap_alloc_new wr (.cells #[.int .i64 kk, .string ss, .slice ax5 nx cx5] 49))
          have e0 := cell_of_row _ wr.heap.size 0 _ _ _ kx
          simp only [List.getElem?_toArray, List.getElem?_cons_zero] at e0
          clear kx
          clear q0 q1 q2 q3 q4 x0 x1 x2 z0 hb5 HSUM
          cases hs : isSum kk with
          | true =>
            have HR := Lib.hid (HYES.out (HMA.out.2 (.inl hs)) w5 HB5.out)
            clear hs K5 HYES HNX
            go_wp2
            go_ret
            exact HR.out
          | false =>
            by_cases h4 : kk = 4
            · have e4 : (kk == 4) = true := by simp [h4]
              have q0 := cell_of_row _ w.heap.size 0 _ _ _ K5
              have q1 := cell_of_row _ w.heap.size 1 _ _ _ K5
              have q2 := cell_of_row _ w.heap.size 2 _ _ _ K5
              have q3 := cell_of_row _ w.heap.size 3 _ _ _ K5
              have q4 := cell_of_row _ w.heap.size 4 _ _ _ K5
              simp only [List.getElem?_toArray, List.getElem?_cons_zero, List.getElem?_cons_succ] at q0 q1 q2 q3 q4
              have HH := Lib.hid (HHN.out w5 HB5.out)
              have HK4 := Lib.hid h4
              have HSF := Lib.hid hs
              clear K5 HHN HQ hs h4
              go_wp2_with fail
              refine HH.out.mono ?_
              rintro e w6 ⟨⟨r, rfl, hr⟩, hb6⟩
              have HB6 := Lib.hid (below_step HB5.out hb6)
              clear hb6 HH q0 q1 q2 q3 q4 e0
              cases r with
              | true =>
                have HR := Lib.hid (HYES.out (HMA.out.2 (.inr ⟨HK4.out, hr.1 rfl⟩)) w6 HB6.out)
                clear HYES HNX hr
                go_wp2
                go_ret
                exact HR.out
              | false =>
                have HR := Lib.hid (HNX.out (fun h => by
                  rcases HMA.out.1 h with h | h
                  · rw [HSF.out] at h; cases h
                  · have := hr.2 h.2; cases this) w6 HB6.out)
                clear HYES HNX hr
                go_wp2
                go_roundw
                case rel => exact HR.out
                case measure => (simp [intOf] <;> omega)
            · have e4 : (kk == 4) = false := by simp [h4]
              have HR := Lib.hid (HNX.out (fun h => by
                rcases HMA.out.1 h with h | h
                · rw [hs] at h; cases h
                · exact h4 h.1) w5 HB5.out)
              clear HYES HNX hs h4 K5
              go_wp2
              go_roundw
              case rel => exact HR.out
              case measure => (simp [intOf] <;> omega)
        · obtain rfl : k = P.length := by omega
          have hd : decide ((P.length : Int) < (P.length : Int)) = false := by simp
          rw [List.take_length] at hall
          have HR := Lib.hid (show MTO w0 u.es u.hd.xs (.int .i64 ((i : Int) + 1)) wr from ⟨i + 1, by go_num, by omega, by
            rw [HTK.out]
            intro x hx
            rcases List.mem_append.1 hx with hx | hx
            · exact HALL.out x hx
            · rw [List.mem_singleton.1 hx]
              rintro ⟨m, hm, h⟩
              exact hall m ((HPI.out m).2 hm) h, below_step HB2.out hb⟩)
          clear hall hb
          go_wp2
          go_roundw
          case rel => exact HR.out
          case measure => (simp [intOf] <;> omega)
    · obtain rfl : i = u.hd.xs.length := by omega
      have hd : decide ((u.hd.xs.length : Int) < (u.hd.xs.length : Int)) = false := by simp
      rw [List.take_length] at hall
      have HALL := Lib.hid hall
      have HB := Lib.hid (below_step HB0.out hb)
      clear hall hb
      go_wp2
      go_ret
      exact ⟨⟨false, rfl, ⟨(fun h => nomatch h), fun ⟨a, ha, h⟩ => absurd h (HALL.out a ha)⟩⟩, HB.out⟩

set_option maxRecDepth 100000 in
set_option maxHeartbeats 2000000 in
theorem grows_any (u : Ru) (hok : RuleOk u) (vs : List Value) (S : Nat → Prop) (w : World) (hF : FRu S w vs u) (hS : ∀ b, S b → b < w.heap.size) (hw : u.wt ≤ 1048576) :
    Calls Tryz.prog 43 #[.agg vs.toArray] w (GrowsPost u w) := by
  have hF0 := hF
  obtain ⟨aes, ces, ahd, chd, abd, cbd, rfl, r0, r1, r2⟩ := hF
  have hb0 : Below w.heap.size w (w.alloc (.cells #[.slice aes u.es.length ces, .int .i64 u.hd.k, .string u.hd.s, .slice ahd u.hd.xs.length chd, .slice abd u.bd.length cbd] 36)) := (Below.refl _ _).alloc (Nat.le_refl _) _
  have k0 := heap_alloc_new w (.cells #[.slice aes u.es.length ces, .int .i64 u.hd.k, .string u.hd.s, .slice ahd u.hd.xs.length chd, .slice abd u.bd.length cbd] 36)
  obtain ⟨w0, hw0⟩ : ∃ w0, w.alloc (.cells #[.slice aes u.es.length ces, .int .i64 u.hd.k, .string u.hd.s, .slice ahd u.hd.xs.length chd, .slice abd u.bd.length cbd] 36) = w0 := ⟨_, rfl⟩
  rw [hw0] at hb0 k0
  have HF := Lib.hid (fun (W : World) (h : Below w.heap.size w W) => FRu_keeps.1 _ _ _ _ _ hF0 (Same.below hS h))
  have HS := Lib.hid (fun (W : World) (h : Below w.heap.size w W) (b : Nat) (hb : S b) => Nat.lt_of_lt_of_le (hS b hb) h.size)
  have HON := Lib.hid (fun (W : World) (h : Below w0.heap.size w0 W) => oldNames_any u hok _ S W (HF.out W (below_step hb0 h)) (HS.out W (below_step hb0 h)) hw)
  have HBN := Lib.hid (fun (W : World) (h : Below w0.heap.size w0 W) => boundNames_any u hok _ S W (HF.out W (below_step hb0 h)) (HS.out W (below_step hb0 h)) hw)
  have HMT := Lib.hid (fun (W : World) (h : Below w0.heap.size w0 W) => makesTerms_any u hok _ S W (HF.out W (below_step hb0 h)) (HS.out W (below_step hb0 h)) hw)
  have HOK := Lib.hid hok
  have HB0 := Lib.hid hb0
  have HK0 := Lib.hid k0
  have HSS := Lib.hid (show ∀ W' : World, Below w0.heap.size w0 W' → (fun w' => w'.cell? ⟨w.heap.size, 0, none⟩ = some (.slice aes u.es.length ces) ∧ w'.cell? ⟨w.heap.size, 1, none⟩ = some (.int .i64 u.hd.k) ∧ w'.cell? ⟨w.heap.size, 2, none⟩ = some (.string u.hd.s) ∧ w'.cell? ⟨w.heap.size, 3, none⟩ = some (.slice ahd u.hd.xs.length chd) ∧ w'.cell? ⟨w.heap.size, 4, none⟩ = some (.slice abd u.bd.length cbd) ∧ Below w0.heap.size w0 w') W' from fun W' hW => by
    obtain k1 := (hW.block _ (lt_of_block HK0.out)).trans HK0.out
    have q0 := cell_of_row _ w.heap.size 0 _ _ _ k1
    have q1 := cell_of_row _ w.heap.size 1 _ _ _ k1
    have q2 := cell_of_row _ w.heap.size 2 _ _ _ k1
    have q3 := cell_of_row _ w.heap.size 3 _ _ _ k1
    have q4 := cell_of_row _ w.heap.size 4 _ _ _ k1
    simp only [List.getElem?_toArray, List.getElem?_cons_zero, List.getElem?_cons_succ] at q0 q1 q2 q3 q4
    exact ⟨q0, q1, q2, q3, q4, hW⟩)
  clear hF0 r0 r1 r2 hS hb0 k0 hw hok
  go_enter Tryz.func43, Tryz.ntmps43
  go_wp2
  refine wp_region_held_drew (S := (fun w' => w'.cell? ⟨w.heap.size, 0, none⟩ = some (.slice aes u.es.length ces) ∧ w'.cell? ⟨w.heap.size, 1, none⟩ = some (.int .i64 u.hd.k) ∧ w'.cell? ⟨w.heap.size, 2, none⟩ = some (.string u.hd.s) ∧ w'.cell? ⟨w.heap.size, 3, none⟩ = some (.slice ahd u.hd.xs.length chd) ∧ w'.cell? ⟨w.heap.size, 4, none⟩ = some (.slice abd u.bd.length cbd) ∧ Below w0.heap.size w0 w')) (by kernel_rfl) (HSS.out _ (drewB (Below.refl _ _))) (fun hHeld => ?_)
  have hc : Below w0.heap.size w0 w0.drew := drewB (Below.refl _ _)
  refine wpAnyH_take (i := 0) (v := ?_) rfl (by kernel_rfl) (by kernel_rfl) (by kernel_rfl) (fun _ _ _ h => h) (Or.inl ⟨by rfl, ?_⟩) (by assumption) ?_
  rotate_left
  · (intro w9 hSw; obtain ⟨s0, s1, s2, s3, s4, s5⟩ := hSw; go_simp; try with_reducible rfl)
  try simp only [Act.put, List.getElem_toArray, List.getElem_cons_zero, List.setIfInBounds_toArray, List.set_cons_zero, List.set_cons_succ]
  refine wpAnyH_take (i := 3) (v := ?_) rfl (by kernel_rfl) (by kernel_rfl) (by kernel_rfl) (fun _ _ _ h => h) (Or.inl ⟨by rfl, ?_⟩) (by assumption) ?_
  rotate_left
  · (intro w9 hSw; obtain ⟨s0, s1, s2, s3, s4, s5⟩ := hSw; go_simp; try with_reducible rfl)
  try simp only [Act.put, List.getElem_toArray, List.getElem_cons_zero, List.getElem_cons_succ, List.setIfInBounds_toArray, List.set_cons_zero, List.set_cons_succ]
  refine wpAnyH_ready (rs := [1]) (by kernel_rfl) (by simp) ?_
  refine AllReadyH.cons rfl (fun K hK => ?_) AllReadyH.nil
  go_simp
  refine (HON.out _ hc).mono ?_
  rintro e7 w7 ⟨⟨mo, ro, Do, rfl, hfo, hNo, howo⟩, hb7⟩
  have hcn := below_step hc hb7
  have HSO := Lib.hid (hNo.size howo ((allNamed_apart _).sublist (sel_sub _ _)))
  have HOO := Lib.hid howo
  have HFO := Lib.hid hfo
  clear hc hb7 howo hNo hfo
  go_wp2_with fail
  refine hK.out _ _ (HSS.out _ hcn) (fun _ => ?_)
  clear hK K
  try simp only [Act.put, List.getElem_toArray, List.getElem_cons_zero, List.getElem_cons_succ, List.setIfInBounds_toArray, List.set_cons_zero, List.set_cons_succ]
  refine wpAnyH_ready (rs := [2]) (by kernel_rfl) (by simp) ?_
  refine AllReadyH.cons rfl (fun K hK => ?_) AllReadyH.nil
  refine wp_len_own _ 55 rfl 9 3 Tryz.underlying55 _ mo 60 Do rfl HOO.out ?_
  rw [HSO.out]
  refine hK.out _ _ (HSS.out _ hcn) (fun _ => ?_)
  clear hK K
  try simp only [Act.put, List.getElem_toArray, List.getElem_cons_zero, List.getElem_cons_succ, List.setIfInBounds_toArray, List.set_cons_zero, List.set_cons_succ]
  refine wpAnyH_ready (rs := [4]) (by kernel_rfl) (by simp) ?_
  refine AllReadyH.cons rfl (fun K hK => ?_) AllReadyH.nil
  go_simp
  refine (HBN.out _ hcn).mono ?_
  rintro e8 w8 ⟨⟨mb, rb, Db, rfl, hfb, hNb, howb⟩, hb8⟩
  have hcm := below_step hcn hb8
  have HSB := Lib.hid (hNb.size howb ((allNamed_apart _).sublist (sel_sub _ _)))
  have HOB := Lib.hid howb
  have HFB := Lib.hid hfb
  clear hcn hb8 howb hNb hfb
  go_wp2_with fail
  refine hK.out _ _ (HSS.out _ hcm) (fun _ => ?_)
  clear hK K
  try simp only [Act.put, List.getElem_toArray, List.getElem_cons_zero, List.getElem_cons_succ, List.setIfInBounds_toArray, List.set_cons_zero, List.set_cons_succ]
  refine wpAnyH_ready (rs := [5]) (by kernel_rfl) (by simp) ?_
  refine AllReadyH.cons rfl (fun K hK => ?_) AllReadyH.nil
  refine wp_len_own _ 55 rfl 9 3 Tryz.underlying55 _ mb 60 Db rfl HOB.out ?_
  rw [HSB.out]
  refine hK.out _ _ (HSS.out _ hcm) (fun _ => ?_)
  clear hK K
  try simp only [Act.put, List.getElem_toArray, List.getElem_cons_zero, List.getElem_cons_succ, List.setIfInBounds_toArray, List.set_cons_zero, List.set_cons_succ]
  have HFW := Lib.hid (fewer_iff HOK.out HFO.out HFB.out)
  by_cases hlt : (sel u.es ro).length < (sel u.es rb).length
  · have hd : decide ((sel u.es ro).length < (sel u.es rb).length) = true := decide_eq_true hlt
    have HP := Lib.hid (show GrowsPost u w (.returned (.bool true)) w8 from ⟨by rw [growsAns_yes HOK.out (.inl (HFW.out.1 hlt))], below_step HB0.out hcm⟩)
    clear hlt
    refine wpAnyH_take (i := 6) (v := ?_) rfl (by kernel_rfl) (by kernel_rfl) (by kernel_rfl) (fun _ _ _ h => h) (Or.inl ⟨by rfl, ?_⟩) (by assumption) ?_
    rotate_left
    · (intro w9 hSw; obtain ⟨s0, s1, s2, s3, s4, s5⟩ := hSw; go_simp; try with_reducible rfl)
    try simp only [Act.put, List.getElem_toArray, List.getElem_cons_zero, List.getElem_cons_succ, List.setIfInBounds_toArray, List.set_cons_zero, List.set_cons_succ]
    refine wpAnyH_take (i := 7) (v := ?_) rfl (by kernel_rfl) (by kernel_rfl) (by kernel_rfl) (fun _ _ _ h => h) (Or.inl ⟨by rfl, ?_⟩) (by assumption) ?_
    rotate_left
    · (intro w9 hSw; obtain ⟨s0, s1, s2, s3, s4, s5⟩ := hSw; go_simp; try with_reducible rfl)
    try simp only [Act.put, List.getElem_toArray, List.getElem_cons_zero, List.getElem_cons_succ, List.setIfInBounds_toArray, List.set_cons_zero, List.set_cons_succ]
    refine wpAnyH_take (i := 8) (v := undef) rfl (by kernel_rfl) (by kernel_rfl) (by kernel_rfl) (fun _ _ _ h => h) (Or.inr ⟨by rfl, rfl⟩) (by assumption) ?_
    try simp only [Act.put, List.getElem_toArray, List.getElem_cons_zero, List.getElem_cons_succ, List.setIfInBounds_toArray, List.set_cons_zero, List.set_cons_succ]
    refine wpAnyH_take (i := 9) (v := undef) rfl (by kernel_rfl) (by kernel_rfl) (by kernel_rfl) (fun _ _ _ h => h) (Or.inr ⟨by rfl, rfl⟩) (by assumption) ?_
    try simp only [Act.put, List.getElem_toArray, List.getElem_cons_zero, List.getElem_cons_succ, List.setIfInBounds_toArray, List.set_cons_zero, List.set_cons_succ]
    refine wpAnyH_take (i := 10) (v := ?_) rfl (by kernel_rfl) (by kernel_rfl) (by kernel_rfl) (fun _ _ _ h => h) (Or.inl ⟨by rfl, ?_⟩) (by assumption) ?_
    rotate_left
    · (intro w9 hSw; obtain ⟨s0, s1, s2, s3, s4, s5⟩ := hSw; go_simp; try with_reducible rfl)
    try simp only [Act.put, List.getElem_toArray, List.getElem_cons_zero, List.getElem_cons_succ, List.setIfInBounds_toArray, List.set_cons_zero, List.set_cons_succ]
    refine wpAnyH_take (i := 11) (v := ?_) rfl (by kernel_rfl) (by kernel_rfl) (by kernel_rfl) (fun _ _ _ h => h) (Or.inl ⟨by rfl, ?_⟩) (by assumption) ?_
    rotate_left
    · (intro w9 hSw; obtain ⟨s0, s1, s2, s3, s4, s5⟩ := hSw; go_simp; try with_reducible rfl)
    try simp only [Act.put, List.getElem_toArray, List.getElem_cons_zero, List.getElem_cons_succ, List.setIfInBounds_toArray, List.set_cons_zero, List.set_cons_succ]
    refine wpAnyH_done (by kernel_rfl) ?_ _
    go_wp2_with fail
    go_ret
    exact HP.out
  · have hd : decide ((sel u.es ro).length < (sel u.es rb).length) = false := decide_eq_false hlt
    have HNO := Lib.hid (fun h => hlt (HFW.out.2 h))
    clear hlt
    refine wpAnyH_take (i := 6) (v := ?_) rfl (by kernel_rfl) (by kernel_rfl) (by kernel_rfl) (fun _ _ _ h => h) (Or.inl ⟨by rfl, ?_⟩) (by assumption) ?_
    rotate_left
    · (intro w9 hSw; obtain ⟨s0, s1, s2, s3, s4, s5⟩ := hSw; go_simp; try with_reducible rfl)
    try simp only [Act.put, List.getElem_toArray, List.getElem_cons_zero, List.getElem_cons_succ, List.setIfInBounds_toArray, List.set_cons_zero, List.set_cons_succ]
    refine wpAnyH_take (i := 7) (v := ?_) rfl (by kernel_rfl) (by kernel_rfl) (by kernel_rfl) (fun _ _ _ h => h) (Or.inl ⟨by rfl, ?_⟩) (by assumption) ?_
    rotate_left
    · (intro w9 hSw; obtain ⟨s0, s1, s2, s3, s4, s5⟩ := hSw; go_simp; try with_reducible rfl)
    try simp only [Act.put, List.getElem_toArray, List.getElem_cons_zero, List.getElem_cons_succ, List.setIfInBounds_toArray, List.set_cons_zero, List.set_cons_succ]
    refine wpAnyH_take (i := 8) (v := ?_) rfl (by kernel_rfl) (by kernel_rfl) (by kernel_rfl) (fun _ _ _ h => h) (Or.inl ⟨by rfl, ?_⟩) (by assumption) ?_
    rotate_left
    · (intro w9 hSw; obtain ⟨s0, s1, s2, s3, s4, s5⟩ := hSw; go_simp; try with_reducible rfl)
    try simp only [Act.put, List.getElem_toArray, List.getElem_cons_zero, List.getElem_cons_succ, List.setIfInBounds_toArray, List.set_cons_zero, List.set_cons_succ]
    refine wpAnyH_ready (rs := [9]) (by kernel_rfl) (by simp) ?_
    refine AllReadyH.cons rfl (fun K hK => ?_) AllReadyH.nil
    go_simp
    refine (HMT.out _ hcm).mono ?_
    rintro e9 w9 ⟨⟨r, rfl, hr⟩, hb9⟩
    have hcp := below_step hcm hb9
    have HP := Lib.hid (show GrowsPost u w (.returned (.bool r)) w9 from ⟨by
      cases r with
      | true => rw [growsAns_yes HOK.out (.inr (hr.1 rfl))]
      | false => rw [growsAns_no (fun h => by
          rcases h.2 with h | h
          · exact HNO.out h
          · have := hr.2 h; cases this)], below_step HB0.out hcp⟩)
    clear hcm hb9 hr
    go_wp2_with fail
    refine hK.out _ _ (HSS.out _ hcp) (fun _ => ?_)
    clear hK K
    try simp only [Act.put, List.getElem_toArray, List.getElem_cons_zero, List.getElem_cons_succ, List.setIfInBounds_toArray, List.set_cons_zero, List.set_cons_succ]
    refine wpAnyH_take (i := 10) (v := ?_) rfl (by kernel_rfl) (by kernel_rfl) (by kernel_rfl) (fun _ _ _ h => h) (Or.inl ⟨by rfl, ?_⟩) (by assumption) ?_
    rotate_left
    · (intro w9 hSw; obtain ⟨s0, s1, s2, s3, s4, s5⟩ := hSw; go_simp; try with_reducible rfl)
    try simp only [Act.put, List.getElem_toArray, List.getElem_cons_zero, List.getElem_cons_succ, List.setIfInBounds_toArray, List.set_cons_zero, List.set_cons_succ]
    refine wpAnyH_take (i := 11) (v := ?_) rfl (by kernel_rfl) (by kernel_rfl) (by kernel_rfl) (fun _ _ _ h => h) (Or.inl ⟨by rfl, ?_⟩) (by assumption) ?_
    rotate_left
    · (intro w9 hSw; obtain ⟨s0, s1, s2, s3, s4, s5⟩ := hSw; go_simp; try with_reducible rfl)
    try simp only [Act.put, List.getElem_toArray, List.getElem_cons_zero, List.getElem_cons_succ, List.setIfInBounds_toArray, List.set_cons_zero, List.set_cons_succ]
    refine wpAnyH_done (by kernel_rfl) ?_ _
    go_wp2_with fail
    go_ret
    exact HP.out

set_option maxRecDepth 100000 in
set_option maxHeartbeats 2000000 in
theorem implGrows_any (u : Ru) (vs : List Value) (S : Nat → Prop) (w : World) (hF : FRu S w vs u) (hS : ∀ b, S b → b < w.heap.size) (hw : u.wt ≤ 1048576) : Calls Tryz.prog 18 #[.agg vs.toArray] w (GrowsPost u w) := by
  have hF0 := hF
  obtain ⟨aes, ces, ahd, chd, abd, cbd, rfl, r0, r1, r2⟩ := hF
  have hb0 : Below w.heap.size w (w.alloc (.cells #[.slice aes u.es.length ces, .int .i64 u.hd.k, .string u.hd.s, .slice ahd u.hd.xs.length chd, .slice abd u.bd.length cbd] 36)) := (Below.refl _ _).alloc (Nat.le_refl _) _
  have k0 := heap_alloc_new w (.cells #[.slice aes u.es.length ces, .int .i64 u.hd.k, .string u.hd.s, .slice ahd u.hd.xs.length chd, .slice abd u.bd.length cbd] 36)
  obtain ⟨w0, hw0⟩ : ∃ w0, w.alloc (.cells #[.slice aes u.es.length ces, .int .i64 u.hd.k, .string u.hd.s, .slice ahd u.hd.xs.length chd, .slice abd u.bd.length cbd] 36) = w0 := ⟨_, rfl⟩
  rw [hw0] at hb0 k0
  have HF := Lib.hid (fun (W : World) (h : Below w.heap.size w W) => FRu_keeps.1 _ _ _ _ _ hF0 (Same.below hS h))
  have HS := Lib.hid (fun (W : World) (h : Below w.heap.size w W) (b : Nat) (hb : S b) => Nat.lt_of_lt_of_le (hS b hb) h.size)
  have HHF := Lib.hid (hasForm_any u _ S w0 (HF.out w0 hb0) (HS.out w0 hb0) hw)
  have HGR := Lib.hid (fun (hok : RuleOk u) (W : World) (h : Below w.heap.size w W) => grows_any u hok _ S W (HF.out W h) (HS.out W h) hw)
  have HB0 := Lib.hid hb0
  have HK0 := Lib.hid k0
  have q0 := cell_of_row _ w.heap.size 0 _ _ _ k0
  have q1 := cell_of_row _ w.heap.size 1 _ _ _ k0
  have q2 := cell_of_row _ w.heap.size 2 _ _ _ k0
  have q3 := cell_of_row _ w.heap.size 3 _ _ _ k0
  have q4 := cell_of_row _ w.heap.size 4 _ _ _ k0
  simp only [List.getElem?_toArray, List.getElem?_cons_zero, List.getElem?_cons_succ] at q0 q1 q2 q3 q4
  clear hF0 r0 r1 r2 hS hb0 k0 hw
  go_enter Tryz.func18, Tryz.ntmps18
  go_wp2_with fail
  refine HHF.out.mono ?_
  rintro e w1 ⟨⟨r, rfl, hr⟩, hb1⟩
  have HB1 := Lib.hid (below_step HB0.out hb1)
  have K1 := (hb1.block _ (lt_of_block HK0.out)).trans HK0.out
  clear q0 q1 q2 q3 q4 HHF hb1
  cases r with
  | false =>
    have HP := Lib.hid (show GrowsPost u w (.returned (.bool false)) w1 from ⟨by rw [growsAns_no (fun h => by have := hr.2 h.1; cases this)], HB1.out⟩)
    clear hr K1
    go_wp2
    go_ret
    exact HP.out
  | true =>
    have HG := Lib.hid (HGR.out (hr.1 rfl) w1 HB1.out)
    have q0 := cell_of_row _ w.heap.size 0 _ _ _ K1
    have q1 := cell_of_row _ w.heap.size 1 _ _ _ K1
    have q2 := cell_of_row _ w.heap.size 2 _ _ _ K1
    have q3 := cell_of_row _ w.heap.size 3 _ _ _ K1
    have q4 := cell_of_row _ w.heap.size 4 _ _ _ K1
    simp only [List.getElem?_toArray, List.getElem?_cons_zero, List.getElem?_cons_succ] at q0 q1 q2 q3 q4
    clear hr K1 HGR
    go_wp2_with fail
    refine HG.out.mono ?_
    rintro e w2 ⟨rfl, hb2⟩
    have HP := Lib.hid (show GrowsPost u w (.returned (.bool (growsAns u))) w2 from ⟨rfl, below_step HB1.out hb2⟩)
    clear hb2 HG
    generalize growsAns u = ga at *
    go_wp2
    go_ret
    exact HP.out

end Go.Proofs.YtilijbpbnlnhlaaGreat.Pr

namespace Go.Proofs.YtilijbpbnlnhlaaGreat.Pr
open Go Go.RowKit Go.Maps Go.WideMaps

def SORel (w0 : World) (es : List It) (r li : List ByteArray) (vl : Value) (v3 v5 : Value) (wr : World) : Prop :=
  ∃ i : Nat, v5 = .int .i64 (i : Int) ∧ i ≤ es.length ∧ wr.ownsRow w0.heap.size 9 1 v3 (selTo es r i).length (txtCells (selTo es r i)) ∧ wr.ownsRow w0.heap.size 9 1 vl li.length (txtCells li) ∧ (∀ g, v3.ownBlock = some g → vl.ownBlock ≠ some g) ∧ Below w0.heap.size w0 wr

set_option maxRecDepth 100000 in
set_option maxHeartbeats 2000000 in
theorem specOld_any (u : Ru) (vs : List Value) (S : Nat → Prop) (w : World) (hF : FRu S w vs u) (hS : ∀ b, S b → b < w.heap.size) (hw : u.wt ≤ 1048576) : Calls Tryz.prog 15 #[.agg vs.toArray] w (NamesPost true u w) := by
  have hF0 := hF
  obtain ⟨aes, ces, ahd, chd, abd, cbd, rfl, r0, r1, r2⟩ := hF
  have hb0 : Below w.heap.size w (w.alloc (.cells #[.slice aes u.es.length ces, .int .i64 u.hd.k, .string u.hd.s, .slice ahd u.hd.xs.length chd, .slice abd u.bd.length cbd] 36)) := (Below.refl _ _).alloc (Nat.le_refl _) _
  have k0 := heap_alloc_new w (.cells #[.slice aes u.es.length ces, .int .i64 u.hd.k, .string u.hd.s, .slice ahd u.hd.xs.length chd, .slice abd u.bd.length cbd] 36)
  obtain ⟨w0, hw0⟩ : ∃ w0, w.alloc (.cells #[.slice aes u.es.length ces, .int .i64 u.hd.k, .string u.hd.s, .slice ahd u.hd.xs.length chd, .slice abd u.bd.length cbd] 36) = w0 := ⟨_, rfl⟩
  have hsz0 : w0.heap.size = w.heap.size + 1 := by rw [← hw0]; simp
  rw [hw0] at hb0 k0
  have q0 := cell_of_row _ w.heap.size 0 _ _ _ k0
  have q1 := cell_of_row _ w.heap.size 1 _ _ _ k0
  have q2 := cell_of_row _ w.heap.size 2 _ _ _ k0
  have q3 := cell_of_row _ w.heap.size 3 _ _ _ k0
  have q4 := cell_of_row _ w.heap.size 4 _ _ _ k0
  simp only [List.getElem?_toArray, List.getElem?_cons_zero, List.getElem?_cons_succ] at q0 q1 q2 q3 q4
  have hbW : Below w0.heap.size w0 (w0.alloc (.cells #[] 9)) := (Below.refl _ _).alloc (Nat.le_refl _) _
  have hoW : (w0.alloc (.cells #[] 9)).ownsRow (w.heap.size + 1) 9 1 (.slice (some ⟨w.heap.size + 1, 0, none⟩) 0 0) 0 (txtCells []) := by
    rw [← hsz0]
    exact nil_row w0 _ rfl
  have hsW : (w0.alloc (.cells #[] 9)).heap.size = w.heap.size + 2 := by simp; omega
  have HF := Lib.hid (fun (W : World) (h : Below w0.heap.size w0 W) => FRu_keeps.1 _ _ _ _ _ hF0 (Same.below hS (below_step hb0 h)))
  have HS0 := Lib.hid (fun (W : World) (h : Below w0.heap.size w0 W) (b : Nat) (hb : S b) => Nat.lt_of_lt_of_le (hS b hb) (below_step hb0 h).size)
  have HSR := Lib.hid (specRule_any u _ S _ (HF.out _ hbW) (HS0.out _ hbW) hw)
  have HR0 := Lib.hid (fun (W : World) (h : Below w0.heap.size w0 W) => RowIn.kept FIt_keeps r0 (Same.below hS (below_step hb0 h)))
  have HSL := Lib.hid (fun (hok : RuleOk u) (W : World) (h : Below w0.heap.size w0 W) => specOldL_any u hok _ S W (HF.out W h) (HS0.out W h) hw)
  have HB0 := Lib.hid hb0
  have HK0 := Lib.hid k0
  have HBW := Lib.hid hbW
  have HOW := Lib.hid hoW
  have HSZ := Lib.hid hsz0
  have HSW := Lib.hid hsW
  have hel : u.es.length ≤ 1048576 := by unfold Ru.wt wtExpS at hw; omega
  clear hF0 r0 r1 r2 hS hb0 k0 hbW hoW hw hsW
  go_enter Tryz.func15, Tryz.ntmps15
  go_wp2_with fail
  refine HSR.out.mono ?_
  rintro e w1 ⟨rfl, hb1⟩
  have hb01 := below_step HBW.out hb1
  have K1 := (hb01.block _ (lt_of_block HK0.out)).trans HK0.out
  have ho1 := row_kept HOW.out hb1
  have hs1 := hb1.size
  rw [HSW.out] at hs1
  clear q0 q1 q2 q3 q4 HSR hsz0
  by_cases hok : RuleOk u
  · have hne := ruleAns_some hok
    have HOK := Lib.hid hok
    generalize ruleAns u = A at *
    have q0 := cell_of_row _ w.heap.size 0 _ _ _ K1
    have q1 := cell_of_row _ w.heap.size 1 _ _ _ K1
    have q2 := cell_of_row _ w.heap.size 2 _ _ _ K1
    have q3 := cell_of_row _ w.heap.size 3 _ _ _ K1
    have q4 := cell_of_row _ w.heap.size 4 _ _ _ K1
    simp only [List.getElem?_toArray, List.getElem?_cons_zero, List.getElem?_cons_succ] at q0 q1 q2 q3 q4
    have HCL := Lib.hid (HSL.out hok w1 hb01)
    have HB1 := Lib.hid hb01
    have HO1 := Lib.hid ho1
    have HS1 := Lib.hid hs1
    clear hok K1 hb1 hb01 ho1 hs1 HSL
    go_wp2_with fail
    refine HCL.out.mono ?_
    rintro e w2 ⟨⟨r, li, vl, rfl, hfix, hsame, hrl, hown⟩, hb2⟩
    obtain ⟨al, cl, rfl⟩ := owns_shape hown
    have hfew := HOK.out.good.tree.few
    have HST := Lib.hid (show SORel w0 u.es r li (.slice al li.length cl) (.slice (some ⟨w.heap.size + 1, 0, none⟩) 0 0) (.int .i64 0) w2 from ⟨0, rfl, Nat.zero_le _, by
      have := HSZ.out
      exact owns_mono (by omega) (row_kept HO1.out hb2), owns_mono HB1.out.size hown, fun g hg hg2 => by
        have h5 : w.heap.size + 1 = g := Option.some.inj hg
        have h6 := (own_lt hown hg2).1
        have := HS1.out
        omega, below_step HB1.out hb2⟩)
    have HFIX := Lib.hid hfix
    have HSAME := Lib.hid hsame
    clear hown hb2 HCL HO1 HS1 HB1 hfix hsame q0 q1 q2 q3 q4 hne
    go_wp2
    go_loopw [3, 5] (fun v3 v5 wr => SORel w0 u.es r li (.slice al li.length cl) v3 v5 wr) (fun _ v5 _ => (u.es.length - (intOf v5).toNat))
    case atStart => exact HST.out
    case round =>
      obtain ⟨i, rfl, hi, ho, hl, hap, hb⟩ := hrel
      clear HST
      obtain ⟨ao, co, rfl⟩ := owns_shape ho
      have K1 := (hb.block _ (lt_of_block HK0.out)).trans HK0.out
      have q0 := cell_of_row _ w.heap.size 0 _ _ _ K1
      simp only [List.getElem?_toArray, List.getElem?_cons_zero] at q0
      have hsl := selTo_len u.es r i
      by_cases hlt : i < u.es.length
      · have hd : decide ((i : Int) < (u.es.length : Int)) = true := decide_eq_true (by omega)
        obtain ⟨b5, o5, vs5, ha5, hS5, hv5, hcc5, ax5, cx5, rfl, hI5⟩ := HR0.out wr hb i hlt
        rw [ha5] at q0
        have x0 : wr.cell? ⟨b5, o5 + i * 3, none⟩ = some (.int .i64 u.es[i].k) := hcc5 0 (by simp)
        have x1 : wr.cell? ⟨b5, o5 + i * 3 + 1, none⟩ = some (.string u.es[i].s) := hcc5 1 (by simp)
        rw [← expAt_lt hlt] at x0 x1
        have ht : (expAt u.es i).s = txtAt u.es i := rfl
        rw [ht] at x1
        have HSKIP := Lib.hid (fun (W : World) (hW : Below wr.heap.size wr W) (h : (expAt u.es i).k ≠ 1 ∨ txtAt u.es i ∉ r ∨ txtAt u.es i ∈ selTo u.es r i) => (⟨i + 1, by go_num, by omega, by rw [selTo_skip h]; exact row_kept ho hW, row_kept hl hW, hap, below_step hb hW⟩ : SORel w0 u.es r li (.slice al li.length cl) (.slice ao (selTo u.es r i).length co) (.int .i64 ((i : Int) + 1)) W))
        have hgb5 : b5 < wr.heap.size := cell_lt x0
        have hgw : w.heap.size < wr.heap.size := cell_lt q0
        by_cases hk1 : (expAt u.es i).k = 1
        · have ek : ((expAt u.es i).k == 1) = true := by simp [hk1]
          have HI1 := Lib.hid (specIn_any li (txtAt u.es i) al cl _ wr (own_txtsB hl) (fun b h => h) (by omega))
          have HI2 := Lib.hid (fun (W : World) (hW : Below wr.heap.size wr W) => specIn_any (selTo u.es r i) (txtAt u.es i) ao co _ W (own_txtsB (row_kept ho hW)) (fun b h => h) (by omega))
          have HPUT := Lib.hid (fun h2 h3 => selTo_put (es := u.es) (r := r) (i := i) hk1 h2 h3)
          have HO := Lib.hid ho
          have HL := Lib.hid hl
          have HAP := Lib.hid hap
          have HBB := Lib.hid hb
          clear ho hl hap hb K1 hcc5 hI5 hS5 hv5 ha5 ht hk1
          obtain ⟨kk, hkk⟩ : ∃ kk, (expAt u.es i).k = kk := ⟨_, rfl⟩
          rw [hkk] at x0 ek HSKIP
          clear hkk
          obtain ⟨tx, htx⟩ : ∃ tx, txtAt u.es i = tx := ⟨_, rfl⟩
          rw [htx] at x1 HI1 HI2 HPUT HSKIP
          clear htx
          obtain ⟨o2, ho2⟩ : ∃ o2, selTo u.es r i = o2 := ⟨_, rfl⟩
          rw [ho2] at HI2 HPUT HO HSKIP HAP hsl ⊢
          clear ho2
          go_wp2_with fail
          refine HI1.out.mono ?_
          rintro e9 wA ⟨⟨r1, rfl, hr1⟩, hbA⟩
          cases r1 with
          | false =>
            have HR := Lib.hid (HSKIP.out wA hbA (.inr (.inl (fun h => by have := hr1.2 ((HSAME.out _).2 h); cases this))))
            clear hr1 hbA HSKIP HI1
            go_wp2
            go_roundw
            case rel => exact HR.out
            case measure => (simp [intOf] <;> omega)
          | true =>
            have HM := Lib.hid ((HSAME.out _).1 (hr1.1 rfl))
            have c3 := (hbA.cell (p := ⟨w.heap.size, 0, none⟩) hgw).trans q0
            have c4 := (hbA.cell (p := ⟨b5, o5 + i * 3 + 1, none⟩) hgb5).trans x1
            have hAs := hbA.size
            have HBA := Lib.hid hbA
            clear hr1 hbA HI1 q0 x0 x1
            go_wp2_with fail
            refine (HI2.out wA HBA.out).mono ?_
            rintro e9 wB ⟨⟨r2, rfl, hr2⟩, hbB⟩
            have hbB' := below_step HBA.out hbB
            cases r2 with
            | true =>
              have HR := Lib.hid (HSKIP.out wB hbB' (.inr (.inr (hr2.1 rfl))))
              clear hr2 hbB hbB' HSKIP HI2
              go_wp2
              go_roundw
              case rel => exact HR.out
              case measure => (simp [intOf] <;> omega)
            | false =>
              have hno : tx ∉ o2 := fun h => by have := hr2.2 h; cases this
              have hoB := row_kept HO.out hbB'
              have hlB := row_kept HL.out hbB'
              have hb0B := below_step HBB.out hbB'
              obtain ⟨g', cap, w4, hrun, ho4, hb4, hk4, hor4⟩ := push_txt hoB tx (by omega) hb0B hb0B.size
              have HR := Lib.hid (show SORel w0 u.es r li (.slice al li.length cl) (.slice (some ⟨g', 0, none⟩) (o2.length + 1) cap) (.int .i64 ((i : Int) + 1)) w4 from ⟨i + 1, by go_num, by omega, by rw [HPUT.out HM.out hno]; exact ho4, row_push hk4 hlB HAP.out, fun g hg hg2 => by
                obtain rfl : g' = g := Option.some.inj hg
                rcases hor4 with h | h
                · exact HAP.out _ h hg2
                · have := (own_lt hlB hg2).2
                  omega, hb4⟩)
              have d3 := (hbB.cell (p := ⟨w.heap.size, 0, none⟩) (Nat.lt_of_lt_of_le hgw hAs)).trans c3
              have d4 := (hbB.cell (p := ⟨b5, o5 + i * 3 + 1, none⟩) (Nat.lt_of_lt_of_le hgb5 hAs)).trans c4
              have HRUN := Lib.hid hrun
              clear hr2 hno hrun ho4 hb4 hk4 hor4 hbB hbB' hoB hlB hb0B HI2 c3 c4 HSKIP
              go_wp2_with (first
                | (at_builtin
                   refine wpList_append_run rfl _ _ _ rfl rfl rfl HRUN.out ?_))
              go_roundw
              case rel => exact HR.out
              case measure => (simp [intOf] <;> omega)
        · have ek : ((expAt u.es i).k == 1) = false := by simp [hk1]
          have HR := Lib.hid (HSKIP.out wr (Below.refl _ _) (.inl hk1))
          clear HSKIP hk1 ho hl hap hb K1 hcc5 hI5 hS5 hv5 ha5
          generalize (expAt u.es i).k = kk at *
          go_wp2
          go_roundw
          case rel => exact HR.out
          case measure => (simp [intOf] <;> omega)
      · obtain rfl : i = u.es.length := by omega
        have hd : decide ((u.es.length : Int) < (u.es.length : Int)) = false := by simp
        have HP := Lib.hid (show NamesPost true u w (.returned (.slice ao (selTo u.es r u.es.length).length co)) wr from ⟨⟨_, rfl, by
          rw [boundAns_ok HOK.out HFIX.out, ← selTo_all]
          exact owns_mono (by have := HSZ.out; omega) ho⟩, below_step HB0.out hb⟩)
        clear ho hl hap hb K1
        go_wp2
        go_ret
        exact HP.out
  · have hne := ruleAns_none hok
    have HP := Lib.hid (show NamesPost true u w (.returned (.slice (some ⟨w.heap.size + 1, 0, none⟩) 0 0)) w1 from ⟨⟨_, rfl, by rw [boundAns_no hok]; exact owns_mono (by omega) ho1⟩, below_step HB0.out hb01⟩)
    generalize ruleAns u = A at *
    clear hok K1 hb1 hb01 ho1 HSL
    go_wp2
    go_ret
    exact HP.out


def SGRel (w0 : World) (es : List It) (xs : List Int) (v : Value) (wr : World) : Prop := ∃ i : Nat, v = .int .i64 (i : Int) ∧ i ≤ xs.length ∧ (∀ a ∈ xs.take i, ¬ Makes es a.toNat) ∧ Below w0.heap.size w0 wr

set_option maxRecDepth 100000 in
set_option maxHeartbeats 4000000 in
theorem specGrows_any (u : Ru) (vs : List Value) (S : Nat → Prop) (w : World) (hF : FRu S w vs u) (hS : ∀ b, S b → b < w.heap.size) (hw : u.wt ≤ 1048576) : Calls Tryz.prog 17 #[.agg vs.toArray] w (GrowsPost u w) := by
  have hF0 := hF
  obtain ⟨aes, ces, ahd, chd, abd, cbd, rfl, r0, r1, r2⟩ := hF
  have hb0 : Below w.heap.size w (w.alloc (.cells #[.slice aes u.es.length ces, .int .i64 u.hd.k, .string u.hd.s, .slice ahd u.hd.xs.length chd, .slice abd u.bd.length cbd] 36)) := (Below.refl _ _).alloc (Nat.le_refl _) _
  have k0 := heap_alloc_new w (.cells #[.slice aes u.es.length ces, .int .i64 u.hd.k, .string u.hd.s, .slice ahd u.hd.xs.length chd, .slice abd u.bd.length cbd] 36)
  obtain ⟨w0, hw0⟩ : ∃ w0, w.alloc (.cells #[.slice aes u.es.length ces, .int .i64 u.hd.k, .string u.hd.s, .slice ahd u.hd.xs.length chd, .slice abd u.bd.length cbd] 36) = w0 := ⟨_, rfl⟩
  rw [hw0] at hb0 k0
  have hxl : u.hd.xs.length ≤ 1048576 := by have := hw; unfold Ru.wt It.wt wtIntS at this; omega
  have HF := Lib.hid (fun (W : World) (h : Below w.heap.size w W) => FRu_keeps.1 _ _ _ _ _ hF0 (Same.below hS h))
  have HS := Lib.hid (fun (W : World) (h : Below w.heap.size w W) (b : Nat) (hb : S b) => Nat.lt_of_lt_of_le (hS b hb) h.size)
  have HSR := Lib.hid (specRule_any u _ S w0 (HF.out w0 hb0) (HS.out w0 hb0) hw)
  have HSB := Lib.hid (fun (W : World) (h : Below w.heap.size w W) => specBound_any u _ S W (HF.out W h) (HS.out W h) hw)
  have HSO := Lib.hid (fun (W : World) (h : Below w.heap.size w W) => specOld_any u _ S W (HF.out W h) (HS.out W h) hw)
  have HR0 := Lib.hid (fun (W : World) (h : Below w.heap.size w W) => RowIn.kept FIt_keeps r0 (Same.below hS h))
  have HR1 := Lib.hid (fun (W : World) (h : Below w.heap.size w W) => r1.kept (Same.below hS h))
  have HB0 := Lib.hid hb0
  have HK0 := Lib.hid k0
  have q0 := cell_of_row _ w.heap.size 0 _ _ _ k0
  have q1 := cell_of_row _ w.heap.size 1 _ _ _ k0
  have q2 := cell_of_row _ w.heap.size 2 _ _ _ k0
  have q3 := cell_of_row _ w.heap.size 3 _ _ _ k0
  have q4 := cell_of_row _ w.heap.size 4 _ _ _ k0
  simp only [List.getElem?_toArray, List.getElem?_cons_zero, List.getElem?_cons_succ] at q0 q1 q2 q3 q4
  clear hF0 r0 r1 r2 hS hb0 k0 hw
  go_enter Tryz.func17, Tryz.ntmps17
  go_wp2_with fail
  refine HSR.out.mono ?_
  rintro e w1 ⟨rfl, hb1⟩
  have HB1 := Lib.hid (below_step HB0.out hb1)
  have K1 := (hb1.block _ (lt_of_block HK0.out)).trans HK0.out
  clear q0 q1 q2 q3 q4 HSR hb1
  by_cases hok : RuleOk u
  · have hne := ruleAns_some hok
    have HOK := Lib.hid hok
    generalize ruleAns u = A at *
    have HK1 := Lib.hid K1
    have HBN := Lib.hid (fun (W : World) (h : Below w1.heap.size w1 W) => HSB.out W (below_step HB1.out h))
    have HON := Lib.hid (fun (W : World) (h : Below w1.heap.size w1 W) => HSO.out W (below_step HB1.out h))
    have HPT := Lib.hid (fun (W : World) (h : Below w1.heap.size w1 W) => below_step HB1.out h)
    have HSS := Lib.hid (show ∀ W' : World, Below w1.heap.size w1 W' → (fun w' => w'.cell? ⟨w.heap.size, 0, none⟩ = some (.slice aes u.es.length ces) ∧ w'.cell? ⟨w.heap.size, 1, none⟩ = some (.int .i64 u.hd.k) ∧ w'.cell? ⟨w.heap.size, 2, none⟩ = some (.string u.hd.s) ∧ w'.cell? ⟨w.heap.size, 3, none⟩ = some (.slice ahd u.hd.xs.length chd) ∧ w'.cell? ⟨w.heap.size, 4, none⟩ = some (.slice abd u.bd.length cbd) ∧ Below w1.heap.size w1 w') W' from fun W' hW => by
      obtain k1 := (hW.block _ (lt_of_block HK1.out)).trans HK1.out
      have q0 := cell_of_row _ w.heap.size 0 _ _ _ k1
      have q1 := cell_of_row _ w.heap.size 1 _ _ _ k1
      have q2 := cell_of_row _ w.heap.size 2 _ _ _ k1
      have q3 := cell_of_row _ w.heap.size 3 _ _ _ k1
      have q4 := cell_of_row _ w.heap.size 4 _ _ _ k1
      simp only [List.getElem?_toArray, List.getElem?_cons_zero, List.getElem?_cons_succ] at q0 q1 q2 q3 q4
      exact ⟨q0, q1, q2, q3, q4, hW⟩)
    clear hok K1 HSB HSO
    go_wp2
    refine wp_region_held_drew (S := (fun w' => w'.cell? ⟨w.heap.size, 0, none⟩ = some (.slice aes u.es.length ces) ∧ w'.cell? ⟨w.heap.size, 1, none⟩ = some (.int .i64 u.hd.k) ∧ w'.cell? ⟨w.heap.size, 2, none⟩ = some (.string u.hd.s) ∧ w'.cell? ⟨w.heap.size, 3, none⟩ = some (.slice ahd u.hd.xs.length chd) ∧ w'.cell? ⟨w.heap.size, 4, none⟩ = some (.slice abd u.bd.length cbd) ∧ Below w1.heap.size w1 w')) (by kernel_rfl) (HSS.out _ (drewB (Below.refl _ _))) (fun hHeld => ?_)
    have hc : Below w1.heap.size w1 w1.drew := drewB (Below.refl _ _)
    refine wpAnyH_take (i := 0) (v := ?_) rfl (by kernel_rfl) (by kernel_rfl) (by kernel_rfl) (fun _ _ _ h => h) (Or.inl ⟨by rfl, ?_⟩) (by assumption) ?_
    rotate_left
    · (intro w9 hSw; obtain ⟨s0, s1, s2, s3, s4, s5⟩ := hSw; go_simp; try with_reducible rfl)
    try simp only [Act.put, List.getElem_toArray, List.getElem_cons_zero, List.setIfInBounds_toArray, List.set_cons_zero, List.set_cons_succ]
    refine wpAnyH_take (i := 2) (v := ?_) rfl (by kernel_rfl) (by kernel_rfl) (by kernel_rfl) (fun _ _ _ h => h) (Or.inl ⟨by rfl, ?_⟩) (by assumption) ?_
    rotate_left
    · (intro w9 hSw; obtain ⟨s0, s1, s2, s3, s4, s5⟩ := hSw; go_simp; try with_reducible rfl)
    try simp only [Act.put, List.getElem_toArray, List.getElem_cons_zero, List.getElem_cons_succ, List.setIfInBounds_toArray, List.set_cons_zero, List.set_cons_succ]
    refine wpAnyH_ready (rs := [1]) (by kernel_rfl) (by simp) ?_
    refine AllReadyH.cons rfl (fun K hK => ?_) AllReadyH.nil
    go_simp
    refine (HBN.out _ hc).mono ?_
    rintro e w2 ⟨⟨v2, rfl, ho2⟩, hb2⟩
    obtain ⟨ab, cb, rfl⟩ := owns_shape ho2
    have hcn := below_step hc hb2
    have HO2 := Lib.hid ho2
    clear hc ho2 hb2
    go_wp2_with fail
    refine hK.out _ _ (HSS.out _ hcn) (fun _ => ?_)
    clear hK K
    try simp only [Act.put, List.getElem_toArray, List.getElem_cons_zero, List.getElem_cons_succ, List.setIfInBounds_toArray, List.set_cons_zero, List.set_cons_succ]
    refine wpAnyH_ready (rs := [3]) (by kernel_rfl) (by simp) ?_
    refine AllReadyH.cons rfl (fun K hK => ?_) AllReadyH.nil
    go_simp
    refine (HON.out _ hcn).mono ?_
    rintro e w3 ⟨⟨v3, rfl, ho3⟩, hb3⟩
    obtain ⟨ao, co, rfl⟩ := owns_shape ho3
    have hcm := below_step hcn hb3
    have HO23 := Lib.hid (row_kept HO2.out hb3)
    have HO3 := Lib.hid ho3
    have hl1 := boundAns_len false u
    have hl2 := boundAns_len true u
    have HAL := Lib.hid (specAll_any (namesAns false u) (namesAns true u) ab ao cb co _ _ w3 (own_txtsB HO23.out) (fun b h => h) (own_txtsB HO3.out) (fun b h => h) (by omega) (by omega))
    clear hcn ho3 hb3 hl1 hl2 HO2
    go_wp2_with fail
    refine hK.out _ _ (HSS.out _ hcm) (fun _ => ?_)
    clear hK K
    try simp only [Act.put, List.getElem_toArray, List.getElem_cons_zero, List.getElem_cons_succ, List.setIfInBounds_toArray, List.set_cons_zero, List.set_cons_succ]
    refine wpAnyH_ready (rs := [4]) (by kernel_rfl) (by simp) ?_
    refine AllReadyH.cons rfl (fun K hK => ?_) AllReadyH.nil
    go_simp
    refine HAL.out.mono ?_
    rintro e w4 ⟨⟨r, rfl, hr⟩, hb4⟩
    have hcp := below_step hcm hb4
    have HB4 := Lib.hid (below_step HB1.out hcp)
    have HK4 := Lib.hid ((hcp.block _ (lt_of_block HK1.out)).trans HK1.out)
    have HRR := Lib.hid hr
    clear hb4 HAL HO23 HO3 hr hcm
    go_wp2_with fail
    refine hK.out _ _ (HSS.out _ hcp) (fun _ => ?_)
    clear hK K
    try simp only [Act.put, List.getElem_toArray, List.getElem_cons_zero, List.getElem_cons_succ, List.setIfInBounds_toArray, List.set_cons_zero, List.set_cons_succ]
    refine wpAnyH_take (i := 5) (v := ?_) rfl (by kernel_rfl) (by kernel_rfl) (by kernel_rfl) (fun _ _ _ h => h) (Or.inl ⟨by rfl, ?_⟩) (by assumption) ?_
    rotate_left
    · (intro w9 hSw; obtain ⟨s0, s1, s2, s3, s4, s5⟩ := hSw; go_simp; try with_reducible rfl)
    try simp only [Act.put, List.getElem_toArray, List.getElem_cons_zero, List.getElem_cons_succ, List.setIfInBounds_toArray, List.set_cons_zero, List.set_cons_succ]
    refine wpAnyH_done (by kernel_rfl) ?_ _
    clear hcp HSS HK1 HBN HON HPT
    cases r with
    | false =>
      have HP := Lib.hid (show GrowsPost u w (.returned (.bool true)) w4 from ⟨by rw [growsAns_yes HOK.out (.inl fun h => by have := HRR.out.2 h; cases this)], HB4.out⟩)
      go_wp2
      go_ret
      exact HP.out
    | true =>
      simp only [Bool.not_true]
      have HALL := Lib.hid (HRR.out.1 rfl)
      have HW4 := Lib.hid (fun (W : World) (h : Below w4.heap.size w4 W) => (h.block _ (lt_of_block HK4.out)).trans HK4.out)
      have q3 := cell_of_row _ w.heap.size 3 _ _ _ HK4.out
      simp only [List.getElem?_toArray, List.getElem?_cons_zero, List.getElem?_cons_succ] at q3
      clear HRR
      go_wp2
      clear q3
      go_loopw [3] (fun v wr => SGRel w4 u.es u.hd.xs v wr) (fun v _ => (u.hd.xs.length - (intOf v).toNat))
      case atStart => exact ⟨0, rfl, Nat.zero_le _, by simp, Below.refl _ _⟩
      case round =>
        obtain ⟨i, rfl, hi, hall, hb⟩ := hrel
        have K1 := HW4.out wr hb
        have q0 := cell_of_row _ w.heap.size 0 _ _ _ K1
        have q1 := cell_of_row _ w.heap.size 1 _ _ _ K1
        have q2 := cell_of_row _ w.heap.size 2 _ _ _ K1
        have q3 := cell_of_row _ w.heap.size 3 _ _ _ K1
        have q4 := cell_of_row _ w.heap.size 4 _ _ _ K1
        simp only [List.getElem?_toArray, List.getElem?_cons_zero, List.getElem?_cons_succ] at q0 q1 q2 q3 q4
        have hb1 := below_step HB4.out hb
        by_cases hlt : i < u.hd.xs.length
        · have hd : decide ((i : Int) < (u.hd.xs.length : Int)) = true := decide_eq_true (by omega)
          obtain ⟨b4, o4, hax, hS4, y0⟩ := HR1.out wr hb1 i hlt
          have hin := HOK.out.good.arg u.hd (by simp) u.hd.xs[i] (List.getElem_mem hlt)
          obtain ⟨n, hn⟩ := Int.eq_ofNat_of_zero_le hin.1
          have htk := List.take_succ_eq_append_getElem hlt
          have hmem := List.getElem_mem hlt
          rw [hn] at y0 hin htk hmem
          have hnl : n < u.es.length := by omega
          obtain ⟨b5, o5, vs5, ha5, hS5, hv5, hcc5, ax5, cx5, rfl, hI5⟩ := HR0.out wr hb1 n hnl
          have x0 : wr.cell? ⟨b5, o5 + n * 3, none⟩ = some (.int .i64 u.es[n].k) := hcc5 0 (by simp)
          rw [← expAt_lt hnl] at x0
          have HHK := Lib.hid (specHasKind_any u n 5 7 _ S wr (HF.out wr hb1) (HS.out wr hb1) HOK.out.good.tree hnl)
          have HVA := Lib.hid (fun (W : World) (h : Below wr.heap.size wr W) => specVars_any u n _ S W (HF.out W (below_step hb1 h)) (HS.out W (below_step hb1 h)) HOK.out.good.tree hnl)
          have HMK := Lib.hid (makes_iff HOK.out.good hnl)
          have HYES := Lib.hid (fun (h : Makes u.es n) (W : World) (hW : Below wr.heap.size wr W) => (⟨by rw [growsAns_yes HOK.out (.inr ⟨_, hmem, h⟩)], below_step hb1 hW⟩ : GrowsPost u w (.returned (.bool true)) W))
          have HNX := Lib.hid (fun (h : ¬ Makes u.es n) (W : World) (hW : Below wr.heap.size wr W) => (⟨i + 1, by go_num, by omega, by
            rw [htk]
            intro x hx
            rcases List.mem_append.1 hx with hx | hx
            · exact hall x hx
            · rw [List.mem_singleton.1 hx]; exact h, below_step hb hW⟩ : SGRel w4 u.es u.hd.xs (.int .i64 ((i : Int) + 1)) W))
          have HQ := Lib.hid (fun (W : World) (h : Below wr.heap.size wr W) => HW4.out W (below_step hb h))
          have hgw : w.heap.size < wr.heap.size := lt_of_block K1
          have hgb5 : b5 < wr.heap.size := cell_lt x0
          have z2 : (0 : Int) ≤ (n : Int) := by omega
          have z3 : (n : Int) < (u.es.length : Int) := by omega
          subst hax
          subst ha5
          clear hall hb hb1 K1 hin hn htk hmem hS4 hS5 hv5 hcc5 hI5 HALL
          obtain ⟨kk, hkk⟩ : ∃ kk, (expAt u.es n).k = kk := ⟨_, rfl⟩
          rw [hkk] at x0 HMK
          clear hkk
          go_wp2_with fail
          refine HHK.out.mono ?_
          rintro e w5 ⟨⟨r, rfl, hr⟩, hb5⟩
          have HB5 := Lib.hid hb5
          have K5 := HQ.out w5 hb5
          have x5 := (hb5.cell (p := ⟨b5, o5 + n * 3, none⟩) hgb5).trans x0
          clear q0 q1 q2 q3 q4 x0 y0 hb5 HHK
          cases r with
          | true =>
            have HR := Lib.hid (HYES.out (HMK.out.2 (.inl (hr.1 rfl))) w5 HB5.out)
            clear hr HYES HNX K5
            go_wp2
            go_ret
            exact HR.out
          | false =>
            have HNO := Lib.hid (show ¬ ∃ m, In u.es allE n m ∧ 5 ≤ (expAt u.es m).k ∧ (expAt u.es m).k ≤ 7 from fun h => by have := hr.2 h; cases this)
            have q0 := cell_of_row _ w.heap.size 0 _ _ _ K5
            have q1 := cell_of_row _ w.heap.size 1 _ _ _ K5
            have q2 := cell_of_row _ w.heap.size 2 _ _ _ K5
            have q3 := cell_of_row _ w.heap.size 3 _ _ _ K5
            have q4 := cell_of_row _ w.heap.size 4 _ _ _ K5
            simp only [List.getElem?_toArray, List.getElem?_cons_zero, List.getElem?_cons_succ] at q0 q1 q2 q3 q4
            clear hr K5
            by_cases h4 : kk = 4
            · have e4 : (kk == 4) = true := by simp [h4]
              have HV := Lib.hid (HVA.out w5 HB5.out)
              have HK4 := Lib.hid h4
              clear h4 HVA
              go_wp2_with fail
              refine HV.out.mono ?_
              rintro e w6 ⟨⟨v6, rfl, ho6⟩, hb6⟩
              obtain ⟨a6, c6, rfl⟩ := owns_shape ho6
              have HB6 := Lib.hid (below_step HB5.out hb6)
              clear ho6 hb6 HV q0 q1 q2 q3 q4
              have HLV := Lib.hid (show (varsIn u.es n).length = 0 → varsIn u.es n = [] from fun h => List.length_eq_zero_iff.1 h)
              have HNN := Lib.hid (show varsIn u.es n = [] → (varsIn u.es n).length = 0 from fun h => by rw [h]; rfl)
              have HLW := Lib.hid (show (varsIn u.es n) ≠ [] → 0 < (varsIn u.es n).length from fun h => List.length_pos_iff.2 h)
              obtain ⟨L, hL⟩ : ∃ L, (varsIn u.es n).length = L := ⟨_, rfl⟩
              rw [hL] at HLV HLW HNN ⊢
              clear hL
              by_cases hv : (0 : Int) < (L : Int)
              · have hd0 : decide ((0 : Int) < (L : Int)) = true := decide_eq_true hv
                have hdn : decide (0 < L) = true := decide_eq_true (by omega)
                have HR := Lib.hid (HYES.out (HMK.out.2 (.inr ⟨HK4.out, fun h => by
                  have h2 := HNN.out h
                  omega⟩)) w6 HB6.out)
                clear HYES HNX hv HLV HLW
                go_wp2
                go_ret
                exact HR.out
              · have hd0 : decide ((0 : Int) < (L : Int)) = false := decide_eq_false hv
                have hdn : decide (0 < L) = false := decide_eq_false (by omega)
                have HR := Lib.hid (HNX.out (fun h => by
                  rcases HMK.out.1 h with h | h
                  · exact HNO.out h
                  · have := HLW.out h.2; omega) w6 HB6.out)
                clear HYES HNX hv HLV HLW
                go_wp2
                go_roundw
                case rel => exact HR.out
                case measure => (simp [intOf] <;> omega)
            · have e4 : (kk == 4) = false := by simp [h4]
              have HR := Lib.hid (HNX.out (fun h => by
                rcases HMK.out.1 h with h | h
                · exact HNO.out h
                · exact h4 h.1) w5 HB5.out)
              clear HYES HNX h4
              go_wp2
              go_roundw
              case rel => exact HR.out
              case measure => (simp [intOf] <;> omega)
        · obtain rfl : i = u.hd.xs.length := by omega
          have hd : decide ((u.hd.xs.length : Int) < (u.hd.xs.length : Int)) = false := by simp
          rw [List.take_length] at hall
          have HP := Lib.hid (show GrowsPost u w (.returned (.bool false)) wr from ⟨by rw [growsAns_no (fun h => by
            rcases h.2 with h | ⟨a, ha, h⟩
            · exact h HALL.out
            · exact hall a ha h)], hb1⟩)
          clear hall hb hb1 K1
          go_wp2
          go_ret
          exact HP.out
  · have hne := ruleAns_none hok
    have HP := Lib.hid (show GrowsPost u w (.returned (.bool false)) w1 from ⟨by rw [growsAns_no (fun h => hok h.1)], HB1.out⟩)
    generalize ruleAns u = A at *
    clear hok K1
    go_wp2
    go_ret
    exact HP.out

end Go.Proofs.YtilijbpbnlnhlaaGreat.Pr
