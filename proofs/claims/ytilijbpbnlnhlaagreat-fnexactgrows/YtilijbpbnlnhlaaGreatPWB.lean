/-
  THE WALK of spec.l08Old.
-/
import Derived.Test.YtilijbpbnlnhlaaGreatPW9
namespace Go.Proofs.YtilijbpbnlnhlaaGreat.Pr
open Go Go.RowKit Go.Maps Go.WideMaps

theorem args_few {es ls : List It} (h : Good es ls) : (refs ls).length ≤ 60 := by
  have hin : ∀ x ∈ refs ls, ∃ m : Nat, m < es.length ∧ x = (m : Int) := fun x hx => by
    obtain ⟨l, hl, hxl⟩ := List.mem_flatMap.1 hx
    have := h.arg l hl x hxl
    obtain ⟨m, rfl⟩ := Int.eq_ofNat_of_zero_le this.1
    exact ⟨m, by omega, rfl⟩
  have hnd : (refs ls).Nodup := List.nodup_iff_count.2 fun x => by
    by_cases hx : x ∈ refs ls
    · obtain ⟨m, hm, rfl⟩ := hin x hx
      have := h.once m hm
      rw [List.count_append] at this
      omega
    · rw [List.count_eq_zero.2 hx]; omega
  have hr : ((List.range es.length).map (fun m : Nat => (m : Int))).Nodup := List.pairwise_map.2 (List.nodup_range.imp (fun {a b} hab e => hab (by omega)))
  have := sub_len hnd hr (fun x hx => by obtain ⟨m, hm, rfl⟩ := hin x hx; exact List.mem_map.2 ⟨m, List.mem_range.2 hm, rfl⟩)
  have h3 := h.few
  simp at this
  omega
theorem args_take {es bd : List It} {hd : It} (h : Good es (hd :: bd)) (i : Nat) : (refs (bd.take i)).length ≤ 60 := by
  have h1 := args_few h
  have h2 : refs (hd :: bd) = hd.xs ++ (refs (bd.take i) ++ refs (bd.drop i)) := by rw [← refs_append, List.take_append_drop]; simp [refs]
  rw [h2] at h1
  simp only [List.length_append] at h1
  omega
theorem refs_take {bd : List It} {i : Nat} (h : i < bd.length) : (refs (bd.take (i + 1))).length = (refs (bd.take i)).length + bd[i].xs.length := by
  rw [List.take_succ_eq_append_getElem h, refs_append, refs_one, List.length_append]

/-- A list with repeats, of the names that r has; the flags. -/
structure OSt (w0 : World) (es : List It) (gr : Nat) (rs : List Bool) (r out : List ByteArray) (v : Value) (wr : World) : Prop where
  own : wr.ownsRow w0.heap.size 9 1 v out.length (txtCells out)
  flg : wr.ownsRow w0.heap.size 4 1 (.slice (some ⟨gr, 0, none⟩) es.length es.length) es.length (flagCells rs)
  below : Below w0.heap.size w0 wr
  nd : r.Nodup
  sub : ∀ x ∈ r, x ∈ allNames es
  same : ∀ x, x ∈ out ↔ x ∈ r
theorem OSt.step {w0 : World} {es : List It} {gr : Nat} {rs : List Bool} {r out : List ByteArray} {v : Value} {wr w' : World} (h : OSt w0 es gr rs r out v wr) (hb : Below wr.heap.size wr w') : OSt w0 es gr rs r out v w' := ⟨row_kept h.own hb, row_kept h.flg hb, below_step h.below hb, h.nd, h.sub, h.same⟩
theorem OSt.push {w0 : World} {es : List It} {gr : Nat} {rs : List Bool} {r out : List ByteArray} {v : Value} {wr : World} (h : OSt w0 es gr rs r out v wr) (_ : TreeOk es) (x : ByteArray) (hl : out.length ≤ 1048576) (hn : x ∈ allNames es) :
    ∃ g' cap w', (∀ ty, (Builtin.append_ #[30, 30] ty #[v, .slice (some ⟨wr.heap.size, 0, none⟩) 1 1]).run Tryz.prog (wr.alloc (.cells #[.string x] 9)) = .ok (.slice (some ⟨g', 0, none⟩) (out.length + 1) cap) w') ∧
      OSt w0 es gr rs (addN r x) (out ++ [x]) (.slice (some ⟨g', 0, none⟩) (out.length + 1) cap) w' ∧ (∀ b, w0.heap.size ≤ b → b < wr.heap.size → v.ownBlock ≠ some b → w'.heap[b]? = wr.heap[b]?) ∧ (v.ownBlock = some g' ∨ wr.heap.size ≤ g') := by
  have ht := tame_addN hn r h.nd h.sub
  obtain ⟨g', cap, w', hrun, ho, hb, hk, hor⟩ := push_txt h.own x hl h.below h.below.size
  exact ⟨g', cap, w', hrun, ⟨ho, flag_push h.own hk h.flg, hb, ht.1, ht.2, fun y => by rw [mem_addN, ← h.same]; simp⟩, hk, hor⟩

def O1 (w0 : World) (u : Ru) (gr : Nat) (rs : List Bool) (v3 v5 : Value) (wr : World) : Prop := ∃ (i : Nat) (out : List ByteArray), v5 = .int .i64 (i : Int) ∧ i ≤ u.bd.length ∧ out.length ≤ 60 * (refs (u.bd.take i)).length ∧ OSt w0 u.es gr rs (atomsB u.es (u.bd.take i)) out v3 wr
def O2 (w0 : World) (u : Ru) (gr : Nat) (rs : List Bool) (n : Nat) (r : List ByteArray) (l : It) (v3 v6 : Value) (wr : World) : Prop := ∃ (k : Nat) (out : List ByteArray), v6 = .int .i64 (k : Int) ∧ k ≤ l.xs.length ∧ (l.k ≠ 1 → k = 0) ∧ out.length ≤ 60 * (n + k) ∧ OSt w0 u.es gr rs (argsTo u.es r (l.xs.take k)) out v3 wr
def O3 (w0 : World) (u : Ru) (gr : Nat) (rs : List Bool) (gi : Nat) (bs : List Bool) (n : Nat) (r : List ByteArray) (a : Nat) (v3 v8 : Value) (wr : World) : Prop := ∃ (e : Nat) (out : List ByteArray), v8 = .int .i64 (e : Int) ∧ e ≤ u.es.length ∧ out.length ≤ n + e ∧ OSt w0 u.es gr rs (addAll r (atomTo u.es a e)) out v3 wr ∧ wr.ownsRow w0.heap.size 4 1 (.slice (some ⟨gi, 0, none⟩) u.es.length u.es.length) u.es.length (flagCells bs)
/-- What was added by one side, by both. -/
noncomputable def sideToO (es : List It) (o : List ByteArray) (m n : Nat) : Nat → List ByteArray
  | 0 => o
  | 1 => eqSide true es o m n
  | _ => eqSide true es (eqSide true es o m n) n m
def Q1 (w0 : World) (u : Ru) (gr : Nat) (rs : List Bool) (v3 : Value) (wr : World) : Prop := ∃ (j : Nat) (out : List ByteArray), out.length ≤ 3600 + (passN true u.es u.bd j).length ∧ OSt w0 u.es gr rs (passN true u.es u.bd j) out v3 wr
/-- Whether something has come since r0, out0. -/
def Fresh (r0 out0 r out : List ByteArray) (v : Value) : Prop := out.length ≤ 3600 + r.length ∧ ((v = .bool false ∧ r = r0 ∧ out = out0) ∨ (v = .bool true ∧ out0.length < out.length))
theorem Fresh.push {r0 out0 r out : List ByteArray} {v : Value} {x : ByteArray} (h : Fresh r0 out0 r out v) (hx : x ∉ r) : Fresh r0 out0 (addN r x) (out ++ [x]) (.bool true) := by
  obtain ⟨h1, h2⟩ := h
  refine ⟨by rw [addN_out hx]; simp; omega, .inr ⟨rfl, ?_⟩⟩
  rcases h2 with ⟨_, _, rfl⟩ | ⟨_, h⟩ <;> simp <;> omega
def Q2 (w0 : World) (u : Ru) (gr : Nat) (rs : List Bool) (r0 out0 : List ByteArray) (v3 v9 v10 : Value) (wr : World) : Prop := ∃ (i : Nat) (out : List ByteArray), v10 = .int .i64 (i : Int) ∧ i ≤ u.bd.length ∧ Fresh r0 out0 (passB true u.es (u.bd.take i) r0) out v9 ∧ OSt w0 u.es gr rs (passB true u.es (u.bd.take i) r0) out v3 wr
def Q3 (w0 : World) (u : Ru) (gr : Nat) (rs : List Bool) (px : Nat) (lc : Array Value) (r0 out0 r1 : List ByteArray) (m n : Nat) (v3 v9 v12 : Value) (wr : World) : Prop := ∃ (k : Nat) (out : List ByteArray), v12 = .int .i64 (k : Int) ∧ k ≤ 2 ∧ Fresh r0 out0 (sideToO u.es r1 m n k) out v9 ∧ OSt w0 u.es gr rs (sideToO u.es r1 m n k) out v3 wr ∧ wr.heap[px]? = some (.cells lc 33)
def Q4 (w0 : World) (u : Ru) (gr : Nat) (rs : List Bool) (px : Nat) (lc : Array Value) (r0 out0 r2 ys : List ByteArray) (vy : Value) (v3 v9 v16 : Value) (wr : World) : Prop := ∃ (e : Nat) (out : List ByteArray), v16 = .int .i64 (e : Int) ∧ e ≤ ys.length ∧ Fresh r0 out0 (addAll r2 (ys.take e)) out v9 ∧ OSt w0 u.es gr rs (addAll r2 (ys.take e)) out v3 wr ∧ wr.heap[px]? = some (.cells lc 33) ∧ wr.ownsRow w0.heap.size 9 1 vy ys.length (txtCells ys) ∧ ∀ g, v3.ownBlock = some g → vy.ownBlock ≠ some g

set_option maxRecDepth 100000 in
set_option maxHeartbeats 4000000 in
theorem specOldL_any (u : Ru) (hok : RuleOk u) (vs : List Value) (S : Nat → Prop) (w : World) (hF : FRu S w vs u) (hS : ∀ b, S b → b < w.heap.size) (hw : u.wt ≤ 1048576) :
    Calls Tryz.prog 38 #[.agg vs.toArray] w fun e w' => (∃ (r out : List ByteArray) (v : Value), e = .returned v ∧ Fix true u.es u.bd r ∧ (∀ x, x ∈ out ↔ x ∈ r) ∧ out.length ≤ 4000 ∧ w'.ownsRow w.heap.size 9 1 v out.length (txtCells out)) ∧ Below w.heap.size w w' := by
  have hF0 := hF
  obtain ⟨aes, ces, ahd, chd, abd, cbd, rfl, r0, r1, r2⟩ := hF
  have T := hok.good.tree
  have hfew := T.few
  have hb0 : Below w.heap.size w (w.alloc (.cells #[.slice aes u.es.length ces, .int .i64 u.hd.k, .string u.hd.s, .slice ahd u.hd.xs.length chd, .slice abd u.bd.length cbd] 36)) := (Below.refl _ _).alloc (Nat.le_refl _) _
  have k0 := heap_alloc_new w (.cells #[.slice aes u.es.length ces, .int .i64 u.hd.k, .string u.hd.s, .slice ahd u.hd.xs.length chd, .slice abd u.bd.length cbd] 36)
  obtain ⟨w0, hw0⟩ : ∃ w0, w.alloc (.cells #[.slice aes u.es.length ces, .int .i64 u.hd.k, .string u.hd.s, .slice ahd u.hd.xs.length chd, .slice abd u.bd.length cbd] 36) = w0 := ⟨_, rfl⟩
  have hsz0 : w0.heap.size = w.heap.size + 1 := by rw [← hw0]; simp
  rw [hw0] at hb0 k0
  have q0 := cell_of_row _ w.heap.size 0 _ _ _ k0
  have q1 := cell_of_row _ w.heap.size 1 _ _ _ k0
  have q2 := cell_of_row _ w.heap.size 2 _ _ _ k0
  have q3 := cell_of_row _ w.heap.size 3 _ _ _ k0
  have q4 := cell_of_row _ w.heap.size 4 _ _ _ k0
  simp only [List.getElem?_toArray, List.getElem?_cons_zero, List.getElem?_cons_succ] at q0 q1 q2 q3 q4
  have hbW : Below w0.heap.size w0 (w0.alloc (.cells #[] 9)) := (Below.refl _ _).alloc (Nat.le_refl _) _
  have hoW : (w0.alloc (.cells #[] 9)).ownsRow (w.heap.size + 1) 9 1 (.slice (some ⟨w.heap.size + 1, 0, none⟩) 0 0) 0 (txtCells []) := by
    rw [← hsz0]
    exact nil_row w0 _ rfl
  have HF := Lib.hid (fun (W : World) (h : Below w0.heap.size w0 W) => FRu_keeps.1 _ _ _ _ _ hF0 (Same.below hS (below_step hb0 h)))
  have HS0 := Lib.hid (fun (W : World) (h : Below w0.heap.size w0 W) (b : Nat) (hb : S b) => Nat.lt_of_lt_of_le (hS b hb) (below_step hb0 h).size)
  have HRE := Lib.hid (specReckoned_any u _ S _ (HF.out _ hbW) (HS0.out _ hbW) T)
  have HR0 := Lib.hid (fun (W : World) (h : Below w0.heap.size w0 W) => RowIn.kept FIt_keeps r0 (Same.below hS (below_step hb0 h)))
  have HR2 := Lib.hid (fun (W : World) (h : Below w0.heap.size w0 W) => RowIn.kept FIt_keeps r2 (Same.below hS (below_step hb0 h)))
  have HB0 := Lib.hid hb0
  have HK0 := Lib.hid k0
  have HBW := Lib.hid hbW
  have HOW := Lib.hid hoW
  have HTT := Lib.hid T
  have HOK := Lib.hid hok
  have HAF := Lib.hid (fun i => args_take hok.good i)
  have HSZ := Lib.hid hsz0
  have hbl : u.bd.length ≤ 1048576 := by unfold Ru.wt wtLitS at hw; omega
  have HXL := Lib.hid (show ∀ l ∈ u.bd, l.xs.length ≤ 1048576 from fun l hl => by
    have h1 := wsum_mem It.wt hl
    unfold Ru.wt wtLitS at hw
    have h3 : l.xs.length ≤ l.wt := by unfold It.wt wtIntS; omega
    omega)
  clear hF0 r0 r1 r2 hS hb0 k0 hbW hoW T hok hw
  go_enter Tryz.func38, Tryz.ntmps38
  go_wp2_with fail
  refine HRE.out.mono ?_
  rintro e w1 ⟨⟨gr, rs, rfl, hR, hown⟩, hb1⟩
  have HST := Lib.hid (show O1 w0 u gr rs (.slice (some ⟨w.heap.size + 1, 0, none⟩) 0 0) (.int .i64 0) w1 from ⟨0, [], rfl, Nat.zero_le _, by simp, ⟨by
      have := HSZ.out
      exact owns_mono (by omega) (row_kept HOW.out hb1), owns_mono HBW.out.size hown, below_step HBW.out hb1, List.nodup_nil, (fun x h => by simp [atomsB] at h), fun x => by simp [atomsB]⟩⟩)
  have HRF := Lib.hid (fun j => hR.fin j)
  have HRL := Lib.hid hR.len
  clear hR hown hb1 HRE HOW HBW q0 q1 q2 q3 q4 hsz0
  go_wp2
  go_loopw [3, 5] (fun v3 v5 wr => O1 w0 u gr rs v3 v5 wr) (fun _ v5 _ => (u.bd.length - (intOf v5).toNat))
  case atStart => exact HST.out
  case round =>
    obtain ⟨i, out, rfl, hi, hlen, hB⟩ := hrel
    clear HST
    obtain ⟨ao, co, rfl⟩ := owns_shape hB.own
    have K1 := (hB.below.block _ (lt_of_block HK0.out)).trans HK0.out
    have q4 := cell_of_row _ w.heap.size 4 _ _ _ K1
    simp only [List.getElem?_toArray, List.getElem?_cons_zero, List.getElem?_cons_succ] at q4
    by_cases hlt : i < u.bd.length
    · have hr2 := HR2.out wr hB.below
      have hrf : (refs (u.bd.take (i + 1))).length = (refs (u.bd.take i)).length + u.bd[i].xs.length := refs_take hlt
      have htk : atomsB u.es (u.bd.take (i + 1)) = atomLit u.es (atomsB u.es (u.bd.take i)) u.bd[i] := by
        unfold atomsB
        rw [List.take_succ_eq_append_getElem hlt, List.foldl_append]
        rfl
      have hxl := HXL.out _ (List.getElem_mem hlt)
      have HARG := Lib.hid (fun x (hx : x ∈ u.bd[i].xs) => HOK.out.good.arg u.bd[i] (List.mem_cons_of_mem _ (List.getElem_mem hlt)) x hx)
      have HROW := Lib.hid (show ∀ W, Below w0.heap.size w0 W → ∃ (b off : Nat) (axs : Option Addr) (cxs : Nat), abd = some ⟨b, off, none⟩ ∧ W.cell? ⟨b, off + i * 3, none⟩ = some (.int .i64 u.bd[i].k) ∧ W.cell? ⟨b, off + i * 3 + 2, none⟩ = some (.slice axs u.bd[i].xs.length cxs) ∧ IntsIn S W axs u.bd[i].xs from fun W hW => by
        obtain ⟨b, off, vs, ha, hSb, hvn, hcc, axs, cxs, rfl, hI⟩ := HR2.out W hW i hlt
        exact ⟨b, off, axs, cxs, ha, hcc 0 (by simp), hcc 2 (by simp), hI⟩)
      obtain ⟨l, hl⟩ : ∃ l, u.bd[i] = l := ⟨_, rfl⟩
      rw [hl] at htk hxl HARG HROW hrf
      have hd : decide ((i : Int) < (u.bd.length : Int)) = true := decide_eq_true (by omega)
      have HTK := Lib.hid htk
      have HST := Lib.hid (show O2 w0 u gr rs (refs (u.bd.take i)).length (atomsB u.es (u.bd.take i)) l (.slice ao out.length co) (.int .i64 0) wr from ⟨0, out, rfl, Nat.zero_le _, (fun _ => rfl), hlen, hB⟩)
      have haf := HAF.out (i + 1)
      clear hB K1 hr2 htk hl hlen
      obtain ⟨o0, ho0⟩ : ∃ o0, atomsB u.es (u.bd.take i) = o0 := ⟨_, rfl⟩
      rw [ho0] at HST HTK
      clear ho0
      obtain ⟨n0, hn0⟩ : ∃ n0, (refs (u.bd.take i)).length = n0 := ⟨_, rfl⟩
      rw [hn0] at HST hrf
      clear hn0
      have HRX := Lib.hid hrf
      rw [hrf] at haf
      have HAF2 := Lib.hid haf
      clear hrf haf
      go_wp2
      clear q4 hd
      go_loopw [3, 6] (fun v3 v6 wr => O2 w0 u gr rs n0 o0 l v3 v6 wr) (fun _ v6 _ => (l.xs.length - (intOf v6).toNat))
      case atStart => exact HST.out
      case round =>
        obtain ⟨k, out, rfl, hk, hk0, hlen, hB⟩ := hrel
        clear HST
        obtain ⟨ao, co, rfl⟩ := owns_shape hB.own
        have K1 := (hB.below.block _ (lt_of_block HK0.out)).trans HK0.out
        have q0 := cell_of_row _ w.heap.size 0 _ _ _ K1
        have q1 := cell_of_row _ w.heap.size 1 _ _ _ K1
        have q2 := cell_of_row _ w.heap.size 2 _ _ _ K1
        have q3 := cell_of_row _ w.heap.size 3 _ _ _ K1
        have q4 := cell_of_row _ w.heap.size 4 _ _ _ K1
        simp only [List.getElem?_toArray, List.getElem?_cons_zero, List.getElem?_cons_succ] at q0 q1 q2 q3 q4
        obtain ⟨b, off, axs, cxs, habd, x0, x2, hI⟩ := HROW.out wr hB.below
        rw [habd] at q4
        clear K1
        have HBB := Lib.hid hB
        have HNXT := Lib.hid (fun (h : argsTo u.es o0 (l.xs.take k) = atomLit u.es o0 l) => (⟨i + 1, out, by go_num, by omega, by have := HRX.out; omega, by rw [HTK.out, ← h]; exact HBB.out⟩ : O1 w0 u gr rs (.slice ao out.length co) (.int .i64 ((i : Int) + 1)) wr))
        clear hB
        have HABD := Lib.hid habd
        clear habd
        by_cases hkl : k < l.xs.length
        · have hd : decide ((k : Int) < (l.xs.length : Int)) = true := decide_eq_true (by omega)
          by_cases h1 : l.k = 1
          · have e1 : (l.k == 1) = true := by simp [h1]
            have hx := HARG.out l.xs[k] (List.getElem_mem hkl)
            obtain ⟨b4, o4, rfl, hS4, y0⟩ := hI k hkl
            have htk2 : argsTo u.es o0 (l.xs.take (k + 1)) = addAll (argsTo u.es o0 (l.xs.take k)) (atomVars u.es l.xs[k].toNat) := by
              unfold argsTo
              rw [List.take_succ_eq_append_getElem hkl, List.foldl_append]
              rfl
            obtain ⟨a, ha⟩ := Int.eq_ofNat_of_zero_le hx.1
            rw [ha] at y0 htk2 hx
            rw [show ((a : Int)).toNat = a from rfl] at htk2
            have hal : a < u.es.length := by omega
            have HWI := Lib.hid (specWithin_any u a _ S wr.drew (HF.out wr.drew HBB.out.below.drew) (HS0.out wr.drew HBB.out.below.drew) HTT.out hal)
            rw [HABD.out] at HWI
            have HTK2 := Lib.hid htk2
            have H1 := Lib.hid h1
            clear htk2 hx ha hI hS4 h1 HNXT
            obtain ⟨o1, ho1⟩ : ∃ o1, argsTo u.es o0 (l.xs.take k) = o1 := ⟨_, rfl⟩
            rw [ho1] at HBB HTK2
            clear ho1
            go_wp2_with fail
            go_still_tail 10, (by kernel_rfl)
            change wpList _ _ _ _ _ wr.drew
            go_wp2_with fail
            refine HWI.out.mono ?_
            rintro e w2 ⟨⟨gi, bs, rfl, hW, hown⟩, hb2d⟩
            have hb2 : Below wr.heap.size wr w2 := ⟨hb2d.os, hb2d.tape, hb2d.output, hb2d.size, hb2d.block⟩
            have HST := Lib.hid (show O3 w0 u gr rs gi bs (60 * (n0 + k)) o1 a (.slice ao out.length co) (.int .i64 0) w2 from ⟨0, out, rfl, Nat.zero_le _, by omega, HBB.out.step hb2, owns_mono HBB.out.below.size hown⟩)
            have HIF := Lib.hid (fun j => hW.fin j)
            have HIL := Lib.hid hW.len
            clear hW hown hb2 hb2d HWI q0 q1 q2 q3 q4 x0 x2 y0
            go_wp2
            go_loopw [3, 8] (fun v3 v8 wr => O3 w0 u gr rs gi bs (60 * (n0 + k)) o1 a v3 v8 wr) (fun _ v8 _ => (u.es.length - (intOf v8).toNat))
            case atStart => exact HST.out
            case round =>
              obtain ⟨e, out, rfl, he, hlen, hB, hflg⟩ := hrel
              clear HST
              obtain ⟨ao, co, rfl⟩ := owns_shape hB.own
              by_cases hel : e < u.es.length
              · have K1 := (hB.below.block _ (lt_of_block HK0.out)).trans HK0.out
                have q0 := cell_of_row _ w.heap.size 0 _ _ _ K1
                simp only [List.getElem?_toArray, List.getElem?_cons_zero] at q0
                obtain ⟨b5, o5, vs5, ha5, hS5, hv5, hcc5, ax5, cx5, rfl, hI5⟩ := HR0.out wr hB.below e hel
                rw [ha5] at q0
                have x0 : wr.cell? ⟨b5, o5 + e * 3, none⟩ = some (.int .i64 u.es[e].k) := hcc5 0 (by simp)
                have x1 : wr.cell? ⟨b5, o5 + e * 3 + 1, none⟩ = some (.string u.es[e].s) := hcc5 1 (by simp)
                rw [← expAt_lt hel] at x0 x1
                have ci := boolAt hflg HIL.out e hel
                have cr := boolAt hB.flg HRL.out e hel
                have hin : bs.getD e false = true ↔ In u.es allE a e := by
                  rw [← HIF.out e, List.getD_eq_getElem?_getD]
                  cases bs[e]? with
                  | none => simp
                  | some v => simp
                have hre : rs.getD e false = true ↔ Reck u.es e := by
                  rw [← HRF.out e, List.getD_eq_getElem?_getD]
                  cases rs[e]? with
                  | none => simp
                  | some v => simp
                have HSKIP := Lib.hid (fun (h : ¬ (In u.es allE a e ∧ (expAt u.es e).k = 1 ∧ ¬ Reck u.es e)) => (⟨e + 1, out, by go_num, by omega, by omega, by rw [atomTo_skip h]; exact hB, hflg⟩ : O3 w0 u gr rs gi bs (60 * (n0 + k)) o1 a (.slice ao out.length co) (.int .i64 ((e : Int) + 1)) wr))
                have HBC := Lib.hid hB
                have HFL := Lib.hid hflg
                have hd : decide ((e : Int) < (u.es.length : Int)) = true := decide_eq_true (by omega)
                clear hB hflg K1 hcc5 hI5 hS5 hv5 ha5
                by_cases hbi : bs.getD e false = true
                · rw [hbi] at ci
                  by_cases hk1 : (expAt u.es e).k = 1
                  · have ek : ((expAt u.es e).k == 1) = true := by simp [hk1]
                    by_cases hbr : rs.getD e false = true
                    · rw [hbr] at cr
                      have HR := Lib.hid (HSKIP.out (fun h => h.2.2 (hre.1 hbr)))
                      clear HSKIP hin hre hk1 hbi hbr
                      generalize (expAt u.es e).k = kk at *
                      go_wp2
                      go_roundw
                      case rel => exact HR.out
                      case measure => (simp [intOf] <;> omega)
                    · have er : rs.getD e false = false := by simpa using hbr
                      rw [er] at cr
                      have hall : In u.es allE a e ∧ (expAt u.es e).k = 1 ∧ ¬ Reck u.es e := ⟨hin.1 hbi, hk1, fun h => hbr (hre.2 h)⟩
                      have hput := atomTo_put hall
                      have hnm : txtAt u.es e ∈ allNames u.es := (mem_allNames _ _).2 ⟨e, hel, hk1, rfl⟩
                      have ht : (expAt u.es e).s = txtAt u.es e := rfl
                      rw [ht] at x1
                      have HPUT := Lib.hid hput
                      have HNM := Lib.hid hnm
                      clear hput hnm hall ht HSKIP hin hre hk1 hbi hbr er
                      obtain ⟨kk, hkk⟩ : ∃ kk, (expAt u.es e).k = kk := ⟨_, rfl⟩
                      rw [hkk] at x0 ek
                      clear hkk
                      obtain ⟨tx, htx⟩ : ∃ tx, txtAt u.es e = tx := ⟨_, rfl⟩
                      rw [htx] at x1 HPUT HNM
                      clear htx
                      obtain ⟨o2, ho2⟩ : ∃ o2, addAll o1 (atomTo u.es a e) = o2 := ⟨_, rfl⟩
                      have HAS := Lib.hid (show addAll o1 (atomTo u.es a (e + 1)) = addN o2 tx by rw [HPUT.out, addAll_snoc, ho2])
                      rw [ho2] at HBC
                      clear ho2 HPUT
                      obtain ⟨g', cap, w4, hrun, hB4, hk4, _⟩ := HBC.out.push HTT.out tx (by have := HAF2.out; have := HTT.out.few; omega) HNM.out
                      have HR := Lib.hid (show O3 w0 u gr rs gi bs (60 * (n0 + k)) o1 a (.slice (some ⟨g', 0, none⟩) (out.length + 1) cap) (.int .i64 ((e : Int) + 1)) w4 from ⟨e + 1, out ++ [tx], by go_num, by omega, by simp; omega, by rw [HAS.out]; exact hB4, flag_push HBC.out.own hk4 HFL.out⟩)
                      have HRUN := Lib.hid hrun
                      clear hrun hB4 hk4
                      go_wp2_with (first
                        | (at_builtin
                           refine wpList_append_run rfl _ _ _ rfl rfl rfl HRUN.out ?_))
                      go_roundw
                      case rel => exact HR.out
                      case measure => (simp [intOf] <;> omega)
                  · have ek : ((expAt u.es e).k == 1) = false := by simp [hk1]
                    have HR := Lib.hid (HSKIP.out (fun h => hk1 h.2.1))
                    clear HSKIP hin hre hk1 hbi
                    generalize (expAt u.es e).k = kk at *
                    go_wp2
                    go_roundw
                    case rel => exact HR.out
                    case measure => (simp [intOf] <;> omega)
                · have ei : bs.getD e false = false := by simpa using hbi
                  rw [ei] at ci
                  have HR := Lib.hid (HSKIP.out (fun h => hbi (hin.2 h.1)))
                  clear HSKIP hin hre hbi ei
                  go_wp2
                  go_roundw
                  case rel => exact HR.out
                  case measure => (simp [intOf] <;> omega)
              · obtain rfl : e = u.es.length := by omega
                have hd : decide ((u.es.length : Int) < (u.es.length : Int)) = false := by simp
                rw [atomTo_all, ← HTK2.out] at hB
                have HR := Lib.hid (show O2 w0 u gr rs n0 o0 l (.slice ao out.length co) (.int .i64 ((k : Int) + 1)) wr from ⟨k + 1, out, by go_num, by omega, (fun h => absurd H1.out h), by have := HTT.out.few; omega, hB⟩)
                clear hB hflg
                go_wp2
                go_roundw
                case rel => exact HR.out
                case measure => (simp [intOf] <;> omega)
          · have e1 : (l.k == 1) = false := by simp [h1]
            have hk00 := hk0 h1
            subst hk00
            have HR := Lib.hid (HNXT.out (by rw [List.take_zero, atomLit, if_neg h1]; rfl))
            clear HNXT h1 hk0 hI HBB
            go_wp2
            go_roundw
            case rel => exact HR.out
            case measure => (simp [intOf] <;> omega)
        · have hd : decide ((k : Int) < (l.xs.length : Int)) = false := decide_eq_false (by omega)
          have hkk : k = l.xs.length := by omega
          have HR := Lib.hid (HNXT.out (by
            rw [hkk, List.take_length, atomLit]
            split
            · rfl
            · rename_i h1
              have := hk0 h1
              rw [hkk] at this
              rw [List.length_eq_zero_iff.1 this]
              rfl))
          clear HNXT hk0 hI HBB hkk
          go_wp2
          go_roundw
          case rel => exact HR.out
          case measure => (simp [intOf] <;> omega)
    · obtain rfl : i = u.bd.length := by omega
      rw [List.take_length] at hB hlen
      have hd : decide ((u.bd.length : Int) < (u.bd.length : Int)) = false := by simp
      have HBB := Lib.hid hB
      clear hB K1
      go_wp2
      have haf := HAF.out u.bd.length
      rw [List.take_length] at haf
      have HST := Lib.hid (show Q1 w0 u gr rs (.slice ao out.length co) wr from ⟨0, out, by show out.length ≤ 3600 + (atomsB u.es u.bd).length; omega, HBB.out⟩)
      have HQ := Lib.hid (show ∀ W, Below w0.heap.size w0 W → W.cell? ⟨w.heap.size, 0, none⟩ = some (.slice aes u.es.length ces) ∧ W.cell? ⟨w.heap.size, 1, none⟩ = some (.int .i64 u.hd.k) ∧ W.cell? ⟨w.heap.size, 2, none⟩ = some (.string u.hd.s) ∧ W.cell? ⟨w.heap.size, 3, none⟩ = some (.slice ahd u.hd.xs.length chd) ∧ W.cell? ⟨w.heap.size, 4, none⟩ = some (.slice abd u.bd.length cbd) from fun W hW => by
        have K1 := (hW.block _ (lt_of_block HK0.out)).trans HK0.out
        have q0 := cell_of_row _ w.heap.size 0 _ _ _ K1
        have q1 := cell_of_row _ w.heap.size 1 _ _ _ K1
        have q2 := cell_of_row _ w.heap.size 2 _ _ _ K1
        have q3 := cell_of_row _ w.heap.size 3 _ _ _ K1
        have q4 := cell_of_row _ w.heap.size 4 _ _ _ K1
        simp only [List.getElem?_toArray, List.getElem?_cons_zero, List.getElem?_cons_succ] at q0 q1 q2 q3 q4
        exact ⟨q0, q1, q2, q3, q4⟩)
      clear HBB q4 hd
      go_loopw [3] (fun v3 wr => Q1 w0 u gr rs v3 wr) (fun v3 _ => 3661 - lenS v3)
      case atStart => exact HST.out
      case round =>
        obtain ⟨j, out0, hlen0, hB⟩ := hrel
        clear HST
        obtain ⟨ao, co, rfl⟩ := owns_shape hB.own
        have hfw := tame_few HTT.out hB.nd hB.sub
        obtain ⟨o0, ho0⟩ : ∃ o0, passN true u.es u.bd j = o0 := ⟨_, rfl⟩
        rw [ho0] at hB hfw hlen0
        have HST := Lib.hid (show Q2 w0 u gr rs o0 out0 (.slice ao out0.length co) (.bool false) (.int .i64 0) wr from ⟨0, out0, rfl, Nat.zero_le _, ⟨hlen0, .inl ⟨rfl, rfl, rfl⟩⟩, hB⟩)
        have HO0 := Lib.hid ho0
        clear ho0 hB
        go_wp2
        go_loopw [3, 9, 10] (fun v3 v9 v10 wr => Q2 w0 u gr rs o0 out0 v3 v9 v10 wr) (fun _ _ v10 _ => (u.bd.length - (intOf v10).toNat))
        case atStart => exact HST.out
        case round =>
          obtain ⟨i, out, rfl, hi, hfr, hB⟩ := hrel
          clear HST
          obtain ⟨ao, co, rfl⟩ := owns_shape hB.own
          have K1 := (hB.below.block _ (lt_of_block HK0.out)).trans HK0.out
          have q4 := cell_of_row _ w.heap.size 4 _ _ _ K1
          simp only [List.getElem?_toArray, List.getElem?_cons_zero, List.getElem?_cons_succ] at q4
          by_cases hlt : i < u.bd.length
          · have hd : decide ((i : Int) < (u.bd.length : Int)) = true := decide_eq_true (by omega)
            have htk : ∀ o, passB true u.es (u.bd.take (i + 1)) o = eqLit true u.es (passB true u.es (u.bd.take i) o) u.bd[i] := fun o => by
              unfold passB
              rw [List.take_succ_eq_append_getElem hlt, List.foldl_append]
              rfl
            obtain ⟨b, off, vs, ha, hSb, hvn, hcc, axs, cxs, rfl, hI⟩ := HR2.out wr hB.below i hlt
            have x0 : wr.cell? ⟨b, off + i * 3, none⟩ = some (.int .i64 u.bd[i].k) := hcc 0 (by simp)
            have x1 : wr.cell? ⟨b, off + i * 3 + 1, none⟩ = some (.string u.bd[i].s) := hcc 1 (by simp)
            have x2 : wr.cell? ⟨b, off + i * 3 + 2, none⟩ = some (.slice axs u.bd[i].xs.length cxs) := hcc 2 (by simp)
            rw [ha] at q4
            have HABD := Lib.hid ha
            have hlo := HOK.out.body _ (List.getElem_mem hlt)
            have HARG := Lib.hid (fun x (hx : x ∈ u.bd[i].xs) => HOK.out.good.arg u.bd[i] (List.mem_cons_of_mem _ (List.getElem_mem hlt)) x hx)
            obtain ⟨l, hl⟩ : ∃ l, u.bd[i] = l := ⟨_, rfl⟩
            rw [hl] at x0 x1 x2 hI hlo htk HARG
            have HTK := Lib.hid (htk o0)
            obtain ⟨o1, ho1⟩ : ∃ o1, passB true u.es (u.bd.take i) o0 = o1 := ⟨_, rfl⟩
            rw [ho1] at hB HTK hfr
            clear hcc hvn htk hl ho1 K1 ha
            have hb3 : Below wr.heap.size wr (wr.alloc (.cells #[.int .i64 l.k, .string l.s, .slice axs l.xs.length cxs] 33)) := (Below.refl _ _).alloc (Nat.le_refl _) _
            have k3 := heap_alloc_new wr (.cells #[.int .i64 l.k, .string l.s, .slice axs l.xs.length cxs] 33)
            obtain ⟨W, hW⟩ : ∃ W, wr.alloc (.cells #[.int .i64 l.k, .string l.s, .slice axs l.xs.length cxs] 33) = W := ⟨_, rfl⟩
            rw [hW] at hb3 k3
            have hB3 := hB.step hb3
            have c0 := cell_of_row _ wr.heap.size 0 _ _ _ k3
            have c1 := cell_of_row _ wr.heap.size 1 _ _ _ k3
            have c2 := cell_of_row _ wr.heap.size 2 _ _ _ k3
            simp only [List.getElem?_toArray, List.getElem?_cons_zero, List.getElem?_cons_succ] at c0 c1 c2
            obtain ⟨v9, hv9⟩ : ∃ v9, u9 = v9 := ⟨_, rfl⟩
            rw [hv9] at hfr ⊢
            clear hv9
            have HSKIP := Lib.hid (show ¬ isEq l → Q2 w0 u gr rs o0 out0 (.slice ao out.length co) v9 (.int .i64 ((i : Int) + 1)) W from fun h => ⟨i + 1, out, by go_num, by omega, by rw [HTK.out, eqLit, if_neg h]; exact hfr, by rw [HTK.out, eqLit, if_neg h]; exact hB3⟩)
            have HBB := Lib.hid hB3
            have HB3 := Lib.hid hb3
            have HK3 := Lib.hid k3
            have HBL := Lib.hid hB.below
            have HGE := Lib.hid hB.below.size
            have HFR := Lib.hid hfr
            clear hB hB3 hb3 k3 hfr
            by_cases h3 : l.k = 3
            · have e3 : (l.k == 3) = true := by simp [h3]
              by_cases hs : l.s = ⟨#[61]⟩
              · have es : (l.s.toList == [61]) = true := by rw [hs, ByteArray.toList_eq]; rfl
                have heq : isEq l := ⟨h3, hs⟩
                obtain ⟨x, y, hxy⟩ : ∃ x y, l.xs = [x, y] := by
                  have h2 : l.xs.length = 2 := by
                    unfold litOk at hlo
                    rw [h3] at hlo
                    simpa using hlo
                  match hm : l.xs, h2 with
                  | [x, y], _ => exact ⟨x, y, rfl⟩
                have hx := HARG.out x (by rw [hxy]; simp)
                have hy := HARG.out y (by rw [hxy]; simp)
                obtain ⟨m, rfl⟩ := Int.eq_ofNat_of_zero_le hx.1
                obtain ⟨n, rfl⟩ := Int.eq_ofNat_of_zero_le hy.1
                have hml : m < u.es.length := by omega
                have hnl : n < u.es.length := by omega
                have ea0 : argAt l 0 = m := by unfold argAt; rw [hxy]; rfl
                have ea1 : argAt l 1 = n := by unfold argAt; rw [hxy]; rfl
                rw [hxy] at hI c2 x2 hW HK3
                obtain ⟨b4, o4, rfl, hS4, y0⟩ := hI 0 (by simp)
                obtain ⟨b5, o5, he, hS5, y1⟩ := hI 1 (by simp)
                obtain ⟨rfl, rfl⟩ : b4 = b5 ∧ o4 = o5 := by simpa using he
                simp only [List.getElem_cons_zero, List.getElem_cons_succ, Nat.add_zero] at y0 y1
                have HARR := Lib.hid (show ∀ V, Below w0.heap.size w0 V → V.cell? ⟨b4, o4, none⟩ = some (.int .i64 (m : Int)) ∧ V.cell? ⟨b4, o4 + 1, none⟩ = some (.int .i64 (n : Int)) from fun V hV => by
                  have h4 := HS0.out w0 (Below.refl _ _) b4 hS4
                  exact ⟨(hV.cell (p := ⟨b4, o4, none⟩) h4).trans ((HBL.out.cell (p := ⟨b4, o4, none⟩) h4).symm.trans y0), (hV.cell (p := ⟨b4, o4 + 1, none⟩) h4).trans ((HBL.out.cell (p := ⟨b4, o4 + 1, none⟩) h4).symm.trans y1)⟩)
                have HEQ := Lib.hid (show eqLit true u.es o1 l = sideToO u.es o1 m n 2 by rw [eqLit, if_pos heq, ea0, ea1]; rfl)
                simp only [List.length_cons, List.length_nil] at c2 x2 hW HK3
                have HST := Lib.hid (show Q3 w0 u gr rs wr.heap.size #[.int .i64 l.k, .string l.s, .slice (some ⟨b4, o4, none⟩) 2 cxs] o0 out0 o1 m n (.slice ao out.length co) v9 (.int .i64 0) W from ⟨0, out, rfl, Nat.zero_le _, HFR.out, HBB.out, HK3.out⟩)
                clear HSKIP heq ea0 ea1 hxy hI he HARG hx hy h3 hs hS4 hS5 HBB HB3 hlo HFR
                go_wp2
                clear x0 x1 x2 c0 c1 c2 q4 hd y0 y1 HK3
                obtain ⟨px, hpx⟩ : ∃ px, wr.heap.size = px := ⟨_, rfl⟩
                rw [hpx] at HST ⊢
                have HPX := Lib.hid (show w0.heap.size ≤ px by have := HGE.out; omega)
                clear hpx hW
                go_loopw [3, 9, 12] (fun v3 v9 v12 wr => Q3 w0 u gr rs px #[.int .i64 l.k, .string l.s, .slice (some ⟨b4, o4, none⟩) 2 cxs] o0 out0 o1 m n v3 v9 v12 wr) (fun _ _ v12 _ => (2 - (intOf v12).toNat))
                case atStart => exact HST.out
                case round =>
                  obtain ⟨k, out, rfl, hk, hfr, hB, hpx⟩ := hrel
                  clear HST
                  obtain ⟨ao, co, rfl⟩ := owns_shape hB.own
                  have c0 := cell_of_row _ px 0 _ _ _ hpx
                  have c1 := cell_of_row _ px 1 _ _ _ hpx
                  have c2 := cell_of_row _ px 2 _ _ _ hpx
                  simp only [List.getElem?_toArray, List.getElem?_cons_zero, List.getElem?_cons_succ] at c0 c1 c2
                  by_cases hk2 : k < 2
                  · obtain ⟨z0, z1⟩ := HARR.out _ hB.below
                    obtain ⟨a, b, za, zb, hal, hbl2, hnx⟩ : ∃ a b : Nat, wr.cell? ⟨b4, o4 + k, none⟩ = some (.int .i64 (a : Int)) ∧ wr.cell? ⟨b4, o4 + (1 - k), none⟩ = some (.int .i64 (b : Int)) ∧ a < u.es.length ∧ b < u.es.length ∧ sideToO u.es o1 m n (k + 1) = eqSide true u.es (sideToO u.es o1 m n k) a b := by
                      rcases (show k = 0 ∨ k = 1 by omega) with rfl | rfl
                      · exact ⟨m, n, z0, z1, hml, hnl, rfl⟩
                      · exact ⟨n, m, z1, z0, hnl, hml, rfl⟩
                    have hfw3 := tame_few HTT.out hB.nd hB.sub
                    obtain ⟨o2, ho2⟩ : ∃ o2, sideToO u.es o1 m n k = o2 := ⟨_, rfl⟩
                    rw [ho2] at hB hnx hfw3 hfr
                    have hol : out.length ≤ 3660 := by have := hfr.1; omega
                    have HKB := Lib.hid (fun W (hW : Below w0.heap.size w0 W) => specHasKind_any u b 5 7 _ S W (HF.out W hW) (HS0.out W hW) HTT.out hbl2)
                    have HVB := Lib.hid (fun W (hW : Below w0.heap.size w0 W) => specVars_any u b _ S W (HF.out W hW) (HS0.out W hW) HTT.out hbl2)
                    obtain ⟨q0, q1, q2, q3, q4⟩ := HQ.out wr hB.below
                    obtain ⟨b5, o5, vs5, ha5, hS5, hv5, hcc5, ax5, cx5, rfl, hI5⟩ := HR0.out wr hB.below a hal
                    rw [ha5] at q0
                    have x0 : wr.cell? ⟨b5, o5 + a * 3, none⟩ = some (.int .i64 u.es[a].k) := hcc5 0 (by simp)
                    have x1 : wr.cell? ⟨b5, o5 + a * 3 + 1, none⟩ = some (.string u.es[a].s) := hcc5 1 (by simp)
                    rw [← expAt_lt hal] at x0 x1
                    rw [show (expAt u.es a).s = txtAt u.es a from rfl] at x1
                    obtain ⟨v9, hv9⟩ : ∃ v9, u9 = v9 := ⟨_, rfl⟩
                    rw [hv9] at hfr ⊢
                    clear hv9
                    have HSKIP := Lib.hid (fun (W : World) (hW : Below wr.heap.size wr W) (h : ¬ (((expAt u.es a).k = 1 ∧ txtAt u.es a ∈ o2) ∧ ∀ m, In u.es allE b m → isSumAt u.es m = false)) => (⟨k + 1, out, by go_num, by omega, by rw [hnx, eqSide, if_neg (show ¬ SideOk true u.es o2 a b from h)]; exact hfr, by rw [hnx, eqSide, if_neg (show ¬ SideOk true u.es o2 a b from h)]; exact hB.step hW, (hW.block _ (lt_of_block hpx)).trans hpx⟩ : Q3 w0 u gr rs px #[.int .i64 l.k, .string l.s, .slice (some ⟨b4, o4, none⟩) 2 cxs] o0 out0 o1 m n (.slice ao out.length co) v9 (.int .i64 ((k : Int) + 1)) W))
                    have HFIN := Lib.hid (fun (W : World) (v3 v9 : Value) (out : List ByteArray) (hf : Fresh o0 out0 (eqSide true u.es o2 a b) out v9) (h : OSt w0 u.es gr rs (eqSide true u.es o2 a b) out v3 W) (h2 : W.heap[px]? = some (.cells #[.int .i64 l.k, .string l.s, .slice (some ⟨b4, o4, none⟩) 2 cxs] 33)) => (⟨k + 1, out, by go_num, by omega, by rw [hnx]; exact hf, by rw [hnx]; exact h, h2⟩ : Q3 w0 u gr rs px #[.int .i64 l.k, .string l.s, .slice (some ⟨b4, o4, none⟩) 2 cxs] o0 out0 o1 m n v3 v9 (.int .i64 ((k : Int) + 1)) W))
                    have HIS := Lib.hid (fun (W : World) (hW : Below wr.heap.size wr W) => specIn_any out (txtAt u.es a) ao co _ W (own_txtsB (row_kept hB.own hW)) (fun b h => h) (by omega))
                    have HBB := Lib.hid hB
                    have HPX2 := Lib.hid hpx
                    have HFR := Lib.hid hfr
                    have H9 := Lib.hid (Iff.rfl : (expAt u.es a).k = 1 ↔ (expAt u.es a).k = 1)
                    clear hB hpx z0 z1 hnx ho2 hfr hcc5 hI5 hS5 hv5 ha5 q1 q2 q3 q4
                    have HOKP := Lib.hid (show (expAt u.es a).k = 1 → txtAt u.es a ∈ o2 → (∀ m, In u.es allE b m → isSumAt u.es m = false) → eqSide true u.es o2 a b = addAll o2 (varsIn u.es b) from fun h1 h2 h3 => by rw [eqSide, if_pos (show SideOk true u.es o2 a b from ⟨⟨h1, h2⟩, h3⟩)])
                    clear H9
                    obtain ⟨kk, hkk⟩ : ∃ kk, (expAt u.es a).k = kk := ⟨_, rfl⟩
                    rw [hkk] at x0 HSKIP HOKP
                    clear hkk
                    obtain ⟨tx, htx⟩ : ∃ tx, txtAt u.es a = tx := ⟨_, rfl⟩
                    rw [htx] at x1 HIS HSKIP HOKP
                    clear htx
                    rcases (show k = 0 ∨ k = 1 by omega) with rfl | rfl
                    all_goals (
                      simp only [Nat.add_zero, Nat.sub_zero, Nat.sub_self] at za zb
                      by_cases hk1 : kk = 1
                      · have ek : (kk != 1) = false := by simp [hk1]
                        have HK1 := Lib.hid hk1
                        clear hk1
                        go_wp2
                        go_quiet (fail)
                        go_wp2_with fail
                        refine (HIS.out _ (below_drewN (Below.refl _ _) _)).mono ?_
                        rintro e wA ⟨⟨r1, rfl, hr1⟩, hbA⟩
                        have hbA' : Below wr.heap.size wr wA := ⟨hbA.os, hbA.tape, hbA.output, hbA.size, hbA.block⟩
                        cases r1 with
                        | false =>
                          have HR := Lib.hid (HSKIP.out wA hbA' (fun h => by have := hr1.2 ((HBB.out.same _).2 h.1.2); cases this))
                          clear hr1 hbA hbA' HSKIP HIS
                          go_wp2
                          go_roundw
                          case rel => exact HR.out
                          case measure => (simp [intOf] <;> omega)
                        | true =>
                          have H2 := Lib.hid ((HBB.out.same _).1 (hr1.1 rfl))
                          have hBA := below_step HBB.out.below hbA'
                          obtain ⟨q0, q1, q2, q3, q4⟩ := HQ.out wA hBA
                          have HBA := Lib.hid hbA'
                          have HBA0 := Lib.hid hBA
                          clear hr1 hbA hbA' hBA HIS x0 x1
                          go_wp2_with fail
                          refine (HKB.out _ HBA0.out).mono ?_
                          rintro e wD ⟨⟨r3, rfl, hr3⟩, hbD⟩
                          have hbD' := below_step HBA.out hbD
                          cases r3 with
                          | true =>
                            have HR := Lib.hid (HSKIP.out wD hbD' (fun h => by
                              obtain ⟨m', hm1, hm2, hm3⟩ := hr3.1 rfl
                              have := h.2 m' hm1
                              unfold isSumAt isSum at this
                              simp at this
                              omega))
                            clear hr3 hbD hbD' HSKIP
                            go_wp2
                            go_roundw
                            case rel => exact HR.out
                            case measure => (simp [intOf] <;> omega)
                          | false =>
                            have HNE := Lib.hid (HOKP.out HK1.out H2.out (fun m' hm => by
                              cases hq : isSumAt u.es m' with
                              | false => rfl
                              | true =>
                                unfold isSumAt isSum at hq
                                simp at hq
                                have := hr3.2 ⟨m', hm, hq.1, hq.2⟩
                                cases this))
                            have hBD := below_step HBA0.out hbD
                            obtain ⟨q0, q1, q2, q3, q4⟩ := HQ.out wD hBD
                            have HBD := Lib.hid hbD'
                            have HBD0 := Lib.hid hBD
                            clear hr3 hbD hbD' hBD HKB HSKIP H2 HBA HBA0 HOKP
                            go_wp2_with fail
                            refine (HVB.out _ HBD0.out).mono ?_
                            rintro e wE ⟨⟨vv, rfl, hvv⟩, hbE⟩
                            have hbE' := below_step HBD.out hbE
                            obtain ⟨av, cv, rfl⟩ := owns_shape hvv
                            have hDs := HBD.out.size
                            have hbl9 := varsIn_len u.es b
                            have HYS := Lib.hid (varsIn_sub HTT.out hbl2)
                            have HST := Lib.hid (show Q4 w0 u gr rs px #[.int .i64 l.k, .string l.s, .slice (some ⟨b4, o4, none⟩) 2 cxs] o0 out0 o2 (varsIn u.es b) (.slice av (varsIn u.es b).length cv) (.slice ao out.length co) v9 (.int .i64 0) wE from ⟨0, out, rfl, Nat.zero_le _, HFR.out, HBB.out.step hbE', (hbE'.block _ (lt_of_block HPX2.out)).trans HPX2.out, owns_mono HBD0.out.size hvv, fun g hg hg2 => by
                              have h5 := (own_lt HBB.out.own hg).2
                              have h6 := (own_lt hvv hg2).1
                              omega⟩)
                            clear hvv hbE hbE' hDs HBB HPX2 HVB HBD HBD0 HFR q0 q1 q2 q3 q4 c0 c1 c2 za zb
                            obtain ⟨ys, hys⟩ : ∃ ys, varsIn u.es b = ys := ⟨_, rfl⟩
                            rw [hys] at HST HNE HYS hbl9 ⊢
                            clear hys
                            go_wp2
                            go_loopw [3, 9, 16] (fun v3 v9 v16 wr => Q4 w0 u gr rs px #[.int .i64 l.k, .string l.s, .slice (some ⟨b4, o4, none⟩) 2 cxs] o0 out0 o2 ys (.slice av ys.length cv) v3 v9 v16 wr) (fun _ _ v16 _ => (ys.length - (intOf v16).toNat))
                            case atStart => exact HST.out
                            case round =>
                              obtain ⟨e, out, rfl, he, hfr, hB, hpx, hY, hap⟩ := hrel
                              clear HST
                              obtain ⟨ao, co, rfl⟩ := owns_shape hB.own
                              obtain ⟨v9, hv9⟩ : ∃ v9, u9 = v9 := ⟨_, rfl⟩
                              rw [hv9] at hfr ⊢
                              clear hv9
                              have hfw6 := tame_few HTT.out hB.nd hB.sub
                              have hol6 : out.length ≤ 3660 := by have := hfr.1; omega
                              by_cases hel : e < ys.length
                              · have hd : decide ((e : Int) < (ys.length : Int)) = true := decide_eq_true (by omega)
                                obtain ⟨b6, o6, hav, hS6, y6⟩ := own_txtsB hY e hel
                                have htk6 : addAll o2 (ys.take (e + 1)) = addN (addAll o2 (ys.take e)) ys[e] := by rw [List.take_succ_eq_append_getElem hel, addAll_snoc]
                                have hmy := HYS.out _ (List.getElem_mem hel)
                                have HIS := Lib.hid (specIn_any out ys[e] ao co _ wr (own_txtsB hB.own) (fun b h => h) (by omega))
                                obtain ⟨ty, hty⟩ : ∃ ty, ys[e] = ty := ⟨_, rfl⟩
                                rw [hty] at htk6 hmy HIS y6
                                obtain ⟨o3, ho3⟩ : ∃ o3, addAll o2 (ys.take e) = o3 := ⟨_, rfl⟩
                                rw [ho3] at hB hfw6 htk6 hfr
                                have HTK6 := Lib.hid htk6
                                have HMY := Lib.hid hmy
                                have HBB := Lib.hid hB
                                have HPX3 := Lib.hid hpx
                                have HYY := Lib.hid hY
                                have HAP := Lib.hid hap
                                have HFR := Lib.hid hfr
                                rw [hav]
                                have HAV := Lib.hid hav
                                clear hB hpx hY hap hty htk6 hmy ho3 hav hfr
                                go_wp2_with fail
                                refine HIS.out.mono ?_
                                rintro e9 w9 ⟨⟨r, rfl, hr⟩, hb9⟩
                                cases r with
                                | true =>
                                  have hin := (HBB.out.same ty).1 (hr.1 rfl)
                                  have HR := Lib.hid (show Q4 w0 u gr rs px #[.int .i64 l.k, .string l.s, .slice (some ⟨b4, o4, none⟩) 2 cxs] o0 out0 o2 ys (.slice av ys.length cv) (.slice ao out.length co) v9 (.int .i64 ((e : Int) + 1)) w9 from ⟨e + 1, out, by go_num, by omega, by rw [HTK6.out, addN_in hin]; exact HFR.out, by rw [HTK6.out, addN_in hin]; exact HBB.out.step hb9, (hb9.block _ (lt_of_block HPX3.out)).trans HPX3.out, row_kept HYY.out hb9, HAP.out⟩)
                                  clear hr hb9 HIS hin
                                  go_wp2
                                  go_roundw
                                  case rel => (rw [← HAV.out]; exact HR.out)
                                  case measure => (simp [intOf] <;> omega)
                                | false =>
                                  have hno : ty ∉ o3 := fun h => by have := hr.2 ((HBB.out.same ty).2 h); cases this
                                  have hb90 := HBB.out.step hb9
                                  obtain ⟨g', cap, w4, hrun, hB4, hk4, hor4⟩ := hb90.push HTT.out ty (by omega) HMY.out
                                  have hY9 := row_kept HYY.out hb9
                                  have HR := Lib.hid (show Q4 w0 u gr rs px #[.int .i64 l.k, .string l.s, .slice (some ⟨b4, o4, none⟩) 2 cxs] o0 out0 o2 ys (.slice av ys.length cv) (.slice (some ⟨g', 0, none⟩) (out.length + 1) cap) (.bool true) (.int .i64 ((e : Int) + 1)) w4 from ⟨e + 1, out ++ [ty], by go_num, by omega, by rw [HTK6.out]; exact HFR.out.push hno, by rw [HTK6.out]; exact hB4, blk_push hb90.own hk4 HPX.out ((hb9.block _ (lt_of_block HPX3.out)).trans HPX3.out) (by decide), row_push hk4 hY9 HAP.out, fun g hg hg2 => by
                                    obtain rfl : g' = g := Option.some.inj hg
                                    rcases hor4 with h | h
                                    · exact HAP.out _ h hg2
                                    · have := (own_lt hY9 hg2).2
                                      omega⟩)
                                  have c4 := (hb9.cell (p := ⟨b6, o6 + e, none⟩) hS6).trans y6
                                  have HRUN := Lib.hid hrun
                                  clear hr hno hrun hB4 hk4 hb9 HIS y6 hb90 hY9 hor4
                                  go_wp2_with (first
                                    | (at_builtin
                                       refine wpList_append_run rfl _ _ _ rfl rfl rfl HRUN.out ?_))
                                  go_roundw
                                  case rel => (rw [← HAV.out]; exact HR.out)
                                  case measure => (simp [intOf] <;> omega)
                              · obtain rfl : e = ys.length := by omega
                                have hd : decide ((ys.length : Int) < (ys.length : Int)) = false := by simp
                                rw [List.take_length] at hB hfr
                                have HR := Lib.hid (HFIN.out wr _ _ _ (by rw [HNE.out]; exact hfr) (by rw [HNE.out]; exact hB) hpx)
                                clear hB hpx hY hap hfr
                                go_wp2
                                go_roundw
                                case rel => exact HR.out
                                case measure => (simp [intOf] <;> omega)
                      · have ek : (kk != 1) = true := by simp [hk1]
                        have HR := Lib.hid (fun q => HSKIP.out (wr.drewN q) (below_drewN (Below.refl _ _) q) (fun h => hk1 h.1.1))
                        clear HSKIP hk1 HIS HOKP
                        go_wp2
                        go_quiet (fail)
                        go_wp2
                        go_roundw
                        case rel => exact HR.out _
                        case measure => (simp [intOf] <;> omega))
                  · obtain rfl : k = 2 := by omega
                    have HR := Lib.hid (show Q2 w0 u gr rs o0 out0 (.slice ao out.length co) u9 (.int .i64 ((i : Int) + 1)) _ from ⟨i + 1, out, by go_num, by omega, by rw [HTK.out, HEQ.out]; exact hfr, by rw [HTK.out, HEQ.out]; exact hB⟩)
                    clear hB hpx hfr
                    go_wp2
                    go_roundw
                    case rel => exact HR.out
                    case measure => (simp [intOf] <;> omega)
              · have es : (l.s.toList == [61]) = false := by
                  rw [beq_eq_false_iff_ne]
                  intro h
                  exact hs (lst_inj (by rw [ByteArray.toList_eq] at h; exact h))
                have HR := Lib.hid (HSKIP.out (fun h => hs h.2))
                clear HSKIP hs h3 hI HARG hlo HBB
                go_wp2
                clear x0 x1 x2 q4 hd
                go_loopw [3, 9, 12] (fun a3 a9 a12 wr' => a3 = .slice ao out.length co ∧ a9 = v9 ∧ a12 = .int .i64 0 ∧ wr' = W) (fun _ _ _ _ => 0)
                case atStart => exact ⟨rfl, rfl, rfl, rfl⟩
                case round =>
                  obtain ⟨rfl, rfl, rfl, rfl⟩ := hrel
                  go_wp2
                  go_roundw
                  case rel => exact HR.out
                  case measure => (simp [intOf] <;> omega)
            · have e3 : (l.k == 3) = false := by simp [h3]
              have HR := Lib.hid (HSKIP.out (fun h => h3 h.1))
              clear HSKIP h3 hI HARG hlo HBB
              go_wp2
              clear x0 x1 x2 q4 hd
              go_loopw [3, 9, 12] (fun a3 a9 a12 wr' => a3 = .slice ao out.length co ∧ a9 = v9 ∧ a12 = .int .i64 0 ∧ wr' = W) (fun _ _ _ _ => 0)
              case atStart => exact ⟨rfl, rfl, rfl, rfl⟩
              case round =>
                obtain ⟨rfl, rfl, rfl, rfl⟩ := hrel
                go_wp2
                go_roundw
                case rel => exact HR.out
                case measure => (simp [intOf] <;> omega)
          · obtain rfl : i = u.bd.length := by omega
            rw [List.take_length] at hB hfr
            have hd : decide ((u.bd.length : Int) < (u.bd.length : Int)) = false := by simp
            have hfx : passB true u.es u.bd o0 = passN true u.es u.bd (j + 1) := by rw [← HO0.out]; rfl
            have hfw2 := tame_few HTT.out hB.nd hB.sub
            obtain ⟨hl2, hor⟩ := hfr
            rcases hor with ⟨h9, hr9, ho9⟩ | ⟨h9, hgt⟩
            · have HP := Lib.hid (show (∃ (r out2 : List ByteArray) (v : Value), (.returned (.slice ao out.length co) : Ending) = .returned v ∧ Fix true u.es u.bd r ∧ (∀ x, x ∈ out2 ↔ x ∈ r) ∧ out2.length ≤ 4000 ∧ wr.ownsRow w.heap.size 9 1 v out2.length (txtCells out2)) ∧ Below w.heap.size w wr from ⟨⟨passB true u.es u.bd o0, out, _, rfl, ⟨j, by rw [hr9, HO0.out], by rw [hr9, hr9]⟩, hB.same, by omega, owns_mono (by have := HSZ.out; omega) hB.own⟩, below_step HB0.out hB.below⟩)
              clear hB K1 hr9 hfx ho9 hl2 hfw2 hlen0
              rw [h9]
              clear h9
              go_wp2
              go_ret
              exact HP.out
            · have HR := Lib.hid (show Q1 w0 u gr rs (.slice ao out.length co) wr from ⟨j + 1, out, hfx ▸ hl2, hfx ▸ hB⟩)
              clear hB K1 hfx
              rw [h9]
              clear h9
              go_wp2
              go_roundw
              case rel => exact HR.out
              case measure => (simp [lenS] <;> omega)

end Go.Proofs.YtilijbpbnlnhlaaGreat.Pr
