/-
  THE WALKS of impl.newBinder and impl.Bound.
-/
import Derived.Test.YtilijbpbnlnhlaaGreatPW4
namespace Go.Proofs.YtilijbpbnlnhlaaGreat.Pr
open Go Go.RowKit Go.Maps Go.WideMaps Go.Sort Go.Proofs

/-- A binder whose equations give nothing more. -/
def NbPost (K : Bool) (u : Ru) (w : World) (e : Ending) (w' : World) : Prop :=
  (∃ (gb mb : Nat) (v : Array Value) (r : List ByteArray) (D : DataW Unit), e = .returned (.pointer (some ⟨gb, 0, none⟩)) ∧ Fix K u.es u.bd r ∧ w'.heap[gb]? = some (.cells v 81 (0, 0)) ∧ v[7]? = some (.map (some mb)) ∧ NameMap D (sel u.es r) ∧ w'.ownsMap Tryz.prog 9 (plainElem Tryz.prog 3) mb 60 D) ∧ Below w.heap.size w w'

theorem own_intsW {W : World} {base n : Nat} {a : Option Addr} {c : Nat} {L : List Nat} (hn : L.length = n) (h : W.ownsRow base 3 1 (.slice a n c) n (intCells (ints L))) : IntsIn (fun b => b < W.heap.size) W a (ints L) := by
  intro i hi
  rw [ints_len] at hi
  obtain ⟨g, c', hv, h1, h2⟩ := h.form (by omega)
  simp only [Value.slice.injEq, true_and] at hv
  obtain ⟨rfl, rfl⟩ := hv
  refine ⟨g, 0, rfl, h2, ?_⟩
  rw [Nat.zero_add, h.cellAt i (by omega)]
  simp [intCells, ints_len, hi]
/-- The binder has been made; nothing is bound. -/
def NbCut (K : Bool) (u : Ru) (w0 : World) (v3 : Value) (wx : World) : Prop := ∃ c : Bx, c.u = u ∧ c.K = K ∧ v3 = .pointer (some ⟨c.gb, 0, none⟩) ∧ c.At [] wx ∧ Below w0.heap.size w0 wx ∧ w0.heap.size ≤ c.mb
theorem sel_nil (es : List It) : sel es [] = [] := by
  classical
  unfold sel
  simp
theorem nb_make {K : Bool} {u : Ru} (hok : RuleOk u) (hw : u.wt ≤ 1048576) {aes ahd abd : Option Addr} {ces chd cbd : Nat} {S : Nat → Prop} {w0 wx : World} {mn mb n : Nat} {D : DataW Unit} (hF : FRu S w0 [.slice aes u.es.length ces, .int .i64 u.hd.k, .string u.hd.s, .slice ahd u.hd.xs.length chd, .slice abd u.bd.length cbd] u) (hS : ∀ b, S b → b < w0.heap.size)
    (hb : Below w0.heap.size w0 wx) (hN : NameMap D (allNamed u.es)) (hon : wx.ownsMap Tryz.prog 9 (plainElem Tryz.prog 3) mn n D) (hmb : wx.heap[mb]? = some (.map #[] 0)) (hge : w0.heap.size ≤ mb) (hne : mn ≠ mb) :
    NbCut K u w0 (.pointer (some ⟨wx.heap.size, 0, none⟩)) (wx.alloc (.cells #[.slice aes u.es.length ces, .int .i64 u.hd.k, .string u.hd.s, .slice ahd u.hd.xs.length chd, .slice abd u.bd.length cbd, kfun K, .map (some mn), .map (some mb)] 81)) := by
  have hb2 : Below wx.heap.size wx (wx.alloc (.cells #[.slice aes u.es.length ces, .int .i64 u.hd.k, .string u.hd.s, .slice ahd u.hd.xs.length chd, .slice abd u.bd.length cbd, kfun K, .map (some mn), .map (some mb)] 81)) := (Below.refl _ _).alloc (Nat.le_refl _) _
  have hb3 := below_step hb hb2
  refine ⟨⟨u, aes, ces, ahd, chd, abd, cbd, S, wx.heap.size, mn, mb, K, hok.good.tree, hw, hok⟩, rfl, rfl, rfl, ⟨heap_alloc_new wx _, FRu_keeps.1 _ _ _ _ _ hF (Same.below hS hb3), fun b h => ⟨Nat.lt_of_lt_of_le (hS b h) hb3.size, by have := hS b h; show b ≠ mb; omega⟩, ⟨n, D, hN, hon.alloc _⟩, ⟨.map [], ?_, ?_⟩, hne⟩, hb3, hge⟩
  · show NameMap (.map []) (sel u.es [])
    rw [sel_nil]; exact NameMap.nil
  · have hm : wx.ownsMap (H := Unit) Tryz.prog 9 (plainElem Tryz.prog 3) mb 0 (.map []) := by
      obtain ⟨es, clock, h1, h2, h3, h4⟩ := World.ownsMap_made (H := Unit) wx Tryz.prog 9 (plainElem Tryz.prog 3)
      have e : (wx.alloc (.map #[] 0)).heap[wx.heap.size]? = some (.map #[] 0) := heap_alloc_new wx _
      rw [e] at h1
      have h5 := Option.some.inj h1
      simp only [Obj.map.injEq] at h5
      obtain ⟨rfl, rfl⟩ := h5
      exact ⟨#[], 0, hmb, h2, h3, h4⟩
    exact (hm.mono (Nat.zero_le 60)).alloc _

theorem Bx.args (c : Bx) : ArgsIn c.u.es c.u.bd := fun l hl => ⟨fun x hx => by have := (c.lit hl).2 x hx; omega, fun h3 => by
  have h2 : l.xs.length = 2 := by
    have := (c.lit hl).1
    unfold litOk at this
    rw [h3] at this
    simpa using this
  have g : ∀ k (hk : k < l.xs.length), (l.xs.getD k 0).toNat < c.u.es.length := fun k hk => by
    rw [List.getD_eq_getElem?_getD, List.getElem?_eq_getElem hk]
    have := (c.lit hl).2 l.xs[k] (List.getElem_mem hk)
    show l.xs[k].toNat < _
    omega
  exact ⟨g 0 (by omega), g 1 (by omega)⟩⟩
theorem Bx.len (c : Bx) (k : Nat) : (passN c.K c.u.es c.u.bd k).length ≤ 60 := by
  have h := tame_passN (K := c.K) c.tree c.args k
  have h1 := sub_len h.1 (show (allNames c.u.es).Nodup from List.pairwise_map.2 (allNamed_apart _)) h.2
  have h2 := allNames_len c.u.es
  have h3 := c.tree.few
  omega
theorem Bx.At.size {c : Bx} {k : Nat} {w : World} (h : c.At (passN c.K c.u.es c.u.bd k) w) : ∃ D, NameMap D (sel c.u.es (passN c.K c.u.es c.u.bd k)) ∧ w.ownsMap Tryz.prog 9 (plainElem Tryz.prog 3) c.mb 60 D ∧ Maps.size D = (passN c.K c.u.es c.u.bd k).length := by
  obtain ⟨D, h1, h2⟩ := h.bound
  have ht := tame_passN (K := c.K) c.tree c.args k
  exact ⟨D, h1, h2, by rw [h1.size h2 ((allNamed_apart _).sublist (sel_sub _ _)), sel_len ht.1 ht.2]⟩
/-- Behind k passes; before is how many names there were ahead of the last one. -/
def NbRel (c : Bx) (wc : World) (v : Value) (wr : World) : Prop :=
  ∃ (k : Nat) (before : Int), v = .int .i64 before ∧ ((before = -1 ∧ k = 0) ∨ ∃ k', k = k' + 1 ∧ before = ((passN c.K c.u.es c.u.bd k').length : Int)) ∧ c.At (passN c.K c.u.es c.u.bd k) wr ∧ wc.grownBy wr (some c.mb)

set_option maxRecDepth 100000 in
set_option maxHeartbeats 4000000 in
theorem newBinder_any (K : Bool) (u : Ru) (hok : RuleOk u) (vs : List Value) (S : Nat → Prop) (w : World) (hF : FRu S w vs u) (hS : ∀ b, S b → b < w.heap.size) (hw : u.wt ≤ 1048576) : Calls Tryz.prog 53 #[.agg vs.toArray, kfun K] w (NbPost K u w) := by
  have hF0 := hF
  obtain ⟨aes, ces, ahd, chd, abd, cbd, rfl, r0, r1, r2⟩ := hF
  have hb0 : Below w.heap.size w (w.alloc (.cells #[.slice aes u.es.length ces, .int .i64 u.hd.k, .string u.hd.s, .slice ahd u.hd.xs.length chd, .slice abd u.bd.length cbd] 36)) := (Below.refl _ _).alloc (Nat.le_refl _) _
  have k0 := heap_alloc_new w (.cells #[.slice aes u.es.length ces, .int .i64 u.hd.k, .string u.hd.s, .slice ahd u.hd.xs.length chd, .slice abd u.bd.length cbd] 36)
  obtain ⟨w0, hw0⟩ : ∃ w0, w.alloc (.cells #[.slice aes u.es.length ces, .int .i64 u.hd.k, .string u.hd.s, .slice ahd u.hd.xs.length chd, .slice abd u.bd.length cbd] 36) = w0 := ⟨_, rfl⟩
  rw [hw0] at hb0 k0
  have hfew := hok.good.few
  have hF00 := FRu_keeps.1 _ _ _ _ _ hF0 (Same.below hS hb0)
  have hS00 : ∀ b, S b → b < w0.heap.size := fun b h => Nat.lt_of_lt_of_le (hS b h) hb0.size
  have HF := Lib.hid (fun (W : World) (h : Below w0.heap.size w0 W) => FRu_keeps.1 _ _ _ _ _ hF00 (Same.below hS00 h))
  have HS := Lib.hid hS00
  have HAP := Lib.hid (fun (W : World) (h : Below w0.heap.size w0 W) => allParts_any u _ S W (HF.out W h) (by omega))
  have HNA := Lib.hid (fun (W : World) (h : Below w0.heap.size w0 W) (a : Option Addr) (c : Nat) (hi : IntsIn (fun b => b < W.heap.size) W a (ints (List.range u.es.length))) => namesAt_any u (List.range u.es.length) a c _ S _ W (HF.out W h) (fun b hb => Nat.lt_of_lt_of_le (HS.out b hb) h.size) hw hi (fun b h => h) (fun m hm => by simpa using hm) (by simp; omega))
  simp only [List.length_range] at HNA
  have HOK := Lib.hid hok
  have HW := Lib.hid hw
  have HB0 := Lib.hid hb0
  have hg0 : w.heap.size < w0.heap.size := lt_of_block k0
  have q0 := cell_of_row _ w.heap.size 0 _ _ _ k0
  have q1 := cell_of_row _ w.heap.size 1 _ _ _ k0
  have q2 := cell_of_row _ w.heap.size 2 _ _ _ k0
  have q3 := cell_of_row _ w.heap.size 3 _ _ _ k0
  have q4 := cell_of_row _ w.heap.size 4 _ _ _ k0
  simp only [List.getElem?_toArray, List.getElem?_cons_zero, List.getElem?_cons_succ] at q0 q1 q2 q3 q4
  have hB0 : Below w0.heap.size w0 w0 := Below.refl _ _
  have hmm := @run_makeMap Tryz.prog
  clear hF0 r0 r1 r2 hS hb0 k0 hok hw hF00 hS00
  go_enter Tryz.func53, Tryz.ntmps53
  go_upto_region 1 with fail
  obtain ⟨fK, hfK⟩ : ∃ f, kfun K = .func (.func f) #[] #[] := by cases K <;> exact ⟨_, rfl⟩
  rw [hfK]
  go_cut [5] from 7 to 15 (fun v3 wx => NbCut K u w0 v3 wx)
  case first =>
    go_region_held3 (fun w' => w'.cell? ⟨w.heap.size, 0, none⟩ = some (.slice aes u.es.length ces) ∧ w'.cell? ⟨w.heap.size, 1, none⟩ = some (.int .i64 u.hd.k) ∧ w'.cell? ⟨w.heap.size, 2, none⟩ = some (.string u.hd.s) ∧ w'.cell? ⟨w.heap.size, 3, none⟩ = some (.slice ahd u.hd.xs.length chd) ∧ w'.cell? ⟨w.heap.size, 4, none⟩ = some (.slice abd u.bd.length cbd) ∧ Below w0.heap.size w0 w')
        (refine ⟨?_, ?_, ?_, ?_, ?_, ?_⟩ <;> (first | assumption | (simp [*]; done) | (apply Below.drew; assumption) | exact below_alloc hb8' _ | exact below_alloc hb7' _ | exact below_alloc hB0.drew _ | exact (below_alloc hB0 _).drew | exact below_alloc (below_alloc hb8' _) _ | (refine cell_keep_alloc ?_ _; first | assumption | (simp [*]; done))))
        (first
          | (go_at_call 69
             refine (HAP.out _ (by first | assumption | (apply Below.drew; assumption) | exact (below_alloc hB0 _).drew | exact below_alloc hB0.drew _)).mono ?_
             rintro e7 w7 ⟨⟨a7, c7, rfl, ho7⟩, hb7⟩
             have hb7' : Below w0.heap.size w0 w7 := below_keep (by first | assumption | (apply Below.drew; assumption) | exact (below_alloc hB0 _).drew | exact below_alloc hB0.drew _) hb7
             have HO7 := Lib.hid ho7
             have HB7 := Lib.hid hb7
             have z70 := (hb7'.cell (p := ⟨w.heap.size, 0, none⟩) hg0).trans q0
             have z71 := (hb7'.cell (p := ⟨w.heap.size, 1, none⟩) hg0).trans q1
             have z72 := (hb7'.cell (p := ⟨w.heap.size, 2, none⟩) hg0).trans q2
             have z73 := (hb7'.cell (p := ⟨w.heap.size, 3, none⟩) hg0).trans q3
             have z74 := (hb7'.cell (p := ⟨w.heap.size, 4, none⟩) hg0).trans q4
             clear ho7 hb7)
          | (go_at_call 68
             refine (HNA.out _ (by first | assumption | exact below_alloc hb7' _) a7 c7 (by first | exact own_intsW (by simp) HO7.out | exact own_intsW (by simp) (HO7.out.alloc _))).mono ?_
             rintro e8 w8 ⟨⟨B8, k8, D8, rfl, hB8, _, hN8, ho8⟩, hb8⟩
             have hb8' : Below w0.heap.size w0 w8 := below_keep (by first | assumption | exact below_alloc hb7' _) hb8
             have HO8 := Lib.hid ho8
             have HN8 := Lib.hid hN8
             have HB8 := Lib.hid hb8
             have HG8 := Lib.hid hB8
             have z80 := (hb8'.cell (p := ⟨w.heap.size, 0, none⟩) hg0).trans q0
             have z81 := (hb8'.cell (p := ⟨w.heap.size, 1, none⟩) hg0).trans q1
             have z82 := (hb8'.cell (p := ⟨w.heap.size, 2, none⟩) hg0).trans q2
             have z83 := (hb8'.cell (p := ⟨w.heap.size, 3, none⟩) hg0).trans q3
             have z84 := (hb8'.cell (p := ⟨w.heap.size, 4, none⟩) hg0).trans q4
             clear ho8 hN8 hb8 hB8)
          | fail)
    all_goals (go_wp2_with fail; go_meet)
    · have h8 := HO8.out.lt
      have h := nb_make (K := K) HOK.out HW.out (HF.out w0 hB0) HS.out (below_alloc hb8' (.map #[] 0)) HN8.out (HO8.out.alloc (.map #[] 0)) (heap_alloc_new w8 (.map #[] 0)) hb8'.size (by omega) (aes := aes) (ahd := ahd) (abd := abd) (ces := ces) (chd := chd) (cbd := cbd)
      rw [show w8.heap.size + 1 = (w8.alloc (.map #[] 0)).heap.size by simp]
      rw [hfK] at h
      exact h
    · have h8 := HG8.out
      have e8 : (w7.alloc (.map #[] 0)).heap.size = w7.heap.size + 1 := by simp
      have h := nb_make (K := K) HOK.out HW.out (HF.out w0 hB0) HS.out hb8' HN8.out HO8.out ((HB8.out.block w7.heap.size (by omega)).trans (heap_alloc_new w7 (.map #[] 0))) hb7'.size (by omega)
      rw [hfK] at h
      exact h
    · have h8 := HG8.out
      have e8 : (w0.alloc (.map #[] 0)).drew.heap.size = w0.heap.size + 1 := by show (w0.alloc (.map #[] 0)).heap.size = _; simp
      have h7 := HB7.out.size
      have k7 := (HB7.out.block w0.heap.size (by omega)).trans (heap_alloc_new w0 (.map #[] 0))
      have h := nb_make (K := K) HOK.out HW.out (HF.out w0 hB0) HS.out hb8' HN8.out HO8.out ((HB8.out.block w0.heap.size (by omega)).trans k7) (Nat.le_refl _) (by omega)
      rw [hfK] at h
      exact h
  case rest =>
    obtain ⟨c, hcu, hcK, rfl, hA, hb, hge⟩ := hcut
    have HBA := Lib.hid (bindByAtoms_any c wc hA)
    have HB := Lib.hid (below_step HB0.out hb)
    have HGE := Lib.hid (Nat.le_trans HB0.out.size hge)
    have HWC := Lib.hid (show w.heap.size ≤ wc.heap.size from HB.out.size)
    have HCU := Lib.hid hcu
    have HCK := Lib.hid hcK
    clear hcu hcK hA hb hge HF HS HAP HNA HOK HW HB0 hB0 q0 q1 q2 q3 q4 hmm
    go_wp2_with fail
    refine HBA.out.mono ?_
    rintro e w1 ⟨rfl, hg1, hA1⟩
    have HST := Lib.hid (show NbRel c wc (.int .i64 (-1)) w1 from ⟨0, -1, rfl, .inl ⟨rfl, rfl⟩, hA1, hg1⟩)
    clear hg1 hA1 HBA
    go_wp2
    go_loopw [6] (fun v wr => NbRel c wc v wr) (fun v _ => (60 - intOf v).toNat)
    case atStart => exact HST.out
    case round =>
      obtain ⟨k, before, rfl, hor, hA, hg⟩ := hrel
      clear HST
      obtain ⟨D, hN, hown, hsz⟩ := hA.size
      have k6 := hA.blk
      have c6 := cell_of_row _ c.gb 7 _ _ _ k6
      simp only [List.getElem?_toArray, List.getElem?_cons_zero, List.getElem?_cons_succ] at c6
      have hln := c.len k
      have HOW := Lib.hid hown
      have HSZ := Lib.hid hsz
      have HBE := Lib.hid (bindByEquations_any c _ wr hA)
      have HG := Lib.hid hg
      by_cases hlt : before < ((passN c.K c.u.es c.u.bd k).length : Int)
      · have hd : decide (before < ((passN c.K c.u.es c.u.bd k).length : Int)) = true := decide_eq_true hlt
        have HNX := Lib.hid (fun (w2 : World) (h : c.At (passB c.K c.u.es c.u.bd (passN c.K c.u.es c.u.bd k)) w2) (hg2 : wr.grownBy w2 (some c.mb)) => (⟨k + 1, _, rfl, .inr ⟨k, rfl, rfl⟩, h, grown_step HG.out hg2⟩ : NbRel c wc (.int .i64 ((passN c.K c.u.es c.u.bd k).length : Int)) w2))
        clear hA hg hN hown hsz k6 hor
        go_wp2_with (first
          | (at_len; refine wpList_len_own _ rfl _ 55 rfl 9 3 Tryz.underlying55 _ c.mb 60 D rfl HOW.out ?_; rw [HSZ.out])
          | (go_at_call 71; refine HBE.out.mono ?_; rintro e w2 ⟨rfl, hg2, hA2⟩))
        have HR := Lib.hid (HNX.out w2 hA2 hg2)
        clear hg2 hA2 HNX
        go_roundw
        case rel => exact HR.out
        case measure => (simp [intOf] <;> omega)
      · have hd : decide (before < ((passN c.K c.u.es c.u.bd k).length : Int)) = false := decide_eq_false hlt
        have hfix : Fix c.K c.u.es c.u.bd (passN c.K c.u.es c.u.bd k) := by
          rcases hor with ⟨h1, _⟩ | ⟨k', rfl, h1⟩
          · omega
          · have h2 : (passB c.K c.u.es c.u.bd (passN c.K c.u.es c.u.bd k')).length = (passN c.K c.u.es c.u.bd k').length := by
              obtain ⟨r, hr⟩ := grow_pass c.u.es c.u.bd (passN c.K c.u.es c.u.bd k')
              have h3 : ¬ (((passN c.K c.u.es c.u.bd k').length : Int) < ((passB c.K c.u.es c.u.bd (passN c.K c.u.es c.u.bd k')).length : Int)) := by rw [h1] at hlt; exact hlt
              rw [hr, List.length_append] at h3 ⊢
              omega
            have h4 := pass_fix h2
            exact ⟨k' + 1, rfl, by show passB c.K c.u.es c.u.bd (passB c.K c.u.es c.u.bd (passN c.K c.u.es c.u.bd k')) = passB c.K c.u.es c.u.bd (passN c.K c.u.es c.u.bd k'); rw [h4]; exact h4⟩
        have HP := Lib.hid (show NbPost K u w (.returned (.pointer (some ⟨c.gb, 0, none⟩))) wr from ⟨⟨c.gb, c.mb, _, passN c.K c.u.es c.u.bd k, D, rfl, by rw [← HCU.out, ← HCK.out]; exact hfix, k6, rfl, by rw [← HCU.out]; exact hN, hown⟩, HB.out.trans (grown_below HG.out HWC.out HGE.out)⟩)
        clear hA hg hN hown hsz k6 hor hfix HBE hlt
        go_wp2_with (first
          | (at_len; refine wpList_len_own _ rfl _ 55 rfl 9 3 Tryz.underlying55 _ c.mb 60 D rfl HOW.out ?_; rw [HSZ.out]))
        go_ret
        exact HP.out

open Classical in
/-- What Bound (K is false) and Old (K is true) answer. -/
noncomputable def namesAns (K : Bool) (u : Ru) : List ByteArray := if h : RuleOk u ∧ ∃ r, Fix K u.es u.bd r then (sel u.es (Classical.choose h.2)).map Prod.fst else []
theorem boundAns_ok {K : Bool} {u : Ru} (h : RuleOk u) {r : List ByteArray} (hr : Fix K u.es u.bd r) : namesAns K u = (sel u.es r).map Prod.fst := by
  have hh : RuleOk u ∧ ∃ r, Fix K u.es u.bd r := ⟨h, r, hr⟩
  unfold namesAns
  rw [dif_pos hh, (Classical.choose_spec hh.2).one hr]
theorem boundAns_no {K : Bool} {u : Ru} (h : ¬ RuleOk u) : namesAns K u = [] := dif_neg (fun hh => h hh.1)
theorem boundAns_len (K : Bool) (u : Ru) : (namesAns K u).length ≤ 60 := by
  by_cases h : RuleOk u ∧ ∃ r, Fix K u.es u.bd r
  · unfold namesAns
    rw [dif_pos h, List.length_map]
    have h1 := (sel_sub u.es (Classical.choose h.2)).length_le
    have h2 := allNamed_len u.es
    have h3 := h.1.good.few
    omega
  · unfold namesAns
    rw [dif_neg h]; simp
def NamesPost (K : Bool) (u : Ru) (w : World) (e : Ending) (w' : World) : Prop := (∃ v : Value, e = .returned v ∧ w'.ownsRow w.heap.size 9 1 v (namesAns K u).length (txtCells (namesAns K u))) ∧ Below w.heap.size w w'
noncomputable abbrev boundAns (u : Ru) : List ByteArray := namesAns false u
abbrev BoundPost (u : Ru) := NamesPost false u
/-- A set of names that the rule's body binds, as a map. -/
def SetPost (K : Bool) (u : Ru) (w : World) (e : Ending) (w' : World) : Prop :=
  (∃ (mb : Nat) (r : List ByteArray) (D : DataW Unit), e = .returned (.map (some mb)) ∧ Fix K u.es u.bd r ∧ NameMap D (sel u.es r) ∧ w'.ownsMap Tryz.prog 9 (plainElem Tryz.prog 3) mb 60 D) ∧ Below w.heap.size w w'

set_option maxRecDepth 100000 in
set_option maxHeartbeats 2000000 in
theorem boundNames_any (u : Ru) (hok : RuleOk u) (vs : List Value) (S : Nat → Prop) (w : World) (hF : FRu S w vs u) (hS : ∀ b, S b → b < w.heap.size) (hw : u.wt ≤ 1048576) : Calls Tryz.prog 29 #[.agg vs.toArray] w (SetPost false u w) := by
  have hF0 := hF
  obtain ⟨aes, ces, ahd, chd, abd, cbd, rfl, r0, r1, r2⟩ := hF
  have hb0 : Below w.heap.size w (w.alloc (.cells #[.slice aes u.es.length ces, .int .i64 u.hd.k, .string u.hd.s, .slice ahd u.hd.xs.length chd, .slice abd u.bd.length cbd] 36)) := (Below.refl _ _).alloc (Nat.le_refl _) _
  have HNB := Lib.hid (newBinder_any false u hok _ S _ (FRu_keeps.1 _ _ _ _ _ hF0 (Same.below hS hb0)) (fun b h => Nat.lt_of_lt_of_le (hS b h) hb0.size) hw)
  have HB0 := Lib.hid hb0
  clear hF0 r0 r1 r2 hS hb0 hw hok
  go_enter Tryz.func29, Tryz.ntmps29
  go_wp2_with fail
  refine HNB.out.mono ?_
  rintro e w2 ⟨⟨gb, mb, v, rr, D, rfl, hfix, hk, hv6, hN, hown⟩, hb2⟩
  have c6 := cell_of_row _ gb 7 _ _ _ hk
  rw [hv6] at c6
  have HP := Lib.hid (show SetPost false u w (.returned (.map (some mb))) w2 from ⟨⟨mb, rr, D, rfl, hfix, hN, hown⟩, below_step HB0.out hb2⟩)
  clear hfix hk hv6 hN hown hb2 HNB
  go_wp2
  go_ret
  exact HP.out

set_option maxRecDepth 100000 in
set_option maxHeartbeats 2000000 in
theorem oldNames_any (u : Ru) (hok : RuleOk u) (vs : List Value) (S : Nat → Prop) (w : World) (hF : FRu S w vs u) (hS : ∀ b, S b → b < w.heap.size) (hw : u.wt ≤ 1048576) : Calls Tryz.prog 39 #[.agg vs.toArray] w (SetPost true u w) := by
  have hF0 := hF
  obtain ⟨aes, ces, ahd, chd, abd, cbd, rfl, r0, r1, r2⟩ := hF
  have hb0 : Below w.heap.size w (w.alloc (.cells #[.slice aes u.es.length ces, .int .i64 u.hd.k, .string u.hd.s, .slice ahd u.hd.xs.length chd, .slice abd u.bd.length cbd] 36)) := (Below.refl _ _).alloc (Nat.le_refl _) _
  have HNB := Lib.hid (newBinder_any true u hok _ S _ (FRu_keeps.1 _ _ _ _ _ hF0 (Same.below hS hb0)) (fun b h => Nat.lt_of_lt_of_le (hS b h) hb0.size) hw)
  have HB0 := Lib.hid hb0
  clear hF0 r0 r1 r2 hS hb0 hw hok
  go_enter Tryz.func39, Tryz.ntmps39
  go_wp2_with fail
  refine HNB.out.mono ?_
  rintro e w2 ⟨⟨gb, mb, v, rr, D, rfl, hfix, hk, hv6, hN, hown⟩, hb2⟩
  have c6 := cell_of_row _ gb 7 _ _ _ hk
  rw [hv6] at c6
  have HP := Lib.hid (show SetPost true u w (.returned (.map (some mb))) w2 from ⟨⟨mb, rr, D, rfl, hfix, hN, hown⟩, below_step HB0.out hb2⟩)
  clear hfix hk hv6 hN hown hb2 HNB
  go_wp2
  go_ret
  exact HP.out

set_option maxRecDepth 100000 in
set_option maxHeartbeats 2000000 in
theorem implBound_any (u : Ru) (vs : List Value) (S : Nat → Prop) (w : World) (hF : FRu S w vs u) (hS : ∀ b, S b → b < w.heap.size) (hw : u.wt ≤ 1048576) : Calls Tryz.prog 9 #[.agg vs.toArray] w (NamesPost false u w) := by
  have hF0 := hF
  obtain ⟨aes, ces, ahd, chd, abd, cbd, rfl, r0, r1, r2⟩ := hF
  have hb0 : Below w.heap.size w (w.alloc (.cells #[.slice aes u.es.length ces, .int .i64 u.hd.k, .string u.hd.s, .slice ahd u.hd.xs.length chd, .slice abd u.bd.length cbd] 36)) := (Below.refl _ _).alloc (Nat.le_refl _) _
  have k0 := heap_alloc_new w (.cells #[.slice aes u.es.length ces, .int .i64 u.hd.k, .string u.hd.s, .slice ahd u.hd.xs.length chd, .slice abd u.bd.length cbd] 36)
  obtain ⟨w0, hw0⟩ : ∃ w0, w.alloc (.cells #[.slice aes u.es.length ces, .int .i64 u.hd.k, .string u.hd.s, .slice ahd u.hd.xs.length chd, .slice abd u.bd.length cbd] 36) = w0 := ⟨_, rfl⟩
  rw [hw0] at hb0 k0
  have HHF := Lib.hid (hasForm_any u _ S w0 (FRu_keeps.1 _ _ _ _ _ hF0 (Same.below hS hb0)) (fun b h => Nat.lt_of_lt_of_le (hS b h) hb0.size) hw)
  have HF := Lib.hid (fun (W : World) (h : Below w.heap.size w W) => FRu_keeps.1 _ _ _ _ _ hF0 (Same.below hS h))
  have HS := Lib.hid (fun (W : World) (h : Below w.heap.size w W) (b : Nat) (hb : S b) => Nat.lt_of_lt_of_le (hS b hb) h.size)
  have HB0 := Lib.hid hb0
  have HK0 := Lib.hid k0
  have HW := Lib.hid hw
  have q0 := cell_of_row _ w.heap.size 0 _ _ _ k0
  have q1 := cell_of_row _ w.heap.size 1 _ _ _ k0
  have q2 := cell_of_row _ w.heap.size 2 _ _ _ k0
  have q3 := cell_of_row _ w.heap.size 3 _ _ _ k0
  have q4 := cell_of_row _ w.heap.size 4 _ _ _ k0
  simp only [List.getElem?_toArray, List.getElem?_cons_zero, List.getElem?_cons_succ] at q0 q1 q2 q3 q4
  clear hF0 r0 r1 r2 hS hb0 k0 hw
  go_enter Tryz.func9, Tryz.ntmps9
  go_wp2_with fail
  refine HHF.out.mono ?_
  rintro e w1 ⟨⟨r, rfl, hr⟩, hb1⟩
  have HB1 := Lib.hid (below_step HB0.out hb1)
  have K1 := (hb1.block _ (lt_of_block HK0.out)).trans HK0.out
  clear q0 q1 q2 q3 q4 HHF hb1
  cases r with
  | false =>
    have HP := Lib.hid (show NamesPost false u w (.returned (.slice none 0 0)) w1 from ⟨⟨_, rfl, by rw [boundAns_no (fun h => by have := hr.2 h; cases this)]; exact World.ownsRow_nil _ _ _ _⟩, HB1.out⟩)
    clear hr K1
    go_wp2
    go_ret
    exact HP.out
  | true =>
    have HOK := Lib.hid (hr.1 rfl)
    have q0 := cell_of_row _ w.heap.size 0 _ _ _ K1
    have q1 := cell_of_row _ w.heap.size 1 _ _ _ K1
    have q2 := cell_of_row _ w.heap.size 2 _ _ _ K1
    have q3 := cell_of_row _ w.heap.size 3 _ _ _ K1
    have q4 := cell_of_row _ w.heap.size 4 _ _ _ K1
    simp only [List.getElem?_toArray, List.getElem?_cons_zero, List.getElem?_cons_succ] at q0 q1 q2 q3 q4
    have HNB := Lib.hid (boundNames_any u HOK.out _ S w1 (HF.out w1 HB1.out) (HS.out w1 HB1.out) HW.out)
    clear hr K1
    go_wp2_with fail
    refine HNB.out.mono ?_
    rintro e w2 ⟨⟨mb, rr, D, rfl, hfix, hN, hown⟩, hb2⟩
    have hel : u.es.length ≤ 1048576 := by have := HOK.out.good.few; omega
    have HIO := Lib.hid (inOrder_any _ (sel_ranked HW.out hel rr) mb 60 D w2 hN hown)
    rw [← boundAns_ok HOK.out hfix] at HIO
    have HB2 := Lib.hid (below_step HB1.out hb2)
    clear hfix hN hown hb2 HNB q0 q1 q2 q3 q4
    go_wp2_with fail
    refine HIO.out.mono ?_
    rintro e w3 ⟨⟨v3, rfl, ho3⟩, hb3⟩
    obtain ⟨a3, c3, rfl⟩ := owns_shape ho3
    have HP := Lib.hid (show NamesPost false u w (.returned (.slice a3 (namesAns false u).length c3)) w3 from ⟨⟨_, rfl, owns_mono HB2.out.size ho3⟩, below_step HB2.out hb3⟩)
    clear ho3 hb3 HIO
    go_wp2
    go_ret
    exact HP.out

set_option maxRecDepth 100000 in
set_option maxHeartbeats 2000000 in
theorem implOld_any (u : Ru) (vs : List Value) (S : Nat → Prop) (w : World) (hF : FRu S w vs u) (hS : ∀ b, S b → b < w.heap.size) (hw : u.wt ≤ 1048576) : Calls Tryz.prog 16 #[.agg vs.toArray] w (NamesPost true u w) := by
  have hF0 := hF
  obtain ⟨aes, ces, ahd, chd, abd, cbd, rfl, r0, r1, r2⟩ := hF
  have hb0 : Below w.heap.size w (w.alloc (.cells #[.slice aes u.es.length ces, .int .i64 u.hd.k, .string u.hd.s, .slice ahd u.hd.xs.length chd, .slice abd u.bd.length cbd] 36)) := (Below.refl _ _).alloc (Nat.le_refl _) _
  have k0 := heap_alloc_new w (.cells #[.slice aes u.es.length ces, .int .i64 u.hd.k, .string u.hd.s, .slice ahd u.hd.xs.length chd, .slice abd u.bd.length cbd] 36)
  obtain ⟨w0, hw0⟩ : ∃ w0, w.alloc (.cells #[.slice aes u.es.length ces, .int .i64 u.hd.k, .string u.hd.s, .slice ahd u.hd.xs.length chd, .slice abd u.bd.length cbd] 36) = w0 := ⟨_, rfl⟩
  rw [hw0] at hb0 k0
  have HHF := Lib.hid (hasForm_any u _ S w0 (FRu_keeps.1 _ _ _ _ _ hF0 (Same.below hS hb0)) (fun b h => Nat.lt_of_lt_of_le (hS b h) hb0.size) hw)
  have HF := Lib.hid (fun (W : World) (h : Below w.heap.size w W) => FRu_keeps.1 _ _ _ _ _ hF0 (Same.below hS h))
  have HS := Lib.hid (fun (W : World) (h : Below w.heap.size w W) (b : Nat) (hb : S b) => Nat.lt_of_lt_of_le (hS b hb) h.size)
  have HB0 := Lib.hid hb0
  have HK0 := Lib.hid k0
  have HW := Lib.hid hw
  have q0 := cell_of_row _ w.heap.size 0 _ _ _ k0
  have q1 := cell_of_row _ w.heap.size 1 _ _ _ k0
  have q2 := cell_of_row _ w.heap.size 2 _ _ _ k0
  have q3 := cell_of_row _ w.heap.size 3 _ _ _ k0
  have q4 := cell_of_row _ w.heap.size 4 _ _ _ k0
  simp only [List.getElem?_toArray, List.getElem?_cons_zero, List.getElem?_cons_succ] at q0 q1 q2 q3 q4
  clear hF0 r0 r1 r2 hS hb0 k0 hw
  go_enter Tryz.func16, Tryz.ntmps16
  go_wp2_with fail
  refine HHF.out.mono ?_
  rintro e w1 ⟨⟨r, rfl, hr⟩, hb1⟩
  have HB1 := Lib.hid (below_step HB0.out hb1)
  have K1 := (hb1.block _ (lt_of_block HK0.out)).trans HK0.out
  clear q0 q1 q2 q3 q4 HHF hb1
  cases r with
  | false =>
    have HP := Lib.hid (show NamesPost true u w (.returned (.slice none 0 0)) w1 from ⟨⟨_, rfl, by rw [boundAns_no (fun h => by have := hr.2 h; cases this)]; exact World.ownsRow_nil _ _ _ _⟩, HB1.out⟩)
    clear hr K1
    go_wp2
    go_ret
    exact HP.out
  | true =>
    have HOK := Lib.hid (hr.1 rfl)
    have q0 := cell_of_row _ w.heap.size 0 _ _ _ K1
    have q1 := cell_of_row _ w.heap.size 1 _ _ _ K1
    have q2 := cell_of_row _ w.heap.size 2 _ _ _ K1
    have q3 := cell_of_row _ w.heap.size 3 _ _ _ K1
    have q4 := cell_of_row _ w.heap.size 4 _ _ _ K1
    simp only [List.getElem?_toArray, List.getElem?_cons_zero, List.getElem?_cons_succ] at q0 q1 q2 q3 q4
    have HNB := Lib.hid (oldNames_any u HOK.out _ S w1 (HF.out w1 HB1.out) (HS.out w1 HB1.out) HW.out)
    clear hr K1
    go_wp2_with fail
    refine HNB.out.mono ?_
    rintro e w2 ⟨⟨mb, rr, D, rfl, hfix, hN, hown⟩, hb2⟩
    have hel : u.es.length ≤ 1048576 := by have := HOK.out.good.few; omega
    have HIO := Lib.hid (inOrder_any _ (sel_ranked HW.out hel rr) mb 60 D w2 hN hown)
    rw [← boundAns_ok HOK.out hfix] at HIO
    have HB2 := Lib.hid (below_step HB1.out hb2)
    clear hfix hN hown hb2 HNB q0 q1 q2 q3 q4
    go_wp2_with fail
    refine HIO.out.mono ?_
    rintro e w3 ⟨⟨v3, rfl, ho3⟩, hb3⟩
    obtain ⟨a3, c3, rfl⟩ := owns_shape ho3
    have HP := Lib.hid (show NamesPost true u w (.returned (.slice a3 (namesAns true u).length c3)) w3 from ⟨⟨_, rfl, owns_mono HB2.out.size ho3⟩, below_step HB2.out hb3⟩)
    clear ho3 hb3 HIO
    go_wp2
    go_ret
    exact HP.out

end Go.Proofs.YtilijbpbnlnhlaaGreat.Pr
