/-
  THE REFERENCE: spec.l06Calc, l06Reckoned (which exps are within a sum).
-/
import Derived.Test.YtilijbpbnlnhlaaGreatPW1
import Derived.Test.YtilijbpbnlnhlaaGreatPV5
import Derived.StillTailTactics
namespace Go.Proofs.YtilijbpbnlnhlaaGreat.Pr
open Go Go.RowKit Go.Maps Go.WideMaps

set_option maxRecDepth 100000 in
set_option maxHeartbeats 2000000 in
theorem specCalc_any (k : Int) (w : World) : Calls Tryz.prog 65 #[.int .i64 k] w fun e w' => e = .returned (.bool (isSum k)) ∧ w' = w := by
  have HB := Lib.hid (between_any k 5 7 w)
  have hs : isSum k = (decide (5 ≤ k) && decide (k ≤ 7)) := rfl
  rw [hs]
  go_enter Tryz.func65, Tryz.ntmps65
  go_wp2_with fail
  refine HB.out.mono ?_
  rintro e w1 ⟨rfl, rfl⟩
  clear HB
  go_wp2
  go_ret
  exact ⟨rfl, rfl⟩

/-- What the reference has told, the places from m on being done. -/
structure RInv (es : List It) (bs : List Bool) (m : Nat) : Prop where
  len : bs.length = es.length
  tells : ∀ j, bs[j]? = some true ↔ ∃ p, m ≤ p ∧ p < es.length ∧ j ∈ kidsE es allE p ∧ (isSumAt es p = true ∨ Reck es p)
theorem RInv.start (es : List It) : RInv es (List.replicate es.length false) es.length := by
  refine ⟨by simp, fun j => ⟨fun h => ?_, fun ⟨p, h1, h2, _⟩ => by omega⟩⟩
  rw [List.getElem?_replicate] at h
  split at h <;> simp at h
theorem RInv.at {es : List It} {bs : List Bool} {m : Nat} (T : TreeOk es) (h : RInv es bs (m + 1)) : bs[m]? = some true ↔ Reck es m := by
  rw [h.tells]
  constructor
  · rintro ⟨p, _, hp, hx, hor⟩
    exact Reck.kid hp hx hor
  · intro hr
    obtain ⟨p, hp, hx, hor⟩ := hr.inv
    exact ⟨p, by have := kidsE_lt T hp hx; omega, hp, hx, hor⟩
theorem RInv.fin {es : List It} {bs : List Bool} (h : RInv es bs 0) (j : Nat) : bs[j]? = some true ↔ Reck es j := by
  rw [h.tells]
  constructor
  · rintro ⟨p, _, hp, hx, hor⟩
    exact Reck.kid hp hx hor
  · intro hr
    obtain ⟨p, hp, hx, hor⟩ := hr.inv
    exact ⟨p, Nat.zero_le _, hp, hx, hor⟩
/-- In the midst of place m: its first k kids are told. -/
structure RMid (es : List It) (bs : List Bool) (m k : Nat) (v : Bool) : Prop where
  len : bs.length = es.length
  tells : ∀ j, bs[j]? = some true ↔ (∃ p, m + 1 ≤ p ∧ p < es.length ∧ j ∈ kidsE es allE p ∧ (isSumAt es p = true ∨ Reck es p)) ∨ (v = true ∧ j ∈ ((expAt es m).xs.take k).map Int.toNat)
theorem RMid.start {es : List It} {bs : List Bool} {m : Nat} (h : RInv es bs (m + 1)) (v : Bool) : RMid es bs m 0 v := ⟨h.len, fun j => by rw [h.tells]; simp⟩
theorem RMid.own {es : List It} {bs : List Bool} {m k : Nat} {v : Bool} (T : TreeOk es) (hm : m < es.length) (h : RMid es bs m k v) : bs[m]? = some true ↔ Reck es m := by
  rw [h.tells]
  constructor
  · rintro (⟨p, _, hp, hx, hor⟩ | ⟨_, hx⟩)
    · exact Reck.kid hp hx hor
    · have hx2 : m ∈ kidsE es allE m := by rw [kidsE_all]; obtain ⟨y, hy, e⟩ := List.mem_map.1 hx; exact List.mem_map.2 ⟨y, List.mem_of_mem_take hy, e⟩
      have := kidsE_lt T hm hx2
      omega
  · intro hr
    obtain ⟨p, hp, hx, hor⟩ := hr.inv
    exact .inl ⟨p, by have := kidsE_lt T hp hx; omega, hp, hx, hor⟩
theorem RMid.step {es : List It} {bs : List Bool} {m k : Nat} {v : Bool} (T : TreeOk es) (hm : m < es.length) (h : RMid es bs m k v) (hk : k < (expAt es m).xs.length) : RMid es (bs.set ((expAt es m).xs[k]).toNat v) m (k + 1) v := by
  have hx : ((expAt es m).xs[k]).toNat ∈ kidsE es allE m := by rw [kidsE_all]; exact List.mem_map.2 ⟨_, List.getElem_mem hk, rfl⟩
  have hlt := kidsE_lt T hm hx
  obtain ⟨x, hxx⟩ : ∃ x, ((expAt es m).xs[k]).toNat = x := ⟨_, rfl⟩
  have htk : ((expAt es m).xs.take (k + 1)).map Int.toNat = ((expAt es m).xs.take k).map Int.toNat ++ [x] := by rw [List.take_succ_eq_append_getElem hk, List.map_append, ← hxx]; rfl
  rw [hxx] at hx hlt ⊢
  refine ⟨by rw [List.length_set, h.len], fun j => ?_⟩
  rw [htk, List.mem_append, List.mem_singleton]
  by_cases hj : j = x
  · subst hj
    rw [List.getElem?_set_self (by rw [h.len]; omega)]
    constructor
    · intro hv
      exact .inr ⟨Option.some.inj hv, .inr rfl⟩
    · rintro (⟨p, hp1, hp, hy, _⟩ | ⟨hv, _⟩)
      · exact absurd hx (kidsE_apart T hp hm (by omega) hy)
      · rw [hv]
  · rw [List.getElem?_set_ne (fun e => hj e.symm), h.tells]
    constructor
    · rintro (h1 | ⟨h1, h2⟩)
      · exact .inl h1
      · exact .inr ⟨h1, .inl h2⟩
    · rintro (h1 | ⟨h1, h2 | h2⟩)
      · exact .inl h1
      · exact .inr ⟨h1, h2⟩
      · exact absurd h2 hj
theorem RMid.close {es : List It} {bs : List Bool} {m : Nat} {v : Bool} (hm : m < es.length) (h : RMid es bs m (expAt es m).xs.length v) (hv : v = true ↔ (isSumAt es m = true ∨ Reck es m)) : RInv es bs m := by
  refine ⟨h.len, fun j => ?_⟩
  rw [h.tells, List.take_length, ← kidsE_all]
  constructor
  · rintro (⟨p, h1, h2, h3, h4⟩ | ⟨h1, h2⟩)
    · exact ⟨p, by omega, h2, h3, h4⟩
    · exact ⟨m, Nat.le_refl _, hm, h2, hv.1 h1⟩
  · rintro ⟨p, h1, h2, h3, h4⟩
    by_cases e : p = m
    · subst e; exact .inr ⟨hv.2 h4, h3⟩
    · exact .inl ⟨p, by omega, h2, h3, h4⟩

open Classical in
noncomputable def vOf (es : List It) (m : Nat) : Bool := decide (isSumAt es m = true ∨ Reck es m)
def ROut (w : World) (es : List It) (g : Nat) (v4 : Value) (wr : World) : Prop :=
  ∃ (m : Nat) (i : Int) (bs : List Bool), v4 = .int .i64 i ∧ i = (m : Int) - 1 ∧ m ≤ es.length ∧ RInv es bs m ∧ wr.ownsRow w.heap.size 4 1 (.slice (some ⟨g, 0, none⟩) es.length es.length) es.length (flagCells bs) ∧ Below w.heap.size w wr
def RInn (w : World) (es : List It) (g m : Nat) (v5 : Value) (wr : World) : Prop :=
  ∃ (k : Nat) (bs : List Bool), v5 = .int .i64 (k : Int) ∧ k ≤ (expAt es m).xs.length ∧ RMid es bs m k (vOf es m) ∧ wr.ownsRow w.heap.size 4 1 (.slice (some ⟨g, 0, none⟩) es.length es.length) es.length (flagCells bs) ∧ Below w.heap.size w wr

theorem RInn.drew {w : World} {es : List It} {g m : Nat} {v : Value} {W : World} (h : RInn w es g m v W) : RInn w es g m v W.drew := by
  obtain ⟨k, bs, h1, h2, h3, h4, h5⟩ := h
  exact ⟨k, bs, h1, h2, h3, h4, h5.drew⟩

set_option maxRecDepth 100000 in
set_option maxHeartbeats 4000000 in
theorem specReckoned_any (u : Ru) (vs : List Value) (S : Nat → Prop) (w : World) (hF : FRu S w vs u) (hS : ∀ b, S b → b < w.heap.size) (T : TreeOk u.es) :
    Calls Tryz.prog 48 #[.agg vs.toArray] w fun e w' => (∃ (g : Nat) (bs : List Bool), e = .returned (.slice (some ⟨g, 0, none⟩) u.es.length u.es.length) ∧ RInv u.es bs 0 ∧ w'.ownsRow w.heap.size 4 1 (.slice (some ⟨g, 0, none⟩) u.es.length u.es.length) u.es.length (flagCells bs)) ∧ Below w.heap.size w w' := by
  obtain ⟨aes, ces, ahd, chd, abd, cbd, rfl, r0, r1, r2⟩ := hF
  have hfew := T.few
  have hb0 : Below w.heap.size w (w.alloc (.cells #[.slice aes u.es.length ces, .int .i64 u.hd.k, .string u.hd.s, .slice ahd u.hd.xs.length chd, .slice abd u.bd.length cbd] 36)) := (Below.refl _ _).alloc (Nat.le_refl _) _
  have k0 := heap_alloc_new w (.cells #[.slice aes u.es.length ces, .int .i64 u.hd.k, .string u.hd.s, .slice ahd u.hd.xs.length chd, .slice abd u.bd.length cbd] 36)
  obtain ⟨w0, hw0⟩ : ∃ w0, w.alloc (.cells #[.slice aes u.es.length ces, .int .i64 u.hd.k, .string u.hd.s, .slice ahd u.hd.xs.length chd, .slice abd u.bd.length cbd] 36) = w0 := ⟨_, rfl⟩
  have hsz0 : w0.heap.size = w.heap.size + 1 := by rw [← hw0]; simp
  rw [hw0] at hb0 k0
  have q0 := cell_of_row _ w.heap.size 0 _ _ _ k0
  simp only [List.getElem?_toArray, List.getElem?_cons_zero] at q0
  obtain ⟨i0, hi0, hz0, hz1, hz2⟩ := info_parts infoB1
  have hmk : (Instr.makeSlice 74 (.int .i64 (u.es.length : Int)) (.int .i64 (u.es.length : Int))).run Tryz.prog w0 = .ok (.slice (some ⟨w0.heap.size, 0, none⟩) u.es.length u.es.length) (w0.alloc (.cells (madeCells #[.bool false] u.es.length) 4)) := by
    rw [run_make w0 74 4 i0 _ Tryz.underlying74 hi0 hz0 .i64 .i64 _ _ (by omega) (by omega) (by rw [hz2]; omega) (by omega), hz1, Int.toNat_natCast, Nat.mul_one]
    rfl
  have hown0 : (w0.alloc (.cells (madeCells #[.bool false] u.es.length) 4)).ownsRow w0.heap.size 4 1 (.slice (some ⟨w0.heap.size, 0, none⟩) u.es.length u.es.length) u.es.length (flagCells (List.replicate u.es.length false)) := by
    refine ⟨by simp [flagCells], .inr ⟨w0.heap.size, u.es.length, _, rfl, Nat.le_refl _, heap_alloc_new w0 _, Nat.le_refl _, by unfold maxLen; omega, by rw [size_madeCells, Nat.mul_one], ?_⟩⟩
    rw [toList_madeCells_one, Nat.mul_one]
    simp [flagCells]
  have hb1 := (Below.refl w0.heap.size w0).alloc (Nat.le_refl _) (Obj.cells (madeCells #[.bool false] u.es.length) 4)
  obtain ⟨G, hG⟩ : ∃ G, w0.heap.size = G := ⟨_, rfl⟩
  rw [hG] at hmk
  have hGe : G ≥ w0.heap.size := by omega
  have hown0' := hown0
  rw [show (⟨w0.heap.size, 0, none⟩ : Addr) = ⟨G, 0, none⟩ from by rw [hG]] at hown0'
  clear hown0
  obtain ⟨w1, hw1⟩ : ∃ w1, w0.alloc (.cells (madeCells #[.bool false] u.es.length) 4) = w1 := ⟨_, rfl⟩
  rw [hw1] at hmk hown0' hb1
  have HST := Lib.hid (show ROut w0 u.es G (.int .i64 ((u.es.length : Int) - 1)) w1 from ⟨u.es.length, _, _, rfl, rfl, Nat.le_refl _, RInv.start _, hown0', hb1⟩)
  have q0' := (hb1.cell (p := ⟨w.heap.size, 0, none⟩) (lt_of_block k0)).trans q0
  have HKR := Lib.hid k0
  have HR0 := Lib.hid r0
  have HS := Lib.hid hS
  have HTT := Lib.hid T
  have HB0 := Lib.hid hb0
  have HGG := Lib.hid hGe
  have HLW := Lib.hid (show w.heap.size < G by omega)
  clear r0 r1 r2 hS hb0 k0 hi0 hz0 hz1 hz2 hown0' hb1 T hG hsz0 hGe
  go_enter Tryz.func48, Tryz.ntmps48
  go_wp2
  clear q0 q0' hmk
  go_loopw [4] (fun v4 wr => ROut w0 u.es G v4 wr) (fun v4 _ => (intOf v4 + 1).toNat)
  case atStart => exact HST.out
  case round =>
    obtain ⟨m, i, bs, rfl, hi, hm, hW, hown, hb⟩ := hrel
    clear HST
    cases m with
    | zero =>
      have HW := Lib.hid hW
      have HO := Lib.hid hown
      have hge : decide ((0 : Int) ≤ i) = false := decide_eq_false (by omega)
      clear hW hown hi
      go_wp2
      go_ret
      exact ⟨⟨G, bs, rfl, HW.out, owns_mono HB0.out.size HO.out⟩, below_step HB0.out hb⟩
    | succ m =>
      obtain rfl : i = (m : Int) := by omega
      have hml : m < u.es.length := by omega
      have HST := Lib.hid (show RInn w0 u.es G m (.int .i64 0) wr from ⟨0, bs, rfl, Nat.zero_le _, RMid.start hW _, hown, hb⟩)
      have hge : decide ((0 : Int) ≤ (m : Int)) = true := by simp
      clear hW hown hb hi
      go_wp2
      go_loopw [5] (fun v5 wr => RInn w0 u.es G m v5 wr) (fun v5 _ => ((expAt u.es m).xs.length - (intOf v5).toNat))
      case atStart => exact HST.out
      case round =>
        obtain ⟨k, bs, rfl, hk, hW, hown, hb⟩ := hrel
        clear HST
        have HNEXT := Lib.hid (fun (h : RInv u.es bs m) => (⟨m, (m : Int) - 1, bs, rfl, rfl, by omega, h, hown, hb⟩ : ROut w0 u.es G (.int .i64 ((m : Int) - 1)) wr))
        have K1 := (hb.block _ (lt_of_block HKR.out)).trans HKR.out
        have q0 := cell_of_row _ w.heap.size 0 _ _ _ K1
        simp only [List.getElem?_toArray, List.getElem?_cons_zero] at q0
        obtain ⟨b, off, vs, ha, hSb, hvl, hcc, axs, cxs, rfl, hI⟩ := RowIn.kept FIt_keeps HR0.out (Same.below HS.out (below_step HB0.out hb)) m hml
        subst ha
        have x0 : wr.cell? ⟨b, off + m * 3, none⟩ = some (.int .i64 u.es[m].k) := hcc 0 (by simp)
        have x2 : wr.cell? ⟨b, off + m * 3 + 2, none⟩ = some (.slice axs u.es[m].xs.length cxs) := hcc 2 (by simp)
        rw [← expAt_lt hml] at x0 x2 hI
        have cm := boolAt hown hW.len m hml
        have hkl := kids_len HTT.out hml
        have hkx := HTT.out.kid m hml
        have hbw := HS.out b hSb
        have hwl : w.heap.size < w0.heap.size := lt_of_block HKR.out
        have hgg := HGG.out
        have hvo : vOf u.es m = true ↔ (isSumAt u.es m = true ∨ Reck u.es m) := by
          classical
          unfold vOf
          rw [decide_eq_true_eq]
        have hown_m := hW.own HTT.out hml
        by_cases hlt : k < (expAt u.es m).xs.length
        · have hd : decide ((k : Int) < ((expAt u.es m).xs.length : Int)) = true := decide_eq_true (by omega)
          have hxk := hkx _ (List.getElem_mem hlt)
          have hstep := hW.step HTT.out hml hlt
          obtain ⟨b2, off2, rfl, hS2, c2⟩ := hI k hlt
          have hb2w := HS.out b2 hS2
          obtain ⟨x, hx⟩ := Int.eq_ofNat_of_zero_le hxk.1
          rw [hx] at hstep c2
          rw [show ((x : Int)).toNat = x from rfl] at hstep
          have hxl : x < u.es.length := by omega
          have hxm : x < m := by omega
          have ho2 := owns_set hown hxl (.bool (vOf u.es m))
          rw [flagCells_set] at ho2
          have c3 := boolAt hown hW.len x hxl
          have f3 := row_frozen hown x
          have HR := Lib.hid (show RInn w0 u.es G m (.int .i64 ((k : Int) + 1)) ((wr.setCell ⟨G, x, none⟩ (.bool (vOf u.es m)))) from ⟨k + 1, bs.set x (vOf u.es m), by go_num, by omega, hstep, ho2, below_set hb x _ hgg⟩)
          have z0 : (0 : Int) ≤ (x : Int) := by omega
          have z1 : (x : Int) < (u.es.length : Int) := by omega
          have z2 : (0 : Int) ≤ (m : Int) := by omega
          have z3 : (m : Int) < (u.es.length : Int) := by omega
          have z4 : (0 : Int) ≤ (k : Int) := by omega
          have z5 : (k : Int) < ((expAt u.es m).xs.length : Int) := by omega
          have hwl2 := HLW.out
          have hsum : isSumAt u.es m = isSum (expAt u.es m).k := rfl
          rw [hsum] at hvo
          clear hsum hstep ho2 hW hown hb hcc hvl hI hSb K1 hS2 hxk hkx hx HNEXT
          obtain ⟨xs, hxs⟩ : ∃ xs, (expAt u.es m).xs = xs := ⟨_, rfl⟩
          rw [hxs] at x2 hlt hd hk hkl z5 ⊢
          clear hxs
          obtain ⟨kk, hkk⟩ : ∃ kk, (expAt u.es m).k = kk := ⟨_, rfl⟩
          rw [hkk] at x0 hvo
          clear hkk
          by_cases hbm : bs[m]? = some true
          · have e : bs.getD m false = true := by rw [List.getD_eq_getElem?_getD, hbm]; rfl
            rw [e] at cm
            have hv : vOf u.es m = true := hvo.2 (.inr (hown_m.1 hbm))
            rw [hv] at HR
            clear hbm e hv hvo hown_m
            go_wp2
            refine wp_region_held_drew (S := fun w' => w'.cell? ⟨w.heap.size, 0, none⟩ = some (.slice (some ⟨b, off, none⟩) u.es.length ces) ∧ w'.cell? ⟨b, off + m * 3 + 2, none⟩ = some (.slice (some ⟨b2, off2, none⟩) xs.length cxs) ∧ w'.cell? ⟨b2, off2 + k, none⟩ = some (.int .i64 (x : Int)) ∧ w'.cell? ⟨G, m, none⟩ = some (.bool true)) (by kernel_rfl) ?_ (fun hHeld => ?_)
            · exact ⟨q0, x2, c2, cm⟩
            refine wpAnyH_take (i := 0) (v := ?_) rfl (by kernel_rfl) (by kernel_rfl) (by kernel_rfl) (fun _ _ _ h => h) (Or.inl ⟨by rfl, ?_⟩) (by assumption) ?_
            rotate_left
            · (intro w9 hSw; (try dsimp only at hSw); go_simp; try with_reducible rfl)
            try simp only [Act.put, List.getElem_toArray, List.getElem_cons_zero, List.getElem_cons_succ, List.setIfInBounds_toArray, List.set_cons_zero, List.set_cons_succ]
            refine wpAnyH_take (i := 1) (v := ?_) rfl (by kernel_rfl) (by kernel_rfl) (by kernel_rfl) (fun _ _ _ h => h) (Or.inl ⟨by rfl, ?_⟩) (by assumption) ?_
            rotate_left
            · (intro w9 hSw; (try dsimp only at hSw); go_simp; try with_reducible rfl)
            try simp only [Act.put, List.getElem_toArray, List.getElem_cons_zero, List.getElem_cons_succ, List.setIfInBounds_toArray, List.set_cons_zero, List.set_cons_succ]
            refine wpAnyH_take (i := 2) (v := ?_) rfl (by kernel_rfl) (by kernel_rfl) (by kernel_rfl) (fun _ _ _ h => h) (Or.inl ⟨by rfl, ?_⟩) (by assumption) ?_
            rotate_left
            · (intro w9 hSw; (try dsimp only at hSw); go_simp; try with_reducible rfl)
            try simp only [Act.put, List.getElem_toArray, List.getElem_cons_zero, List.getElem_cons_succ, List.setIfInBounds_toArray, List.set_cons_zero, List.set_cons_succ]
            refine wpAnyH_take (i := 3) (v := ?_) rfl (by kernel_rfl) (by kernel_rfl) (by kernel_rfl) (fun _ _ _ h => h) (Or.inl ⟨by rfl, ?_⟩) (by assumption) ?_
            rotate_left
            · (intro w9 hSw; (try dsimp only at hSw); go_simp; try with_reducible rfl)
            try simp only [Act.put, List.getElem_toArray, List.getElem_cons_zero, List.getElem_cons_succ, List.setIfInBounds_toArray, List.set_cons_zero, List.set_cons_succ]
            refine wpAnyH_take (i := 4) (v := ?_) rfl (by kernel_rfl) (by kernel_rfl) (by kernel_rfl) (fun _ _ _ h => h) (Or.inl ⟨by rfl, ?_⟩) (by assumption) ?_
            rotate_left
            · (intro w9 hSw; (try dsimp only at hSw); go_simp; try with_reducible rfl)
            try simp only [Act.put, List.getElem_toArray, List.getElem_cons_zero, List.getElem_cons_succ, List.setIfInBounds_toArray, List.set_cons_zero, List.set_cons_succ]
            refine wpAnyH_take (i := 5) (v := ?_) rfl (by kernel_rfl) (by kernel_rfl) (by kernel_rfl) (fun _ _ _ h => h) (Or.inl ⟨by rfl, ?_⟩) (by assumption) ?_
            rotate_left
            · (intro w9 hSw; (try dsimp only at hSw); go_simp; try with_reducible rfl)
            try simp only [Act.put, List.getElem_toArray, List.getElem_cons_zero, List.getElem_cons_succ, List.setIfInBounds_toArray, List.set_cons_zero, List.set_cons_succ]
            refine wpAnyH_take (i := 6) (v := ?_) rfl (by kernel_rfl) (by kernel_rfl) (by kernel_rfl) (fun _ _ _ h => h) (Or.inl ⟨by rfl, ?_⟩) (by assumption) ?_
            rotate_left
            · (intro w9 hSw; (try dsimp only at hSw); go_simp; try with_reducible rfl)
            try simp only [Act.put, List.getElem_toArray, List.getElem_cons_zero, List.getElem_cons_succ, List.setIfInBounds_toArray, List.set_cons_zero, List.set_cons_succ]
            refine wpAnyH_take (i := 7) (v := ?_) rfl (by kernel_rfl) (by kernel_rfl) (by kernel_rfl) (fun _ _ _ h => h) (Or.inl ⟨by rfl, ?_⟩) (by assumption) ?_
            rotate_left
            · (intro w9 hSw; (try dsimp only at hSw); go_simp; try with_reducible rfl)
            try simp only [Act.put, List.getElem_toArray, List.getElem_cons_zero, List.getElem_cons_succ, List.setIfInBounds_toArray, List.set_cons_zero, List.set_cons_succ]
            refine wpAnyH_take (i := 8) (v := ?_) rfl (by kernel_rfl) (by kernel_rfl) (by kernel_rfl) (fun _ _ _ h => h) (Or.inl ⟨by rfl, ?_⟩) (by assumption) ?_
            rotate_left
            · (intro w9 hSw; (try dsimp only at hSw); go_simp; try with_reducible rfl)
            try simp only [Act.put, List.getElem_toArray, List.getElem_cons_zero, List.getElem_cons_succ, List.setIfInBounds_toArray, List.set_cons_zero, List.set_cons_succ]
            refine wpAnyH_take (i := 9) (v := ?_) rfl (by kernel_rfl) (by kernel_rfl) (by kernel_rfl) (fun _ _ _ h => h) (Or.inl ⟨by rfl, ?_⟩) (by assumption) ?_
            rotate_left
            · (intro w9 hSw; (try dsimp only at hSw); go_simp; try with_reducible rfl)
            try simp only [Act.put, List.getElem_toArray, List.getElem_cons_zero, List.getElem_cons_succ, List.setIfInBounds_toArray, List.set_cons_zero, List.set_cons_succ]
            refine wpAnyH_take (i := 10) (v := ?_) rfl (by kernel_rfl) (by kernel_rfl) (by kernel_rfl) (fun _ _ _ h => h) (Or.inl ⟨by rfl, ?_⟩) (by assumption) ?_
            rotate_left
            · (intro w9 hSw; (try dsimp only at hSw); go_simp; try with_reducible rfl)
            try simp only [Act.put, List.getElem_toArray, List.getElem_cons_zero, List.getElem_cons_succ, List.setIfInBounds_toArray, List.set_cons_zero, List.set_cons_succ]
            refine wpAnyH_take (i := 11) (v := ?_) rfl (by kernel_rfl) (by kernel_rfl) (by kernel_rfl) (fun _ _ _ h => h) (Or.inl ⟨by rfl, ?_⟩) (by assumption) ?_
            rotate_left
            · (intro w9 hSw; (try dsimp only at hSw); go_simp; try with_reducible rfl)
            try simp only [Act.put, List.getElem_toArray, List.getElem_cons_zero, List.getElem_cons_succ, List.setIfInBounds_toArray, List.set_cons_zero, List.set_cons_succ]
            refine wpAnyH_take (i := 12) (v := ?_) rfl (by kernel_rfl) (by kernel_rfl) (by kernel_rfl) (fun _ _ _ h => h) (Or.inl ⟨by rfl, ?_⟩) (by assumption) ?_
            rotate_left
            · (intro w9 hSw; (try dsimp only at hSw); go_simp; try with_reducible rfl)
            try simp only [Act.put, List.getElem_toArray, List.getElem_cons_zero, List.getElem_cons_succ, List.setIfInBounds_toArray, List.set_cons_zero, List.set_cons_succ]
            refine wpAnyH_take (i := 13) (v := ?_) rfl (by kernel_rfl) (by kernel_rfl) (by kernel_rfl) (fun _ _ _ h => h) (Or.inl ⟨by rfl, ?_⟩) (by assumption) ?_
            rotate_left
            · (intro w9 hSw; (try dsimp only at hSw); go_simp; try with_reducible rfl)
            try simp only [Act.put, List.getElem_toArray, List.getElem_cons_zero, List.getElem_cons_succ, List.setIfInBounds_toArray, List.set_cons_zero, List.set_cons_succ]
            refine wpAnyH_take (i := 14) (v := ?_) rfl (by kernel_rfl) (by kernel_rfl) (by kernel_rfl) (fun _ _ _ h => h) (Or.inl ⟨by rfl, ?_⟩) (by assumption) ?_
            rotate_left
            · (intro w9 hSw; (try dsimp only at hSw); go_simp; try with_reducible rfl)
            try simp only [Act.put, List.getElem_toArray, List.getElem_cons_zero, List.getElem_cons_succ, List.setIfInBounds_toArray, List.set_cons_zero, List.set_cons_succ]
            refine wpAnyH_take (i := 15) (v := undef) rfl (by kernel_rfl) (by kernel_rfl) (by kernel_rfl) (fun _ _ _ h => h) (Or.inr ⟨by rfl, rfl⟩) (by assumption) ?_
            try simp only [Act.put, List.getElem_toArray, List.getElem_cons_zero, List.getElem_cons_succ, List.setIfInBounds_toArray, List.set_cons_zero, List.set_cons_succ]
            refine wpAnyH_take (i := 16) (v := undef) rfl (by kernel_rfl) (by kernel_rfl) (by kernel_rfl) (fun _ _ _ h => h) (Or.inr ⟨by rfl, rfl⟩) (by assumption) ?_
            try simp only [Act.put, List.getElem_toArray, List.getElem_cons_zero, List.getElem_cons_succ, List.setIfInBounds_toArray, List.set_cons_zero, List.set_cons_succ]
            refine wpAnyH_take (i := 17) (v := undef) rfl (by kernel_rfl) (by kernel_rfl) (by kernel_rfl) (fun _ _ _ h => h) (Or.inr ⟨by rfl, rfl⟩) (by assumption) ?_
            try simp only [Act.put, List.getElem_toArray, List.getElem_cons_zero, List.getElem_cons_succ, List.setIfInBounds_toArray, List.set_cons_zero, List.set_cons_succ]
            refine wpAnyH_take (i := 18) (v := undef) rfl (by kernel_rfl) (by kernel_rfl) (by kernel_rfl) (fun _ _ _ h => h) (Or.inr ⟨by rfl, rfl⟩) (by assumption) ?_
            try simp only [Act.put, List.getElem_toArray, List.getElem_cons_zero, List.getElem_cons_succ, List.setIfInBounds_toArray, List.set_cons_zero, List.set_cons_succ]
            refine wpAnyH_take (i := 19) (v := undef) rfl (by kernel_rfl) (by kernel_rfl) (by kernel_rfl) (fun _ _ _ h => h) (Or.inr ⟨by rfl, rfl⟩) (by assumption) ?_
            try simp only [Act.put, List.getElem_toArray, List.getElem_cons_zero, List.getElem_cons_succ, List.setIfInBounds_toArray, List.set_cons_zero, List.set_cons_succ]
            refine wpAnyH_take (i := 20) (v := undef) rfl (by kernel_rfl) (by kernel_rfl) (by kernel_rfl) (fun _ _ _ h => h) (Or.inr ⟨by rfl, rfl⟩) (by assumption) ?_
            try simp only [Act.put, List.getElem_toArray, List.getElem_cons_zero, List.getElem_cons_succ, List.setIfInBounds_toArray, List.set_cons_zero, List.set_cons_succ]
            refine wpAnyH_take (i := 21) (v := undef) rfl (by kernel_rfl) (by kernel_rfl) (by kernel_rfl) (fun _ _ _ h => h) (Or.inr ⟨by rfl, rfl⟩) (by assumption) ?_
            try simp only [Act.put, List.getElem_toArray, List.getElem_cons_zero, List.getElem_cons_succ, List.setIfInBounds_toArray, List.set_cons_zero, List.set_cons_succ]
            refine wpAnyH_take (i := 22) (v := ?_) rfl (by kernel_rfl) (by kernel_rfl) (by kernel_rfl) (fun _ _ _ h => h) (Or.inl ⟨by rfl, ?_⟩) (by assumption) ?_
            rotate_left
            · (intro w9 hSw; (try dsimp only at hSw); go_simp; try with_reducible rfl)
            try simp only [Act.put, List.getElem_toArray, List.getElem_cons_zero, List.getElem_cons_succ, List.setIfInBounds_toArray, List.set_cons_zero, List.set_cons_succ]
            refine wpAnyH_take (i := 23) (v := ?_) rfl (by kernel_rfl) (by kernel_rfl) (by kernel_rfl) (fun _ _ _ h => h) (Or.inl ⟨by rfl, ?_⟩) (by assumption) ?_
            rotate_left
            · (intro w9 hSw; (try dsimp only at hSw); go_simp; try with_reducible rfl)
            try simp only [Act.put, List.getElem_toArray, List.getElem_cons_zero, List.getElem_cons_succ, List.setIfInBounds_toArray, List.set_cons_zero, List.set_cons_succ]
            refine wpAnyH_ready (rs := [24]) (by kernel_rfl) (by simp) ?_
            refine AllReadyH.cons rfl (fun K hK => ?_) AllReadyH.nil
            go_simp
            refine hK.out _ _ ?_ (fun hHeld2 => ?_)
            · have h1 : (wr.setCell ⟨G, x, none⟩ (.bool true)).cell? ⟨w.heap.size, 0, none⟩ = _ := (World.cell?_setCell_other _ _ _ _ (by simp only [ne_eq, Addr.mk.injEq, not_and]; omega)).trans q0
              have h2 : (wr.setCell ⟨G, x, none⟩ (.bool true)).cell? ⟨b, off + m * 3 + 2, none⟩ = _ := (World.cell?_setCell_other _ _ _ _ (by simp only [ne_eq, Addr.mk.injEq, not_and]; omega)).trans x2
              have h3 : (wr.setCell ⟨G, x, none⟩ (.bool true)).cell? ⟨b2, off2 + k, none⟩ = _ := (World.cell?_setCell_other _ _ _ _ (by simp only [ne_eq, Addr.mk.injEq, not_and]; omega)).trans c2
              have h4 : (wr.setCell ⟨G, x, none⟩ (.bool true)).cell? ⟨G, m, none⟩ = _ := (World.cell?_setCell_other _ _ _ _ (by simp only [ne_eq, Addr.mk.injEq, not_and]; omega)).trans cm
              exact ⟨h1, h2, h3, h4⟩
            clear hK K
            try simp only [Act.put, List.getElem_toArray, List.getElem_cons_zero, List.getElem_cons_succ, List.setIfInBounds_toArray, List.set_cons_zero, List.set_cons_succ]
            refine wpAnyH_done (by kernel_rfl) ?_ _
            have HRD := Lib.hid HR.out.drew
            clear hHeld hHeld2 HR
            go_wp2
            go_roundw
            case rel => exact HRD.out
            case measure => (simp [intOf] <;> omega)
          · have e : bs.getD m false = false := by
              rw [List.getD_eq_getElem?_getD]
              cases h : bs[m]? with
              | none => rfl
              | some v => cases v with
                | true => exact absurd h hbm
                | false => rfl
            rw [e] at cm
            have hv : vOf u.es m = isSum kk := by
              cases h : isSum kk with
              | true => exact hvo.2 (.inl h)
              | false =>
                cases h2 : vOf u.es m with
                | false => rfl
                | true =>
                  rcases hvo.1 h2 with h3 | h3
                  · rw [h] at h3; cases h3
                  · exact absurd (hown_m.2 h3) hbm
            rw [hv] at HR
            clear hbm e hv hvo hown_m
            go_wp2
            go_region_held3 (fun w' => w'.cell? ⟨w.heap.size, 0, none⟩ = some (.slice (some ⟨b, off, none⟩) u.es.length ces) ∧ w'.cell? ⟨b, off + m * 3, none⟩ = some (.int .i64 kk) ∧ w'.cell? ⟨b, off + m * 3 + 2, none⟩ = some (.slice (some ⟨b2, off2, none⟩) xs.length cxs) ∧ w'.cell? ⟨b2, off2 + k, none⟩ = some (.int .i64 (x : Int)) ∧ w'.cell? ⟨G, m, none⟩ = some (.bool false))
              (refine ⟨?_, ?_, ?_, ?_, ?_⟩ <;> (first | assumption | (simp [*]; done) | (refine (World.cell?_setCell_other _ _ _ _ (by simp only [ne_eq, Addr.mk.injEq, not_and]; omega)).trans ?_; first | assumption | (simp [*]; done))))
              (first
                | (go_at_call 65; refine (specCalc_any _ _).mono ?_; rintro e7 w7 ⟨rfl, rfl⟩)
                | fail)
            have HRD := Lib.hid HR.out.drew
            clear HR
            go_wp2
            go_roundw
            case rel => exact HRD.out
            case measure => (simp [intOf] <;> omega)
        · have hd : decide ((k : Int) < ((expAt u.es m).xs.length : Int)) = false := decide_eq_false (by omega)
          obtain rfl : k = (expAt u.es m).xs.length := by omega
          have HR := Lib.hid (HNEXT.out (hW.close hml hvo))
          clear HNEXT hW hown hb hcc hvl hI hSb K1 hkx hvo hown_m
          go_wp2
          go_roundw
          case rel => exact HR.out
          case measure => (simp [intOf] <;> omega)

def HKRel (w1 : World) (es : List It) (n : Nat) (lo hi : Int) (v : Value) (wr : World) : Prop :=
  ∃ i : Nat, v = .int .i64 (i : Int) ∧ i ≤ n + 1 ∧ (∀ m, m < i → ¬ (In es allE n m ∧ lo ≤ (expAt es m).k ∧ (expAt es m).k ≤ hi)) ∧ Below w1.heap.size w1 wr

set_option maxRecDepth 100000 in
set_option maxHeartbeats 2000000 in
theorem specHasKind_any (u : Ru) (n : Nat) (lo hi : Int) (vs : List Value) (S : Nat → Prop) (w : World) (hF : FRu S w vs u) (hS : ∀ b, S b → b < w.heap.size) (T : TreeOk u.es) (hn : n < u.es.length) :
    Calls Tryz.prog 41 #[.agg vs.toArray, .int .i64 (n : Int), .int .i64 lo, .int .i64 hi] w fun e w' => (∃ r : Bool, e = .returned (.bool r) ∧ (r = true ↔ ∃ m, In u.es allE n m ∧ lo ≤ (expAt u.es m).k ∧ (expAt u.es m).k ≤ hi)) ∧ Below w.heap.size w w' := by
  have hF0 := hF
  obtain ⟨aes, ces, ahd, chd, abd, cbd, rfl, r0, r1, r2⟩ := hF
  have hfew := T.few
  have hb0 : Below w.heap.size w (w.alloc (.cells #[.slice aes u.es.length ces, .int .i64 u.hd.k, .string u.hd.s, .slice ahd u.hd.xs.length chd, .slice abd u.bd.length cbd] 36)) := (Below.refl _ _).alloc (Nat.le_refl _) _
  have k0 := heap_alloc_new w (.cells #[.slice aes u.es.length ces, .int .i64 u.hd.k, .string u.hd.s, .slice ahd u.hd.xs.length chd, .slice abd u.bd.length cbd] 36)
  obtain ⟨w0, hw0⟩ : ∃ w0, w.alloc (.cells #[.slice aes u.es.length ces, .int .i64 u.hd.k, .string u.hd.s, .slice ahd u.hd.xs.length chd, .slice abd u.bd.length cbd] 36) = w0 := ⟨_, rfl⟩
  rw [hw0] at hb0 k0
  have q0 := cell_of_row _ w.heap.size 0 _ _ _ k0
  have q1 := cell_of_row _ w.heap.size 1 _ _ _ k0
  have q2 := cell_of_row _ w.heap.size 2 _ _ _ k0
  have q3 := cell_of_row _ w.heap.size 3 _ _ _ k0
  have q4 := cell_of_row _ w.heap.size 4 _ _ _ k0
  simp only [List.getElem?_toArray, List.getElem?_cons_zero, List.getElem?_cons_succ] at q0 q1 q2 q3 q4
  have HWI := Lib.hid (specWithin_any u n _ S w0 (FRu_keeps.1 _ _ _ _ _ hF0 (Same.below hS hb0)) (fun b h => Nat.lt_of_lt_of_le (hS b h) hb0.size) T hn)
  have HR0 := Lib.hid r0
  have HS := Lib.hid hS
  have HB0 := Lib.hid hb0
  have HK0 := Lib.hid k0
  have HLE := Lib.hid (fun m (h : In u.es allE n m) => h.le T hn)
  clear hF0 r0 r1 r2 hS hb0 k0 T
  go_enter Tryz.func41, Tryz.ntmps41
  go_wp2_with fail
  refine HWI.out.mono ?_
  rintro e w1 ⟨⟨g, bs, rfl, hW, hown⟩, hb1⟩
  have HFIN := Lib.hid (fun j => hW.fin j)
  have HWL := Lib.hid hW.len
  have HOW := Lib.hid hown
  have HB1 := Lib.hid hb1
  clear hW hown hb1 HWI q0 q1 q2 q3 q4
  go_wp2
  go_loopw [10] (fun v wr => HKRel w1 u.es n lo hi v wr) (fun v _ => (n + 1 - (intOf v).toNat))
  case atStart => exact ⟨0, rfl, Nat.zero_le _, fun m h => by omega, Below.refl _ _⟩
  case round =>
    obtain ⟨i, rfl, hi', hall, hb⟩ := hrel
    by_cases hlt : i ≤ n
    · have hil : i < u.es.length := by omega
      have hd : decide ((i : Int) ≤ (n : Int)) = true := decide_eq_true (by omega)
      have hb01 := below_step (below_step HB0.out HB1.out) hb
      have K1 := ((below_step HB1.out hb).block _ (lt_of_block HK0.out)).trans HK0.out
      have q0 := cell_of_row _ w.heap.size 0 _ _ _ K1
      simp only [List.getElem?_toArray, List.getElem?_cons_zero] at q0
      obtain ⟨b, off, vs, ha, hSb, hvn, hcc, axs, cxs, rfl, hI⟩ := RowIn.kept FIt_keeps HR0.out (Same.below HS.out hb01) i hil
      subst ha
      have x0 : wr.cell? ⟨b, off + i * 3, none⟩ = some (.int .i64 u.es[i].k) := hcc 0 (by simp)
      rw [← expAt_lt hil] at x0
      have cm := boolAt (row_kept HOW.out hb) HWL.out i hil
      have hin : bs.getD i false = true ↔ In u.es allE n i := by
        rw [← HFIN.out i, List.getD_eq_getElem?_getD]
        cases bs[i]? with
        | none => simp
        | some v => simp
      have HNX := Lib.hid (fun (h : ¬ (In u.es allE n i ∧ lo ≤ (expAt u.es i).k ∧ (expAt u.es i).k ≤ hi)) => (⟨i + 1, by go_num, by omega, fun m hm => by
        by_cases e : m = i
        · rw [e]; exact h
        · exact hall m (by omega), hb⟩ : HKRel w1 u.es n lo hi (.int .i64 ((i : Int) + 1)) wr))
      have HIN := Lib.hid hin
      have HB := Lib.hid hb
      have HBT := Lib.hid (between_any (expAt u.es i).k lo hi wr)
      clear hall hb hb01 K1 hcc hI hSb hvn hin
      obtain ⟨kk, hkk⟩ : ∃ kk, (expAt u.es i).k = kk := ⟨_, rfl⟩
      rw [hkk] at x0 HNX HBT
      have HKK := Lib.hid hkk
      clear hkk
      by_cases hbi : bs.getD i false = true
      · rw [hbi] at cm
        have HIF := Lib.hid (HIN.out.1 hbi)
        clear hbi HIN
        go_wp2_with fail
        refine HBT.out.mono ?_
        rintro e w2 ⟨rfl, rfl⟩
        clear HBT
        by_cases hbw : lo ≤ kk ∧ kk ≤ hi
        · have hdd : (decide (lo ≤ kk) && decide (kk ≤ hi)) = true := by simp; exact hbw
          rw [hdd]
          clear hdd HNX
          go_wp2
          go_ret
          exact ⟨⟨true, rfl, ⟨fun _ => ⟨i, HIF.out, by rw [HKK.out]; exact hbw.1, by rw [HKK.out]; exact hbw.2⟩, fun _ => rfl⟩⟩, below_step HB0.out (below_step HB1.out HB.out)⟩
        · have hdd : (decide (lo ≤ kk) && decide (kk ≤ hi)) = false := by
            rw [Bool.and_eq_false_iff, decide_eq_false_iff_not, decide_eq_false_iff_not]
            omega
          rw [hdd]
          have HR := Lib.hid (HNX.out (fun h => hbw h.2))
          clear hdd HNX hbw
          go_wp2
          go_roundw
          case rel => exact HR.out
          case measure => (simp [intOf] <;> omega)
      · have e : bs.getD i false = false := by simpa using hbi
        rw [e] at cm
        have HR := Lib.hid (HNX.out (fun h => hbi (HIN.out.2 h.1)))
        clear HNX hbi HIN e
        go_wp2
        go_roundw
        case rel => exact HR.out
        case measure => (simp [intOf] <;> omega)
    · obtain rfl : i = n + 1 := by omega
      have hd : decide (((n + 1 : Nat) : Int) ≤ (n : Int)) = false := decide_eq_false (by omega)
      have hd2 : decide ((n : Int) + 1 ≤ (n : Int)) = false := decide_eq_false (by omega)
      have HALL := Lib.hid hall
      have HB := Lib.hid hb
      clear hall hb
      go_wp2
      go_ret
      exact ⟨⟨false, rfl, ⟨(fun h => nomatch h), fun ⟨m, hm, h⟩ => absurd ⟨hm, h⟩ (HALL.out m (by have := HLE.out m hm; omega))⟩⟩, below_step HB0.out (below_step HB1.out HB.out)⟩

def ALRel (w : World) (xs ys : List ByteArray) (v : Value) (wr : World) : Prop := ∃ k : Nat, v = .int .i64 (k : Int) ∧ k ≤ xs.length ∧ (∀ x ∈ xs.take k, x ∈ ys) ∧ Below w.heap.size w wr

set_option maxRecDepth 100000 in
set_option maxHeartbeats 2000000 in
theorem specAll_any (xs ys : List ByteArray) (a1 a2 : Option Addr) (c1 c2 : Nat) (S1 S2 : Nat → Prop) (w : World) (h1 : TxtsIn S1 w a1 xs) (hS1 : ∀ b, S1 b → b < w.heap.size) (h2 : TxtsIn S2 w a2 ys) (hS2 : ∀ b, S2 b → b < w.heap.size) (hn1 : xs.length ≤ 1048576) (hn2 : ys.length ≤ 1048576) :
    Calls Tryz.prog 40 #[.slice a1 xs.length c1, .slice a2 ys.length c2] w fun e w' => (∃ r : Bool, e = .returned (.bool r) ∧ (r = true ↔ ∀ x ∈ xs, x ∈ ys)) ∧ Below w.heap.size w w' := by
  have HX := Lib.hid h1
  have HS := Lib.hid hS1
  have HIN := Lib.hid (fun (W : World) (hW : Below w.heap.size w W) (s : ByteArray) => specIn_any ys s a2 c2 S2 W (h2.kept (Same.below hS2 hW)) (fun b h => Nat.lt_of_lt_of_le (hS2 b h) hW.size) hn2)
  clear h1 hS1 h2 hS2
  go_enter Tryz.func40, Tryz.ntmps40
  go_wp2
  go_loopw [5] (fun v wr => ALRel w xs ys v wr) (fun v _ => (xs.length - (intOf v).toNat))
  case atStart => exact ⟨0, rfl, Nat.zero_le _, by simp, Below.refl _ _⟩
  case round =>
    obtain ⟨k, rfl, hk, hall, hb⟩ := hrel
    by_cases hlt : k < xs.length
    · obtain ⟨b, off, rfl, hSb, hx⟩ := HX.out.kept (Same.below HS.out hb) k hlt
      have HTK := Lib.hid (List.take_succ_eq_append_getElem hlt)
      have HMM := Lib.hid (List.getElem_mem hlt)
      have HC := Lib.hid (HIN.out wr hb xs[k])
      have HALL := Lib.hid hall
      have HB := Lib.hid hb
      clear hall hb hSb
      obtain ⟨s, hs⟩ : ∃ s, xs[k] = s := ⟨_, rfl⟩
      rw [hs] at hx HTK HMM HC
      clear hs
      go_wp2_with fail
      refine HC.out.mono ?_
      rintro e w1 ⟨⟨r, rfl, hr⟩, hb1⟩
      have HB1 := Lib.hid (below_step HB.out hb1)
      have HR := Lib.hid hr
      clear hr hb1 HC
      cases r with
      | true =>
        have HRR := Lib.hid (show ALRel w xs ys (.int .i64 ((k : Int) + 1)) w1 from ⟨k + 1, by go_num, by omega, by
          rw [HTK.out]
          intro x hx
          rcases List.mem_append.1 hx with hx | hx
          · exact HALL.out x hx
          · simp only [List.mem_singleton] at hx; rw [hx]; exact HR.out.1 rfl, HB1.out⟩)
        clear HR HTK HMM HALL
        go_wp2
        go_roundw
        case rel => exact HRR.out
        case measure => (simp [intOf] <;> omega)
      | false =>
        have HNO := Lib.hid (show ¬ ∀ x ∈ xs, x ∈ ys from fun h => by have := HR.out.2 (h s HMM.out); cases this)
        clear HR HTK HMM HALL
        go_wp2
        go_ret
        exact ⟨⟨false, rfl, ⟨(fun h => nomatch h), fun h => absurd h HNO.out⟩⟩, HB1.out⟩
    · obtain rfl : k = xs.length := by omega
      rw [List.take_length] at hall
      have HALL := Lib.hid hall
      have HB := Lib.hid hb
      have hd : decide ((xs.length : Int) < (xs.length : Int)) = false := by simp
      clear hall hb
      go_wp2
      go_ret
      exact ⟨⟨true, rfl, ⟨fun _ => HALL.out, fun _ => rfl⟩⟩, HB.out⟩

end Go.Proofs.YtilijbpbnlnhlaaGreat.Pr
