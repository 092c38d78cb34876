/-
  THE WALK of impl.namesAt: a map from the names at some places to where each stands first.
-/
import Derived.Test.YtilijbpbnlnhlaaGreatPV6
namespace Go.Proofs.YtilijbpbnlnhlaaGreat.Pr
open Go Go.RowKit Go.Maps Go.WideMaps Go.Sort Go.Proofs

theorem lawS : Keyed Tryz.prog 9 := string_keyed Tryz.underlying9
theorem zeroI (w : World) : (zeroValue 3).run Tryz.prog w = .ok (.int .i64 0) w := by kernel_rfl
/-- D has just these names, each with its place. -/
structure NameMap (D : DataW Unit) (l : List (ByteArray × Nat)) : Prop where
  isMap : IsMap D
  hit : ∀ p ∈ l, has D (.string (lst p.1)) = true ∧ ∀ z, D.atKey (.string (lst p.1)) z = .lit (.int .i64 (p.2 : Int))
  miss : ∀ s : ByteArray, (∀ p ∈ l, p.1 ≠ s) → has D (.string (lst s)) = false
theorem keyS {s : ByteArray} (h : s.size ≤ 1048576) : keyOf Tryz.prog 9 (.string s) = some (.string (lst s)) := keyOf_string_mk Tryz.underlying9 (by unfold maxLen; omega)
theorem NameMap.nil : NameMap (.map []) [] := ⟨⟨_, rfl⟩, fun p h => by simp at h, fun s _ => rfl⟩
theorem NameMap.put {D : DataW Unit} {l : List (ByteArray × Nat)} (h : NameMap D l) (s : ByteArray) (a : Nat) (hs : s.size ≤ 1048576) (hno : ∀ p ∈ l, p.1 ≠ s) : NameMap (D.put (.string (lst s)) (.lit (.int .i64 (a : Int)))) (l ++ [(s, a)]) := by
  have hk := lawS.key (keyS hs)
  have hne : ∀ t : ByteArray, t ≠ s → (Lit.string (lst t)) ≠ .string (lst s) := fun t ht e => ht (lst_inj (by simpa using e))
  refine ⟨?_, fun p hp => ?_, fun t ht => ?_⟩
  · exact h.isMap.put _ _
  · rcases List.mem_append.1 hp with hp | hp
    · rw [has_put_other (hne _ (hno p hp))]
      exact ⟨(h.hit p hp).1, fun z => by rw [atKey_put_other (hne _ (hno p hp))]; exact (h.hit p hp).2 z⟩
    · simp only [List.mem_singleton] at hp
      subst hp
      exact ⟨has_put_same h.isMap hk _, fun z => atKey_put_same h.isMap hk _ z⟩
  · have h1 : s ≠ t := ht (s, a) (by simp)
    rw [has_put_other (hne _ (fun e => h1 e.symm))]
    exact h.miss t (fun p hp => ht p (by simp [hp]))

theorem named_snoc_put {es : List It} {P : List Nat} {m : Nat} (h1 : (expAt es m).k = 1) (h2 : ∀ p ∈ named es P, p.1 ≠ txtAt es m) : named es (P ++ [m]) = named es P ++ [(txtAt es m, m)] := by
  unfold named
  rw [firsts_snoc, pick, if_pos ⟨h1, fun a ha e => h2 (txtAt es a, a) (List.mem_map.2 ⟨a, ha, rfl⟩) e⟩, List.map_append]
  rfl
theorem named_snoc_skip {es : List It} {P : List Nat} {m : Nat} (h : (expAt es m).k ≠ 1 ∨ ∃ p ∈ named es P, p.1 = txtAt es m) : named es (P ++ [m]) = named es P := by
  unfold named
  rw [firsts_snoc, pick, if_neg]
  rintro ⟨h1, h2⟩
  rcases h with h | ⟨p, hp, e⟩
  · exact h h1
  · obtain ⟨a, ha, rfl⟩ := List.mem_map.1 hp
    exact h2 a ha e
theorem NameMap.has_iff {D : DataW Unit} {l : List (ByteArray × Nat)} (h : NameMap D l) (s : ByteArray) : has D (.string (lst s)) = true ↔ ∃ p ∈ l, p.1 = s := by
  constructor
  · intro hh
    refine Classical.byContradiction fun hn => ?_
    have := h.miss s (fun p hp e => hn ⟨p, hp, e⟩)
    rw [this] at hh
    cases hh
  · rintro ⟨p, hp, rfl⟩
    exact (h.hit p hp).1

/-- The map B is at has what stands at the first k places. -/
def NARel (w0 : World) (es : List It) (P : List Nat) (B : Nat) (v : Value) (wr : World) : Prop :=
  ∃ (k : Nat) (D : DataW Unit), v = .int .i64 (k : Int) ∧ k ≤ P.length ∧ NameMap D (named es (P.take k)) ∧ wr.ownsMap Tryz.prog 9 (plainElem Tryz.prog 3) B k D ∧ Below w0.heap.size w0 wr

set_option maxRecDepth 100000 in
set_option maxHeartbeats 2000000 in
theorem namesAt_any (u : Ru) (P : List Nat) (a : Option Addr) (cap : Nat) (vs : List Value) (S M : Nat → Prop) (w : World) (hF : FRu S w vs u) (hS : ∀ b, S b → b < w.heap.size) (hw : u.wt ≤ 1048576) (hP : IntsIn M w a (ints P)) (hM : ∀ b, M b → b < w.heap.size) (hlt : ∀ m ∈ P, m < u.es.length) (hl : P.length ≤ 1048576) :
    Calls Tryz.prog 68 #[.agg vs.toArray, .slice a P.length cap] w fun e w' => (∃ (B n : Nat) (D : DataW Unit), e = .returned (.map (some B)) ∧ w.heap.size ≤ B ∧ n ≤ P.length ∧ NameMap D (named u.es P) ∧ w'.ownsMap Tryz.prog 9 (plainElem Tryz.prog 3) B n D) ∧ Below w.heap.size w w' := by
  obtain ⟨aes, ces, ahd, chd, abd, cbd, rfl, r0, r1, r2⟩ := hF
  have hb0 : Below w.heap.size w (w.alloc (.cells #[.slice aes u.es.length ces, .int .i64 u.hd.k, .string u.hd.s, .slice ahd u.hd.xs.length chd, .slice abd u.bd.length cbd] 36)) := (Below.refl _ _).alloc (Nat.le_refl _) _
  have k0 := heap_alloc_new w (.cells #[.slice aes u.es.length ces, .int .i64 u.hd.k, .string u.hd.s, .slice ahd u.hd.xs.length chd, .slice abd u.bd.length cbd] 36)
  obtain ⟨w0, hw0⟩ : ∃ w0, w.alloc (.cells #[.slice aes u.es.length ces, .int .i64 u.hd.k, .string u.hd.s, .slice ahd u.hd.xs.length chd, .slice abd u.bd.length cbd] 36) = w0 := ⟨_, rfl⟩
  have hsz0 : w0.heap.size = w.heap.size + 1 := by rw [← hw0]; simp
  rw [hw0] at hb0 k0
  have hlw : ∀ x ∈ u.es, x.s.size ≤ 1048576 := fun x hx => by
    have h1 := wsum_mem It.wt hx
    unfold Ru.wt wtExpS at hw
    have h2 : x.s.size ≤ x.wt := by unfold It.wt; omega
    omega
  have hmm := @run_makeMap Tryz.prog
  have HST := Lib.hid (show NARel w0 u.es P (w.heap.size + 1) (.int .i64 0) (w0.alloc (.map #[] 0)) from ⟨0, .map [], rfl, Nat.zero_le _, NameMap.nil, by
    rw [← hsz0]; exact World.ownsMap_made w0 _ _ _, (Below.refl _ _).alloc (Nat.le_refl _) _⟩)
  have HR0 := Lib.hid r0
  have HS := Lib.hid hS
  have HB0 := Lib.hid hb0
  have HK0 := Lib.hid k0
  have HLW := Lib.hid hlw
  have HPP := Lib.hid hP
  have HM := Lib.hid hM
  have HLT := Lib.hid hlt
  have HEL := Lib.hid (show u.es.length ≤ 1048576 by unfold Ru.wt wtExpS at hw; omega)
  have HGE := Lib.hid (show w0.heap.size ≤ w.heap.size + 1 by omega)
  clear r0 r1 r2 hS hb0 k0 hlw hP hM hlt hw
  go_enter Tryz.func68, Tryz.ntmps68
  go_wp2
  clear hsz0 hmm
  go_loopw [14] (fun v14 wr => NARel w0 u.es P (w.heap.size + 1) v14 wr) (fun v14 _ => (P.length - (intOf v14).toNat))
  case atStart => exact HST.out
  case round =>
    obtain ⟨k, D, rfl, hk, hN, hown, hb⟩ := hrel
    clear HST
    by_cases hlt : k < P.length
    · have hm := HLT.out P[k] (List.getElem_mem hlt)
      obtain ⟨bp, op, hap, hMb, y0⟩ := HPP.out.kept (Same.below HM.out (below_step HB0.out hb)) k (by rw [ints_len]; exact hlt)
      have hgi : (ints P)[k]'(by rw [ints_len]; exact hlt) = (P[k] : Int) := by simp [ints]
      rw [hgi] at y0
      subst hap
      have htk : P.take (k + 1) = P.take k ++ [P[k]] := List.take_succ_eq_append_getElem hlt
      obtain ⟨m, hmm⟩ : ∃ m, P[k] = m := ⟨_, rfl⟩
      rw [hmm] at hm y0 htk
      have K1 := (hb.block _ (lt_of_block HK0.out)).trans HK0.out
      have q0 := cell_of_row _ w.heap.size 0 _ _ _ K1
      simp only [List.getElem?_toArray, List.getElem?_cons_zero] at q0
      obtain ⟨b, off, vs, ha, hSb, hvn, hcc, axs, cxs, rfl, hI⟩ := RowIn.kept FIt_keeps HR0.out (Same.below HS.out (below_step HB0.out hb)) m hm
      subst ha
      have x0 : wr.cell? ⟨b, off + m * 3, none⟩ = some (.int .i64 u.es[m].k) := hcc 0 (by simp)
      have x1 : wr.cell? ⟨b, off + m * 3 + 1, none⟩ = some (.string u.es[m].s) := hcc 1 (by simp)
      have x2 : wr.cell? ⟨b, off + m * 3 + 2, none⟩ = some (.slice axs u.es[m].xs.length cxs) := hcc 2 (by simp)
      have hxs := HLW.out _ (List.getElem_mem hm)
      have hne := u.es.length
      have hel : u.es.length ≤ 1048576 := HEL.out
      rw [← expAt_lt hm] at x0 x1 x2 hxs
      have hput : (expAt u.es m).k = 1 → (∀ p ∈ named u.es (P.take k), p.1 ≠ (expAt u.es m).s) → named u.es (P.take (k + 1)) = named u.es (P.take k) ++ [((expAt u.es m).s, m)] := fun h1 h2 => by rw [htk]; exact named_snoc_put h1 h2
      have hskip : ((expAt u.es m).k ≠ 1 ∨ ∃ p ∈ named u.es (P.take k), p.1 = (expAt u.es m).s) → named u.es (P.take (k + 1)) = named u.es (P.take k) := fun h => by rw [htk]; exact named_snoc_skip h
      obtain ⟨x, hx⟩ : ∃ x, expAt u.es m = x := ⟨_, rfl⟩
      rw [hx] at x0 x1 x2 hxs hput hskip
      have HPUT := Lib.hid hput
      have HSK := Lib.hid hskip
      have HN := Lib.hid hN
      have hb3 : Below w0.heap.size w0 (wr.alloc (.cells #[.int .i64 x.k, .string x.s, .slice axs x.xs.length cxs] 49)) := below_alloc hb _
      have HOW := Lib.hid (hown.alloc (.cells #[.int .i64 x.k, .string x.s, .slice axs x.xs.length cxs] 49))
      have HB3 := Lib.hid hb3
      have HNEXT := Lib.hid (fun (h : x.k ≠ 1 ∨ ∃ p ∈ named u.es (P.take k), p.1 = x.s) => (⟨k + 1, D, by go_num, by omega, by rw [HSK.out h]; exact HN.out, HOW.out.mono (Nat.le_succ _), HB3.out⟩ : NARel w0 u.es P (w.heap.size + 1) (.int .i64 ((k : Int) + 1)) (wr.alloc (.cells #[.int .i64 x.k, .string x.s, .slice axs x.xs.length cxs] 49))))
      clear hput hskip hN hown hb hb3 hcc hSb hvn hI K1 hgi hMb htk hmm hx
      cases hh : has D (.string (lst x.s)) with
      | true =>
        have HR := Lib.hid (HNEXT.out (.inr ((HN.out.has_iff x.s).1 hh)))
        clear HNEXT HPUT HSK
        by_cases hk1 : x.k = 1
        · have hke : (x.k == 1) = true := by simp [hk1]
          clear hk1
          generalize x.k = kk at *
          go_wp2_with (first | (at_lookup; refine wpList_lookup_own_ok_int _ rfl _ _ 55 rfl 9 3 .i64 lawS Tryz.underlying55 Tryz.underlying3 (zeroI _) (w.heap.size + 1) k D rfl HOW.out _ _ rfl (keyS hxs) ?_; intro c hat hwc; rw [hh]; clear hat hwc))
          go_roundw
          case rel => exact HR.out
          case measure => (simp [intOf] <;> omega)
        · have hke : (x.k == 1) = false := by simp [hk1]
          clear hk1
          generalize x.k = kk at *
          go_wp2_with (first | (at_lookup; refine wpList_lookup_own_ok_int _ rfl _ _ 55 rfl 9 3 .i64 lawS Tryz.underlying55 Tryz.underlying3 (zeroI _) (w.heap.size + 1) k D rfl HOW.out _ _ rfl (keyS hxs) ?_; intro c hat hwc; rw [hh]; clear hat hwc))
          go_roundw
          case rel => exact HR.out
          case measure => (simp [intOf] <;> omega)
      | false =>
        by_cases hk1 : x.k = 1
        · have hke : (x.k == 1) = true := by simp [hk1]
          have HP1 := Lib.hid (HPUT.out hk1 (fun p hp e => by
            have := (HN.out.has_iff x.s).2 ⟨p, hp, e⟩
            rw [hh] at this
            cases this))
          have HPN := Lib.hid (HN.out.put x.s m hxs (fun p hp e => by
            have := (HN.out.has_iff x.s).2 ⟨p, hp, e⟩
            rw [hh] at this
            cases this))
          clear hk1 HNEXT HPUT HSK
          go_wp2_with (first | (at_lookup; refine wpList_lookup_own_ok_int _ rfl _ _ 55 rfl 9 3 .i64 lawS Tryz.underlying55 Tryz.underlying3 (zeroI _) (w.heap.size + 1) k D rfl HOW.out _ _ rfl (keyS hxs) ?_; intro c hat hwc; rw [hh]; clear hat hwc) | (at_mapUpdate; refine wpList_mapUpdate_own _ rfl _ _ _ 55 rfl 9 3 lawS Tryz.underlying55 _ (w.heap.size + 1) k D rfl HOW.out (by unfold maxLen; omega) _ _ _ rfl rfl (keyS hxs) _ [] (plainElem_int Tryz.underlying3 (WalkArith.wf_i64 (by omega))) ?_; intro w4 hown4 hgrow4))
          have HR := Lib.hid (show NARel w0 u.es P (w.heap.size + 1) (.int .i64 ((k : Int) + 1)) w4 from ⟨k + 1, _, by go_num, by omega, by rw [HP1.out]; exact HPN.out, hown4, HB3.out.grown hgrow4 HB3.out.size (fun j hj => by cases hj; exact HGE.out)⟩)
          clear hown4 hgrow4
          go_roundw
          case rel => exact HR.out
          case measure => (simp [intOf] <;> omega)
        · have hke : (x.k == 1) = false := by simp [hk1]
          have HR := Lib.hid (HNEXT.out (.inl hk1))
          clear HNEXT HPUT HSK hk1
          generalize x.k = kk at *
          go_wp2_with (first | (at_lookup; refine wpList_lookup_own_ok_int _ rfl _ _ 55 rfl 9 3 .i64 lawS Tryz.underlying55 Tryz.underlying3 (zeroI _) (w.heap.size + 1) k D rfl HOW.out _ _ rfl (keyS hxs) ?_; intro c hat hwc; rw [hh]; clear hat hwc))
          go_roundw
          case rel => exact HR.out
          case measure => (simp [intOf] <;> omega)
    · obtain rfl : k = P.length := by omega
      rw [List.take_length] at hN
      have HN := Lib.hid hN
      have HO := Lib.hid hown
      have HB := Lib.hid hb
      have hd : decide ((P.length : Int) < (P.length : Int)) = false := by simp
      clear hN hown hb
      go_wp2
      go_ret
      exact ⟨⟨w.heap.size + 1, P.length, D, rfl, by omega, Nat.le_refl _, HN.out, HO.out⟩, below_step HB0.out HB.out⟩

end Go.Proofs.YtilijbpbnlnhlaaGreat.Pr
