/-
  THE DRAWING of a graph: the walk.
-/
import Derived.Test.YtliibknppfbfeaaPD2
import Derived.Deep.RegionLaw
namespace Go.Proofs.Ytliibknppfbfeaa.Pr
open Go Go.RowKit Go.Maps Go.WideMaps

def PkPost (w0 : World) (c : Nat) (a : Option Addr) (len cap N n : Nat) (W : World) (e : Ending) (w' : World) : Prop := ∃ r : Nat, r < n ∧ e = .returned (.int .i64 (r : Int)) ∧ CurAt w0 w' c a len cap (N + 1) ∧ ∀ j : Nat, j ≠ c → w'.heap[j]? = W.heap[j]?
def RwPost (w0 : World) (c : Nat) (a : Option Addr) (len cap N : Nat) (W : World) (e : Ending) (w' : World) : Prop := ∃ n : Int, -9223372036854775808 ≤ n ∧ n ≤ 9223372036854775807 ∧ e = .returned (.int .i64 n) ∧ CurAt w0 w' c a len cap (N + 2) ∧ ∀ j : Nat, j < W.heap.size → j ≠ c → w'.heap[j]? = W.heap[j]?
def DgPost (w0 w : World) (c : Nat) (a : Option Addr) (len cap N : Nat) (e : Ending) (w' : World) : Prop :=
  ∃ (g : Gr) (v : Value), e = .returned (.agg #[.int .i64 g.f, .int .i64 g.t, v]) ∧ w'.ownsRow w.heap.size 55 3 v g.rs.length (arcCells g.rs) ∧ g.rs.length ≤ 10 ∧ CurAt w0 w' c a len cap (N + 30) ∧ w.heap.size ≤ w'.heap.size ∧ ∀ j, j < w.heap.size → j ≠ c → w'.heap[j]? = w.heap[j]?

set_option maxRecDepth 100000 in
set_option maxHeartbeats 8000000 in
theorem graphDraw_any {w0 : World} {c : Nat} {a : Option Addr} {len cap N : Nat} (hN : N ≤ 1000) (w : World) (hC : CurAt w0 w c a len cap N) :
    Calls Try.prog 19 #[.pointer (some ⟨c, 0, none⟩)] w (DgPost w0 w c a len cap N) := by
  have hcl := hC.lt
  have HCW := Lib.hid hcl
  have hC1 := hC.kept ((Below.refl w.heap.size w).alloc (Nat.le_refl _) (.cells #[.int .i64 0, .int .i64 0, .slice none 0 0] 26))
  have hk1 := heap_alloc_new w (.cells #[.int .i64 0, .int .i64 0, .slice none 0 0] 26)
  have ho1 : ∀ j, j < w.heap.size → (w.alloc (.cells #[.int .i64 0, .int .i64 0, .slice none 0 0] 26)).heap[j]? = w.heap[j]? := fun j h => heap_alloc_old w _ h
  obtain ⟨w1, hw1⟩ : ∃ w1, w.alloc (.cells #[.int .i64 0, .int .i64 0, .slice none 0 0] 26) = w1 := ⟨_, rfl⟩
  rw [hw1] at hC1 hk1 ho1
  have HP1 := Lib.hid (pick_any 2 (by omega) (by omega) (by omega) w1 hC1)
  have HK1 := Lib.hid hk1
  have HO1 := Lib.hid ho1
  clear hC hcl hC1 hk1 ho1
  go_enter Try.func19, Try.ntmps19
  go_wp2_with fail
  refine HP1.out.mono ?_
  rintro e w2 ⟨r1, hr1, rfl, hC2, ho2⟩
  have HP2 := Lib.hid (pick_any 2 (by omega) (by omega) (by omega) w2 hC2)
  have HK2 := Lib.hid ((ho2 w.heap.size (by have := HCW.out; omega)).trans HK1.out)
  have HO2 := Lib.hid (fun (j : Nat) (h : j < w.heap.size) (h2 : j ≠ c) => (ho2 j h2).trans (HO1.out j h))
  clear hC2 ho2 HP1 hw1
  go_wp2_with fail
  refine HP2.out.mono ?_
  rintro e w3 ⟨r2, hr2, rfl, hC3, ho3⟩
  have hk3 := (ho3 w.heap.size (by have := HCW.out; omega)).trans HK2.out
  have hbl : Below w3.heap.size w3 (w3.alloc (.cells #[.int .i64 (r1 : Int), .int .i64 (r2 : Int), .slice none 0 0] 26)) := (Below.refl _ _).alloc (Nat.le_refl _) _
  have hgw : w.heap.size < w3.heap.size := lt_of_block hk3
  have HST := Lib.hid (show DgSt w0 w c a len cap (N + 2) w3.heap.size (r1 : Int) (r2 : Int) [] (.slice none 0 0) (w3.alloc (.cells #[.int .i64 (r1 : Int), .int .i64 (r2 : Int), .slice none 0 0] 26)) from
    ⟨hC3.kept hbl, (hbl.block _ hgw).trans hk3, heap_alloc_new w3 _, World.ownsRow_nil _ _ _ _, fun j h h2 => (hbl.block j (by omega)).trans ((ho3 j h2).trans (HO2.out j h h2)), by simp; omega, HCW.out, hgw⟩)
  clear hC3 ho3 hk3 hbl hgw HP2
  go_wp2
  obtain ⟨G, hG⟩ : ∃ G, w3.heap.size = G := ⟨_, rfl⟩
  obtain ⟨w4, hw4⟩ : ∃ w4, w3.alloc (.cells #[.int .i64 (r1 : Int), .int .i64 (r2 : Int), .slice none 0 0] 26) = w4 := ⟨_, rfl⟩
  rw [hG, hw4] at HST
  rw [hG, hw4]
  obtain ⟨f, hf⟩ : ∃ f : Int, (r1 : Int) = f := ⟨_, rfl⟩
  obtain ⟨t, ht⟩ : ∃ t : Int, (r2 : Int) = t := ⟨_, rfl⟩
  rw [hf, ht] at HST ⊢
  clear hG hw4 hf ht hr1 hr2
  go_loopw [4] (fun v4 wr => ∃ (i : Nat) (l : List Ar) (v : Value), v4 = .int .i64 (i : Int) ∧ i ≤ 3 ∧ l.length ≤ 3 * i ∧ DgSt w0 w c a len cap (N + 2 + 6 * i) G f t l v wr) (fun v4 _ => (3 - (intOf v4).toNat))
  case atStart => exact ⟨0, [], _, rfl, by omega, Nat.le_refl _, HST.out⟩
  case round =>
    obtain ⟨i, l, v, rfl, hi, hll, hS⟩ := hrel
    have HS := Lib.hid hS
    clear hS HST
    by_cases hi3 : i < 3
    · have hd0 : decide ((i : Int) < 3) = true := decide_eq_true (by omega)
      have HI3 := Lib.hid hi3
      clear hi3
      go_wp2
      go_loopw [5] (fun v5 wr => ∃ (k : Nat) (l : List Ar) (v : Value), v5 = .int .i64 (k : Int) ∧ k ≤ 3 ∧ l.length ≤ 3 * i + k ∧ DgSt w0 w c a len cap (N + 2 + 6 * i + 2 * k) G f t l v wr) (fun v5 _ => (3 - (intOf v5).toNat))
      case atStart => exact ⟨0, l, v, rfl, by omega, by omega, HS.out⟩
      case round =>
        obtain ⟨k, l, v, rfl, hk, hll, hS⟩ := hrel
        have HS := Lib.hid hS
        have HLL := Lib.hid hll
        clear hS hll
        by_cases hk3 : k < 3
        · have hd1 : decide ((k : Int) < 3) = true := decide_eq_true (by omega)
          have HK3 := Lib.hid hk3
          have HPK := Lib.hid (pick_any 3 (by omega) (by omega) (by have := HI3.out; omega) wr HS.out.cur)
          clear hk3
          go_wp2_with fail
          refine HPK.out.mono ?_
          rintro e w5 ⟨r, hr, rfl, hC5, ho5⟩
          have HS5 := Lib.hid (HS.out.touch hC5 (size_same hC5.lt (fun j _ h => ho5 j h)) (fun j _ h => ho5 j h))
          clear hC5 ho5 HPK HS
          by_cases hr0 : r = 0
          · subst hr0
            have q2 := cell_of_row _ G 2 _ _ _ HS5.out.out
            simp only [List.getElem?_toArray, List.getElem?_cons_zero, List.getElem?_cons_succ] at q2
            have HPK2 := Lib.hid (show ∀ W : World, W = w5 ∨ W = w5.drew → Calls Try.prog 31 #[.pointer (some ⟨c, 0, none⟩), .int .i64 2] W (PkPost w0 c a len cap (N + 2 + 6 * i + 2 * k + 1) 2 W) from fun W hW => by
              have hcu : CurAt w0 W c a len cap (N + 2 + 6 * i + 2 * k + 1) := by
                rcases hW with rfl | rfl
                · exact HS5.out.cur
                · exact HS5.out.cur.kept (below_drew2 (Below.refl _ _))
              exact pick_any 2 (by omega) (by omega) (by have := HI3.out; have := HK3.out; omega) W hcu)
            go_wp2
            have HS5D := Lib.hid (show ∀ W w7 : World, W = w5 ∨ W = w5.drew → CurAt w0 w7 c a len cap (N + 2 + 6 * i + 2 * k + 1 + 1) → (∀ j : Nat, j ≠ c → w7.heap[j]? = W.heap[j]?) → DgSt w0 w c a len cap (N + 2 + 6 * i + 2 * k + 1 + 1) G f t l v w7 from fun W w7 hW hC7 ho7 => by
              have h5 : ∀ j, j ≠ c → w7.heap[j]? = w5.heap[j]? := fun j hj => by
                rcases hW with rfl | rfl
                · exact ho7 j hj
                · exact ho7 j hj
              exact HS5.out.touch hC7 (size_same hC7.lt (fun j _ h => h5 j h)) (fun j _ h => h5 j h))
            go_region_law (first
              | (refine step_on (by rfl) ?_
                 go_simp
                 go_at_call 31
                 refine (HPK2.out _ (by first | exact .inl rfl | exact .inr rfl)).mono ?_
                 rintro e7 w7 ⟨r7, hr7, rfl, hC7, ho7⟩
                 have HS7 := Lib.hid (HS5D.out _ w7 (by first | exact .inl rfl | exact .inr rfl) hC7 ho7)
                 have z2 := cell_of_row _ G 2 _ _ _ HS7.out.out
                 simp only [List.getElem?_toArray, List.getElem?_cons_zero, List.getElem?_cons_succ] at z2
                 have z3 := cell_keep_alloc z2 (.cells #[.int .i64 (i : Int), .int .i64 (k : Int), .bool ((r7 : Int) == 0)] 55)
                 clear hC7 ho7)
              | (refine step_push (by rfl) (.tmp 23) (.tmp 30) _ (by rfl) (by rfl) (by rfl) _ (HS7.out.push ⟨(i : Int), (k : Int), (r7 : Int) == 0⟩ (by have := HLL.out; have := HI3.out; have := HK3.out; omega)) ?_
                 rintro v9 w9 ⟨⟨g9, n9, c9, rfl⟩, hp9, hs9⟩
                 have HS9 := Lib.hid hs9
                 obtain ⟨g0, g1, g2, e0, e1, e2⟩ := cells3 hp9
                 clear hp9 hs9)
              | fail)
            all_goals
              clear g0 g1 g2 e0 e1 e2 z2 z3
              simp only [Exit.inBlock, Exit.then]
              rename_i K hKK
              refine hKK _ _ ?_
              go_wp2
              go_roundw
              case rel => exact ⟨k + 1, l ++ [⟨(i : Int), (k : Int), (r7 : Int) == 0⟩], _, by go_num, by have := HK3.out; omega, by simp; have := HLL.out; omega, HS9.out.wider (by omega)⟩
              case measure => (have := HK3.out; simp [intOf] <;> omega)
          · have hd2 : ((r : Int) == 0) = false := by rw [beq_eq_false_iff_ne]; omega
            clear hr0
            go_wp2
            go_roundw
            case rel => exact ⟨k + 1, l, v, by go_num, by have := HK3.out; omega, by have := HLL.out; omega, HS5.out.wider (by omega)⟩
            case measure => (have := HK3.out; simp [intOf] <;> omega)
        · obtain rfl : k = 3 := by omega
          have hd1 : decide ((3 : Int) < 3) = false := by simp
          go_wp2
          go_roundw
          case rel => exact ⟨i + 1, l, v, by go_num, by have := HI3.out; omega, by have := HLL.out; omega, HS.out.wider (by omega)⟩
          case measure => (have := HI3.out; simp [intOf] <;> omega)
    · obtain rfl : i = 3 := by omega
      have hd0 : decide ((3 : Int) < 3) = false := by simp
      have HON := Lib.hid (once_any 20 (by omega) (by omega) (by omega) wr HS.out.cur)
      have HLL := Lib.hid hll
      clear hll
      go_wp2_with fail
      refine HON.out.mono ?_
      rintro e w5 ⟨on, rfl, hC5, ho5⟩
      have HS5 := Lib.hid (HS.out.touch hC5 (size_same hC5.lt (fun j _ h => ho5 j h)) (fun j _ h => ho5 j h))
      clear hC5 ho5 HON HS
      have HEND := Lib.hid (show ∀ (l : List Ar) (ao : Option Addr) (ca : Nat) (wf : World), l.length ≤ 10 → DgSt w0 w c a len cap (N + 30) G f t l (.slice ao l.length ca) wf →
          (((wf.setCell ⟨w.heap.size, 0, none⟩ (.int .i64 f)).setCell ⟨w.heap.size, 1, none⟩ (.int .i64 t)).setCell ⟨w.heap.size, 2, none⟩ (.slice ao l.length ca)).heap[w.heap.size]? = some (.cells #[.int .i64 f, .int .i64 t, .slice ao l.length ca] 26 (0, 0)) ∧
          DgPost w0 w c a len cap N (.returned (.agg #[.int .i64 f, .int .i64 t, .slice ao l.length ca])) (((wf.setCell ⟨w.heap.size, 0, none⟩ (.int .i64 f)).setCell ⟨w.heap.size, 1, none⟩ (.int .i64 t)).setCell ⟨w.heap.size, 2, none⟩ (.slice ao l.length ca)) from fun l ao ca wf hl hs => by
        have hcw := hs.cw
        have hgw := hs.gw
        obtain ⟨s1, s2, s3⟩ := set3 (w0 := w0) (P := w.heap.size) hs.res (.int .i64 f) (.int .i64 t) (.slice ao l.length ca) hs.cur.below (by have := hs.cur.new; omega)
        obtain ⟨k, sd, hk, hsd, hh⟩ := hs.cur.lies
        refine ⟨s1, ⟨f, t, l⟩, _, rfl, owns_mono (show w.heap.size ≤ G + 1 by omega) (owns_same2 hs.own fun b hb => s3 b (by have := own_ge hs.own b hb; omega)), hl, ⟨hs.cur.new, hs.cur.code, s2, k, sd, hk, hsd, (s3 c (by omega)).trans hh⟩, ?_, fun j h1 h2 => (s3 j (by omega)).trans (hs.old j h1 h2)⟩
        simp; exact hs.sz)
      cases on with
      | false =>
        have hsh := owns_shape HS5.out.own
        obtain ⟨ao, ca, rfl⟩ := hsh
        obtain ⟨c0, c1, c2, e0, e1, e2⟩ := cells3 (P := w.heap.size) HS5.out.res
        obtain ⟨g0, g1, g2, -, -, -⟩ := cells3 (P := G) HS5.out.out
        have HE := Lib.hid (HEND.out l ao ca w5 (by have := HLL.out; omega) (HS5.out.wider (by omega)))
        clear HEND
        generalize l.length = ln at *
        go_wp2
        refine bodyPost_ret (results_cell_row rfl _ _ w.heap.size 26 #[.int .i64 f, .int .i64 t, .slice ao ln ca] (0, 0) _ (by rfl) HE.out.1 Try.underlying26 rfl infoSGraph) rfl ?_
        exact HE.out.2
      | true =>
        have q2 := cell_of_row _ G 2 _ _ _ HS5.out.out
        simp only [List.getElem?_toArray, List.getElem?_cons_zero, List.getElem?_cons_succ] at q2
        have HR1 := Lib.hid (show ∀ W : World, W = w5 ∨ W = w5.drew → Calls Try.prog 33 #[.pointer (some ⟨c, 0, none⟩)] W (RwPost w0 c a len cap (N + 2 + 6 * 3 + 1) W) from fun W hW => by
          have hcu : CurAt w0 W c a len cap (N + 2 + 6 * 3 + 1) := by
            rcases hW with rfl | rfl
            · exact HS5.out.cur
            · exact HS5.out.cur.kept (below_drew2 (Below.refl _ _))
          exact raw_any (by omega) W hcu)
        have HS5D := Lib.hid (show ∀ W w7 : World, W = w5 ∨ W = w5.drew → CurAt w0 w7 c a len cap (N + 2 + 6 * 3 + 1 + 2) → (∀ j : Nat, j < W.heap.size → j ≠ c → w7.heap[j]? = W.heap[j]?) → DgSt w0 w c a len cap (N + 2 + 6 * 3 + 1 + 2) G f t l v w7 from fun W w7 hW hC7 ho7 => by
          have h5 : ∀ j, j < w5.heap.size → j ≠ c → w7.heap[j]? = w5.heap[j]? := fun j h hj => by
            rcases hW with rfl | rfl
            · exact ho7 j h hj
            · exact ho7 j h hj
          exact HS5.out.touch hC7 (size_same hC7.lt h5) h5)
        go_wp2
        go_region_law (first
          | (refine step_on (by rfl) ?_
             go_simp
             go_at_call 33
             refine (HR2.out).mono ?_
             rintro e8 w8 ⟨n2, -, -, rfl, hC8, ho8⟩
             have HS8 := Lib.hid (HS7.out.touch hC8 (size_same hC8.lt ho8) ho8)
             have y2 := cell_of_row _ G 2 _ _ _ HS8.out.out
             simp only [List.getElem?_toArray, List.getElem?_cons_zero, List.getElem?_cons_succ] at y2
             have y3 := cell_keep_alloc y2 (.cells #[.int .i64 n1, .int .i64 n2, .bool false] 55)
             clear hC8 ho8 HR2)
          | (refine step_on (by rfl) ?_
             go_simp
             go_at_call 33
             refine (HR1.out _ (by first | exact .inl rfl | exact .inr rfl)).mono ?_
             rintro e7 w7 ⟨n1, -, -, rfl, hC7, ho7⟩
             have HS7 := Lib.hid (HS5D.out _ w7 (by first | exact .inl rfl | exact .inr rfl) hC7 ho7)
             have HR2 := Lib.hid (raw_any (by omega) w7 HS7.out.cur)
             have z2 := cell_of_row _ G 2 _ _ _ HS7.out.out
             simp only [List.getElem?_toArray, List.getElem?_cons_zero, List.getElem?_cons_succ] at z2
             clear hC7 ho7)
          | (refine step_push (by rfl) (.tmp 36) (.tmp 42) _ (by rfl) (by rfl) (by rfl) _ (HS8.out.push ⟨n1, n2, false⟩ (by have := HLL.out; omega)) ?_
             rintro v9 w9 ⟨⟨g9, n9, c9, rfl⟩, hp9, hs9⟩
             have HS9 := Lib.hid hs9
             obtain ⟨g0, g1, g2, e0, e1, e2⟩ := cells3 hp9
             clear hp9 hs9)
          | fail)
        all_goals
          clear g0 g1 g2 e0 e1 e2 z2 y2 y3 q2
          simp only [Exit.inBlock, Exit.then]
          rename_i K hKK
          refine hKK _ _ ?_
          obtain ⟨ao, ca, hsl⟩ := owns_shape HS9.out.own
          simp only [Value.slice.injEq] at hsl
          obtain ⟨rfl, rfl, rfl⟩ := hsl
          obtain ⟨c0, c1, c2, e0, e1, e2⟩ := cells3 (P := w.heap.size) HS9.out.res
          obtain ⟨g0, g1, g2, -, -, -⟩ := cells3 (P := G) HS9.out.out
          have HE := Lib.hid (HEND.out _ _ _ _ (by simp; have := HLL.out; omega) (HS9.out.wider (by omega)))
          clear HEND HS9 HS8 HS7 HS5 HS5D HR1
          generalize (l ++ [(⟨n1, n2, false⟩ : Ar)]).length = ln at *
          go_wp2
          refine bodyPost_ret (results_cell_row rfl _ _ w.heap.size 26 #[.int .i64 f, .int .i64 t, .slice _ ln _] (0, 0) _ (by rfl) HE.out.1 Try.underlying26 rfl infoSGraph) rfl ?_
          exact HE.out.2

end Go.Proofs.Ytliibknppfbfeaa.Pr
