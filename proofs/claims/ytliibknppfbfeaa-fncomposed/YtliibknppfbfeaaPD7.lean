/-
  laws.FnComposed answers true.
-/
import Derived.Test.YtliibknppfbfeaaPD4
import Derived.Test.YtliibknppfbfeaaPD5
import Derived.Test.YtliibknppfbfeaaPD6
import Derived.Test.YtliibknppfbfeaaPIC
namespace Go.Proofs.Ytliibknppfbfeaa.Pr
open Go Go.RowKit Go.Maps Go.WideMaps

/-- A graph in a variable's block. -/
def VarG (w : World) (X : Nat) (g : Gr) : Prop := ∃ av cv, w.heap[X]? = some (.cells #[.int .i64 g.f, .int .i64 g.t, .slice av g.rs.length cv] 26 (0, 0)) ∧ RowIn FAr 3 (fun b => b < w.heap.size) w av g.rs
theorem row_all {S : Nat → Prop} {w w' : World} {a : Option Addr} {l : List Ar} (h : RowIn FAr 3 S w a l) (hS : ∀ b, S b → b < w.heap.size) (hb : Below w.heap.size w w') : RowIn FAr 3 (fun b => b < w'.heap.size) w' a l :=
  RowIn.mono FAr_keeps (RowIn.kept FAr_keeps h (Same.below hS hb)) (fun b h => Nat.lt_of_lt_of_le (hS b h) hb.size)
theorem VarG.below {w w' : World} {X : Nat} {g : Gr} (h : VarG w X g) (hb : Below w.heap.size w w') : VarG w' X g := by
  obtain ⟨av, cv, h1, h2⟩ := h
  exact ⟨av, cv, (hb.block _ (lt_of_block h1)).trans h1, row_all h2 (fun _ h => h) hb⟩
theorem VarG.new {w : World} {base : Nat} {r : Gr} {av : Option Addr} {cv : Nat} (ho : w.ownsRow base 55 3 (.slice av r.rs.length cv) r.rs.length (arcCells r.rs)) : VarG (w.alloc (.cells #[.int .i64 r.f, .int .i64 r.t, .slice av r.rs.length cv] 26)) w.heap.size r :=
  ⟨av, cv, heap_alloc_new w _, row_all (own_arcs ho) (fun _ h => h.2) ((Below.refl _ _).alloc (Nat.le_refl _) _)⟩
def CmpRes (r : Gr) (ok : Bool) (w : World) (e : Ending) (w' : World) : Prop :=
  ∃ v, e = .returned (.tuple #[.agg #[.int .i64 r.f, .int .i64 r.t, v], .bool ok]) ∧ w'.ownsRow w.heap.size 55 3 v r.rs.length (arcCells r.rs) ∧ Below w.heap.size w w'
theorem ans_len (g h : Gr) : (compAns g h).1.rs.length ≤ 36 := by
  unfold compAns
  split
  · exact arcsTo_len g.rs h.rs 36
  · simp

set_option maxRecDepth 100000 in
set_option maxHeartbeats 8000000 in
theorem law_FnComposed (a1 : Option Addr) (len1 cap1 : Nat) (z1 : List Int) (a2 : Option Addr) (len2 cap2 : Nat) (z2 : List Int) (W : World) (hz1 : IsRow .u8 W a1 len1 cap1 z1) (hz2 : IsRow .u8 W a2 len2 cap2 z2) :
    Calls Try.prog 3 #[.slice a1 len1 cap1, .slice a2 len2 cap2] W fun e w' => e = .returned (.bool true) ∧ Below W.heap.size W w' := by
  have HBG1 := Lib.hid (big_any (a := a1) (len := len1) (cap := cap1) W)
  have HBG2 := Lib.hid (big_any (a := a2) (len := len2) (cap := cap2) W)
  by_cases hl1 : len1 ≤ 1048576
  · have d1 : decide ((1048576 : Int) < (len1 : Int)) = false := decide_eq_false (by omega)
    by_cases hl2 : len2 ≤ 1048576
    · have d2 : decide ((1048576 : Int) < (len2 : Int)) = false := decide_eq_false (by omega)
      have HC2 := Lib.hid (code_of hz2 hl2)
      have HD1 := Lib.hid (drawCompose_any (cap := cap1) W (code_of hz1 hl1))
      clear hz1 hz2 hl1 hl2
      rw [d1] at HBG1
      rw [d2] at HBG2
      clear d1 d2
      go_enter Try.func3, Try.ntmps3
      go_wp2_with fail
      refine HBG1.out.mono ?_
      rintro e w1 ⟨rfl, rfl⟩
      go_wp2_with fail
      refine HBG2.out.mono ?_
      rintro e w1 ⟨rfl, rfl⟩
      clear HBG1 HBG2
      go_wp2_with fail
      refine HD1.out.mono ?_
      rintro e w1 ⟨g, h, ag, ah, cg, ch, rfl, hFg, hFh, hlg, hlh, hb1⟩
      -- GEN
      obtain ⟨_, _, hsl, hr1⟩ := hFg
      simp only [List.cons.injEq, Value.slice.injEq, and_true, true_and] at hsl
      obtain ⟨rfl, -, rfl⟩ := hsl
      obtain ⟨_, _, hsl, hr2⟩ := hFh
      simp only [List.cons.injEq, Value.slice.injEq, and_true, true_and] at hsl
      obtain ⟨rfl, -, rfl⟩ := hsl
      have hbn := below_alloc (below_alloc (Below.refl w1.heap.size w1) (.cells #[.int .i64 g.f, .int .i64 g.t, .slice ag g.rs.length cg] 26)) (.cells #[.int .i64 h.f, .int .i64 h.t, .slice ah h.rs.length ch] 26)
      have ka := (heap_alloc_old _ (Obj.cells #[.int .i64 h.f, .int .i64 h.t, .slice ah h.rs.length ch] 26) (by simp)).trans (heap_alloc_new w1 (.cells #[.int .i64 g.f, .int .i64 g.t, .slice ag g.rs.length cg] 26))
      have kb := heap_alloc2_new w1 (.cells #[.int .i64 g.f, .int .i64 g.t, .slice ag g.rs.length cg] 26) (.cells #[.int .i64 h.f, .int .i64 h.t, .slice ah h.rs.length ch] 26)
      obtain ⟨w2, hw2⟩ : ∃ wx, (w1.alloc (.cells #[.int .i64 g.f, .int .i64 g.t, .slice ag g.rs.length cg] 26)).alloc (.cells #[.int .i64 h.f, .int .i64 h.t, .slice ah h.rs.length ch] 26) = wx := ⟨_, rfl⟩
      rw [hw2] at hbn ka kb
      have HV5 := Lib.hid (show VarG w2 w1.heap.size g from ⟨ag, cg, ka, row_all hr1 (fun _ h => h.2) hbn⟩)
      have HV6 := Lib.hid (show VarG w2 (w1.heap.size + 1) h from ⟨ah, ch, kb, row_all hr2 (fun _ h => h.2) hbn⟩)
      have HB2 := Lib.hid (below_step hb1 hbn)
      have HLG := Lib.hid (And.intro hlg hlh)
      have HD2 := Lib.hid (drawCompose_any (cap := cap2) w2 (HC2.out.kept HB2.out))
      clear hbn ka kb hr1 hr2 hb1 hlg hlh HD1 HC2
      go_wp2_with fail
      refine HD2.out.mono ?_
      rintro e w3 ⟨k, k2, ak, ak2, ck, ck2, rfl, hFk, hFk2, hlk, hlk2, hb3⟩
      obtain ⟨_, _, hsl, hr1⟩ := hFk
      simp only [List.cons.injEq, Value.slice.injEq, and_true, true_and] at hsl
      obtain ⟨rfl, -, rfl⟩ := hsl
      obtain ⟨_, _, hsl, hr2⟩ := hFk2
      simp only [List.cons.injEq, Value.slice.injEq, and_true, true_and] at hsl
      obtain ⟨rfl, -, rfl⟩ := hsl
      have hbn := below_alloc (below_alloc (Below.refl w3.heap.size w3) (.cells #[.int .i64 k.f, .int .i64 k.t, .slice ak k.rs.length ck] 26)) (.cells #[.int .i64 k2.f, .int .i64 k2.t, .slice ak2 k2.rs.length ck2] 26)
      have ka := (heap_alloc_old _ (Obj.cells #[.int .i64 k2.f, .int .i64 k2.t, .slice ak2 k2.rs.length ck2] 26) (by simp)).trans (heap_alloc_new w3 (.cells #[.int .i64 k.f, .int .i64 k.t, .slice ak k.rs.length ck] 26))
      have kb := heap_alloc2_new w3 (.cells #[.int .i64 k.f, .int .i64 k.t, .slice ak k.rs.length ck] 26) (.cells #[.int .i64 k2.f, .int .i64 k2.t, .slice ak2 k2.rs.length ck2] 26)
      obtain ⟨w4, hw4⟩ : ∃ wx, (w3.alloc (.cells #[.int .i64 k.f, .int .i64 k.t, .slice ak k.rs.length ck] 26)).alloc (.cells #[.int .i64 k2.f, .int .i64 k2.t, .slice ak2 k2.rs.length ck2] 26) = wx := ⟨_, rfl⟩
      rw [hw4] at hbn ka kb
      have HV7 := Lib.hid (show VarG w4 w3.heap.size k from ⟨ak, ck, ka, row_all hr1 (fun _ h => h.2) hbn⟩)
      have HV8 := Lib.hid (show VarG w4 (w3.heap.size + 1) k2 from ⟨ak2, ck2, kb, row_all hr2 (fun _ h => h.2) hbn⟩)
      have hbb := below_step hb3 hbn
      have HB4 := Lib.hid (below_step HB2.out hbb)
      have HV5 := Lib.hid (HV5.out.below hbb)
      have HV6 := Lib.hid (HV6.out.below hbb)
      have HLK := Lib.hid hlk
      clear hbn ka kb hr1 hr2 hb3 hlk hlk2 HD2 hbb hw2
      obtain ⟨⟨r1, ok1⟩, hA1⟩ : ∃ A, compAns g h = A := ⟨_, rfl⟩
      obtain ⟨⟨r2, ok2⟩, hA2⟩ : ∃ A, compAns h k = A := ⟨_, rfl⟩
      obtain ⟨⟨r3, ok3⟩, hA3⟩ : ∃ A, compAns r1 k = A := ⟨_, rfl⟩
      obtain ⟨⟨r4, ok4⟩, hA4⟩ : ∃ A, compAns g r2 = A := ⟨_, rfl⟩
      have HA1 := Lib.hid hA1
      have HA2 := Lib.hid hA2
      have HA3 := Lib.hid hA3
      have HA4 := Lib.hid hA4
      have HLR := Lib.hid (show r1.rs.length ≤ 36 ∧ r2.rs.length ≤ 36 ∧ r3.rs.length ≤ 36 ∧ r4.rs.length ≤ 36 from ⟨by have := ans_len g h; rwa [hA1] at this, by have := ans_len h k; rwa [hA2] at this, by have := ans_len r1 k; rwa [hA3] at this, by have := ans_len g r2; rwa [hA4] at this⟩)
      have HASS := Lib.hid (show ok1 = true → ok2 = true → r3 = r4 ∧ ok3 = true ∧ ok4 = true from fun e1 e2 => by
        have h1 : (compAns g h).2 = true := by rw [hA1]; exact e1
        have h2 : (compAns h k).2 = true := by rw [hA2]; exact e2
        have := ans_assoc h1 h2
        rw [hA1, hA2] at this
        dsimp only at this
        rw [hA3, hA4] at this
        obtain ⟨h3, h4⟩ := this
        injection h3 with h5 h6
        exact ⟨h5, h4, by rw [← h6]; exact h4⟩)
      clear hA1 hA2 hA3 hA4
      obtain ⟨aa, ca, ka1, ka2⟩ := HV5.out
      obtain ⟨ab, cb, kb1, kb2⟩ := HV6.out
      obtain ⟨p0, p1, p2, -, -, -⟩ := cells3 (P := w1.heap.size) ka1
      obtain ⟨q0, q1, q2, -, -, -⟩ := cells3 (P := (w1.heap.size + 1)) kb1
      have HC := Lib.hid (show Calls Try.prog 8 _ w4 (CmpRes r1 ok1 w4) from by
        have := implCompose g h _ _ (fun b => b < w4.heap.size) w4 ⟨aa, ca, rfl, ka2⟩ ⟨ab, cb, rfl, kb2⟩ (fun _ h => h) (by have := HLG.out.1; omega) (by have := HLG.out.2; omega)
        unfold CmpPost at this
        rw [HA1.out] at this
        exact this)
      clear ka1 ka2 kb1 kb2
      go_wp2_with fail
      refine HC.out.mono ?_
      rintro e w5 ⟨v, rfl, ho, hb⟩
      obtain ⟨a9, c9, rfl⟩ := owns_shape ho
      have hbn : Below w5.heap.size w5 (w5.alloc (.cells #[.int .i64 r1.f, .int .i64 r1.t, .slice a9 r1.rs.length c9] 26)) := (Below.refl _ _).alloc (Nat.le_refl _) _
      have hv := VarG.new ho
      obtain ⟨w6, hw6⟩ : ∃ wx, w5.alloc (.cells #[.int .i64 r1.f, .int .i64 r1.t, .slice a9 r1.rs.length c9] 26) = wx := ⟨_, rfl⟩
      rw [hw6] at hbn hv
      have hbb := below_step hb hbn
      have HV9 := Lib.hid hv
      have HV5 := Lib.hid (HV5.out.below hbb)
      have HV6 := Lib.hid (HV6.out.below hbb)
      have HV7 := Lib.hid (HV7.out.below hbb)
      have HB6 := Lib.hid (below_step HB4.out hbb)
      clear ho hb hbn hv hbb HC p0 p1 p2 q0 q1 q2 HB4 hw4
      obtain ⟨aa, ca, ka1, ka2⟩ := HV6.out
      obtain ⟨ab, cb, kb1, kb2⟩ := HV7.out
      obtain ⟨p0, p1, p2, -, -, -⟩ := cells3 (P := (w1.heap.size + 1)) ka1
      obtain ⟨q0, q1, q2, -, -, -⟩ := cells3 (P := w3.heap.size) kb1
      have HC := Lib.hid (show Calls Try.prog 8 _ w6 (CmpRes r2 ok2 w6) from by
        have := implCompose h k _ _ (fun b => b < w6.heap.size) w6 ⟨aa, ca, rfl, ka2⟩ ⟨ab, cb, rfl, kb2⟩ (fun _ h => h) (by have := HLG.out.2; omega) (by have := HLK.out; omega)
        unfold CmpPost at this
        rw [HA2.out] at this
        exact this)
      clear ka1 ka2 kb1 kb2
      go_wp2_with fail
      refine HC.out.mono ?_
      rintro e w7 ⟨v, rfl, ho, hb⟩
      obtain ⟨a11, c11, rfl⟩ := owns_shape ho
      have hbn : Below w7.heap.size w7 (w7.alloc (.cells #[.int .i64 r2.f, .int .i64 r2.t, .slice a11 r2.rs.length c11] 26)) := (Below.refl _ _).alloc (Nat.le_refl _) _
      have hv := VarG.new ho
      obtain ⟨w8, hw8⟩ : ∃ wx, w7.alloc (.cells #[.int .i64 r2.f, .int .i64 r2.t, .slice a11 r2.rs.length c11] 26) = wx := ⟨_, rfl⟩
      rw [hw8] at hbn hv
      have hbb := below_step hb hbn
      have HV11 := Lib.hid hv
      have HV5 := Lib.hid (HV5.out.below hbb)
      have HV6 := Lib.hid (HV6.out.below hbb)
      have HV7 := Lib.hid (HV7.out.below hbb)
      have HV9 := Lib.hid (HV9.out.below hbb)
      have HB8 := Lib.hid (below_step HB6.out hbb)
      clear ho hb hbn hv hbb HC p0 p1 p2 q0 q1 q2 HB6 hw6
      obtain ⟨aa, ca, ka1, ka2⟩ := HV5.out
      obtain ⟨ab, cb, kb1, kb2⟩ := HV6.out
      obtain ⟨p0, p1, p2, -, -, -⟩ := cells3 (P := w1.heap.size) ka1
      obtain ⟨q0, q1, q2, -, -, -⟩ := cells3 (P := (w1.heap.size + 1)) kb1
      have HC := Lib.hid (show Calls Try.prog 9 _ w8 (CmpRes r1 ok1 w8) from by
        have := specCompose_any g h _ _ (fun b => b < w8.heap.size) w8 ⟨aa, ca, rfl, ka2⟩ ⟨ab, cb, rfl, kb2⟩ (fun _ h => h) (by have := HLG.out.1; omega) (by have := HLG.out.2; omega)
        unfold CmpPost at this
        rw [HA1.out] at this
        exact this)
      clear ka1 ka2 kb1 kb2
      go_wp2_with fail
      refine HC.out.mono ?_
      rintro e w9 ⟨v, rfl, ho, hb⟩
      obtain ⟨a13, c13, rfl⟩ := owns_shape ho
      have hbn : Below w9.heap.size w9 (w9.alloc (.cells #[.int .i64 r1.f, .int .i64 r1.t, .slice a13 r1.rs.length c13] 26)) := (Below.refl _ _).alloc (Nat.le_refl _) _
      have hv := VarG.new ho
      obtain ⟨w10, hw10⟩ : ∃ wx, w9.alloc (.cells #[.int .i64 r1.f, .int .i64 r1.t, .slice a13 r1.rs.length c13] 26) = wx := ⟨_, rfl⟩
      rw [hw10] at hbn hv
      have hbb := below_step hb hbn
      have HV13 := Lib.hid hv
      have HV5 := Lib.hid (HV5.out.below hbb)
      have HV6 := Lib.hid (HV6.out.below hbb)
      have HV7 := Lib.hid (HV7.out.below hbb)
      have HV9 := Lib.hid (HV9.out.below hbb)
      have HV11 := Lib.hid (HV11.out.below hbb)
      have HB10 := Lib.hid (below_step HB8.out hbb)
      clear ho hb hbn hv hbb HC p0 p1 p2 q0 q1 q2 HB8 hw8
      obtain ⟨aa, ca, ka1, ka2⟩ := HV9.out
      obtain ⟨ab, cb, kb1, kb2⟩ := HV13.out
      obtain ⟨p0, p1, p2, -, -, -⟩ := cells3 (P := w5.heap.size) ka1
      obtain ⟨q0, q1, q2, -, -, -⟩ := cells3 (P := w9.heap.size) kb1
      have HSG := Lib.hid (sameGraph_any r1 r1 _ _ (fun b => b < w10.heap.size) (fun b => b < w10.heap.size) w10 ⟨aa, ca, rfl, ka2⟩ ⟨ab, cb, rfl, kb2⟩ (fun _ h => h) (fun _ h => h) (by have := HLR.out.1; omega) (by have := HLR.out.1; omega))
      clear ka1 ka2 kb1 kb2
      have hne : (ok1 != ok1) = false := by simp
      go_wp2_with fail
      refine HSG.out.mono ?_
      rintro e w11 ⟨⟨b, rfl, hb⟩, hbs⟩
      obtain rfl : b = true := by first | exact hb.2 rfl | exact hb.2 trivial
      have HB11 := Lib.hid (below_step HB10.out hbs)
      have HV5 := Lib.hid (HV5.out.below hbs)
      have HV6 := Lib.hid (HV6.out.below hbs)
      have HV7 := Lib.hid (HV7.out.below hbs)
      have HV9 := Lib.hid (HV9.out.below hbs)
      have HV11 := Lib.hid (HV11.out.below hbs)
      have HV13 := Lib.hid (HV13.out.below hbs)
      clear hb hbs HSG p0 p1 p2 q0 q1 q2 hne HB10 hw10
      cases ok1 with
      | false =>
        go_wp2
        go_ret
        exact ⟨rfl, HB11.out⟩
      | true =>
      cases ok2 with
      | false =>
        go_wp2
        go_ret
        exact ⟨rfl, HB11.out⟩
      | true =>
      obtain ⟨rfl, rfl, rfl⟩ := HASS.out rfl rfl
      obtain ⟨aa, ca, ka1, ka2⟩ := HV9.out
      obtain ⟨ab, cb, kb1, kb2⟩ := HV7.out
      obtain ⟨p0, p1, p2, -, -, -⟩ := cells3 (P := w5.heap.size) ka1
      obtain ⟨q0, q1, q2, -, -, -⟩ := cells3 (P := w3.heap.size) kb1
      have HC := Lib.hid (show Calls Try.prog 8 _ w11 (CmpRes r3 true w11) from by
        have := implCompose r1 k _ _ (fun b => b < w11.heap.size) w11 ⟨aa, ca, rfl, ka2⟩ ⟨ab, cb, rfl, kb2⟩ (fun _ h => h) (by have := HLR.out.1; omega) (by have := HLK.out; omega)
        unfold CmpPost at this
        rw [HA3.out] at this
        exact this)
      clear ka1 ka2 kb1 kb2
      go_wp2_with fail
      refine HC.out.mono ?_
      rintro e w12 ⟨v, rfl, ho, hb⟩
      obtain ⟨a15, c15, rfl⟩ := owns_shape ho
      have hbn : Below w12.heap.size w12 (w12.alloc (.cells #[.int .i64 r3.f, .int .i64 r3.t, .slice a15 r3.rs.length c15] 26)) := (Below.refl _ _).alloc (Nat.le_refl _) _
      have hv := VarG.new ho
      obtain ⟨w13, hw13⟩ : ∃ wx, w12.alloc (.cells #[.int .i64 r3.f, .int .i64 r3.t, .slice a15 r3.rs.length c15] 26) = wx := ⟨_, rfl⟩
      rw [hw13] at hbn hv
      have hbb := below_step hb hbn
      have HV15 := Lib.hid hv
      have HV5 := Lib.hid (HV5.out.below hbb)
      have HV6 := Lib.hid (HV6.out.below hbb)
      have HV7 := Lib.hid (HV7.out.below hbb)
      have HV9 := Lib.hid (HV9.out.below hbb)
      have HV11 := Lib.hid (HV11.out.below hbb)
      have HV13 := Lib.hid (HV13.out.below hbb)
      have HB13 := Lib.hid (below_step HB11.out hbb)
      clear ho hb hbn hv hbb HC p0 p1 p2 q0 q1 q2 HB11
      obtain ⟨aa, ca, ka1, ka2⟩ := HV5.out
      obtain ⟨ab, cb, kb1, kb2⟩ := HV11.out
      obtain ⟨p0, p1, p2, -, -, -⟩ := cells3 (P := w1.heap.size) ka1
      obtain ⟨q0, q1, q2, -, -, -⟩ := cells3 (P := w7.heap.size) kb1
      have HC := Lib.hid (show Calls Try.prog 8 _ w13 (CmpRes r3 true w13) from by
        have := implCompose g r2 _ _ (fun b => b < w13.heap.size) w13 ⟨aa, ca, rfl, ka2⟩ ⟨ab, cb, rfl, kb2⟩ (fun _ h => h) (by have := HLG.out.1; omega) (by have := HLR.out.2.1; omega)
        unfold CmpPost at this
        rw [HA4.out] at this
        exact this)
      clear ka1 ka2 kb1 kb2
      go_wp2_with fail
      refine HC.out.mono ?_
      rintro e w14 ⟨v, rfl, ho, hb⟩
      obtain ⟨a17, c17, rfl⟩ := owns_shape ho
      have hbn : Below w14.heap.size w14 (w14.alloc (.cells #[.int .i64 r3.f, .int .i64 r3.t, .slice a17 r3.rs.length c17] 26)) := (Below.refl _ _).alloc (Nat.le_refl _) _
      have hv := VarG.new ho
      obtain ⟨w15, hw15⟩ : ∃ wx, w14.alloc (.cells #[.int .i64 r3.f, .int .i64 r3.t, .slice a17 r3.rs.length c17] 26) = wx := ⟨_, rfl⟩
      rw [hw15] at hbn hv
      have hbb := below_step hb hbn
      have HV17 := Lib.hid hv
      have HV5 := Lib.hid (HV5.out.below hbb)
      have HV6 := Lib.hid (HV6.out.below hbb)
      have HV7 := Lib.hid (HV7.out.below hbb)
      have HV9 := Lib.hid (HV9.out.below hbb)
      have HV11 := Lib.hid (HV11.out.below hbb)
      have HV13 := Lib.hid (HV13.out.below hbb)
      have HV15 := Lib.hid (HV15.out.below hbb)
      have HB15 := Lib.hid (below_step HB13.out hbb)
      clear ho hb hbn hv hbb HC p0 p1 p2 q0 q1 q2 HB13 hw13
      obtain ⟨aa, ca, ka1, ka2⟩ := HV15.out
      obtain ⟨ab, cb, kb1, kb2⟩ := HV17.out
      obtain ⟨p0, p1, p2, -, -, -⟩ := cells3 (P := w12.heap.size) ka1
      obtain ⟨q0, q1, q2, -, -, -⟩ := cells3 (P := w14.heap.size) kb1
      have HSG := Lib.hid (sameGraph_any r3 r3 _ _ (fun b => b < w15.heap.size) (fun b => b < w15.heap.size) w15 ⟨aa, ca, rfl, ka2⟩ ⟨ab, cb, rfl, kb2⟩ (fun _ h => h) (fun _ h => h) (by have := HLR.out.2.2.1; omega) (by have := HLR.out.2.2.1; omega))
      clear ka1 ka2 kb1 kb2
      go_wp2_with fail
      refine HSG.out.mono ?_
      rintro e w16 ⟨⟨b, rfl, hb⟩, hbs⟩
      obtain rfl : b = true := by first | exact hb.2 rfl | exact hb.2 trivial
      have HP := Lib.hid (below_step HB15.out hbs)
      clear hb hbs HSG p0 p1 p2 q0 q1 q2
      go_wp2
      go_ret
      exact ⟨rfl, HP.out⟩
    · have d2 : decide ((1048576 : Int) < (len2 : Int)) = true := decide_eq_true (by omega)
      rw [d1] at HBG1
      rw [d2] at HBG2
      clear d1 d2 hl1 hl2 hz1 hz2
      go_enter Try.func3, Try.ntmps3
      go_wp2_with fail
      refine HBG1.out.mono ?_
      rintro e w1 ⟨rfl, rfl⟩
      go_wp2_with fail
      refine HBG2.out.mono ?_
      rintro e w1 ⟨rfl, rfl⟩
      go_wp2
      go_ret
      exact ⟨rfl, Below.refl _ _⟩
  · have d1 : decide ((1048576 : Int) < (len1 : Int)) = true := decide_eq_true (by omega)
    rw [d1] at HBG1
    clear d1 hl1 hz1 hz2 HBG2
    go_enter Try.func3, Try.ntmps3
    go_wp2_with fail
    refine HBG1.out.mono ?_
    rintro e w1 ⟨rfl, rfl⟩
    go_wp2
    go_ret
    exact ⟨rfl, Below.refl _ _⟩

end Go.Proofs.Ytliibknppfbfeaa.Pr
