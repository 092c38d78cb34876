/-
  laws.FnExactClosed answers true.
-/
import Derived.Test.YtgjmefcognoepaaPQ4
import Derived.Test.YtgjmefcognoepaaPQ9
import Derived.Test.YtgjmefcognoepaaPQM
import Derived.Test.YtgjmefcognoepaaPQO
import Derived.Test.YtgjmefcognoepaaPGq
namespace Go.Proofs.Ytgjmefcognoepaa.Pr
open Go Go.RowKit Go.Maps Go.WideMaps

theorem closeAns_right (l : List Gr) : ∀ g ∈ (closeAns l).1, RightA g.rs := by
  unfold closeAns
  split
  · rename_i h
    obtain ⟨⟨k, hk, _⟩, _⟩ := Classical.choose_spec h.2
    intro g hg
    have hg' : g ∈ Classical.choose h.2 := hg
    rw [hk] at hg'
    exact passGN_right h.1 k g hg'
  · intro g hg; simp at hg
theorem closeAns_few (l : List Gr) : (closeAns l).1.length ≤ 120 := by
  unfold closeAns
  split
  · rename_i h; exact (Classical.choose_spec h.2).2
  · simp
theorem wsum_few : ∀ (l : List Gr), (∀ g ∈ l, RightA g.rs) → wsum Gr.wt l ≤ 56 * l.length
  | [], _ => by simp [wsum]
  | g :: r, h => by
    have h1 := wsum_few r (fun x hx => h x (by simp [hx]))
    have h2 : g.rs.length ≤ 56 := (h g (by simp)).few
    have h3 : g.wt = g.rs.length := rfl
    have h4 : wsum Gr.wt (g :: r) = g.wt + wsum Gr.wt r := by simp [wsum]
    rw [h4, List.length_cons]
    omega
def ClsAt (L : List Gr) (ok : Bool) (w : World) (e : Ending) (w' : World) : Prop := ∃ (a : Option Addr) (c : Nat) (xs : List (Gr × Value)), e = .returned (.tuple #[.slice a L.length c, .bool ok]) ∧ OwnGS w.heap.size w' (.slice a L.length c) xs ∧ xs.map Prod.fst = L ∧ Below w.heap.size w w'
theorem OwnGS.moved {B : Nat} {w w' : World} {v : Value} {xs : List (Gr × Value)} (h : OwnGS B w v xs) (hk : ∀ b, B ≤ b → b < w.heap.size → w'.heap[b]? = w.heap[b]?) : OwnGS B w' v xs :=
  ⟨row_move h.out fun g hg => hk g (own_lt3 h.out hg).1 (own_lt3 h.out hg).2, fun p hp => row_move (h.inn p hp) fun g hg => hk g (own_lt3 (h.inn p hp) hg).1 (own_lt3 (h.inn p hp) hg).2, h.apart, h.off⟩

set_option maxRecDepth 100000 in
set_option maxHeartbeats 8000000 in
theorem law_FnExactClosed (a : Option Addr) (cap : Nat) (l : List Gr) (W : World) (hrow : RowIn FGr 3 (fun b => b < W.heap.size) W a l) (hn : l.length ≤ 9223372036854775807) (hf : ∀ x ∈ l, x.fits) :
    Calls Try.prog 3 #[.slice a l.length cap] W fun e w' => e = .returned (.bool true) ∧ Below W.heap.size W w' := by
  have HARG := Lib.hid (fun (w1 : World) (h : Below W.heap.size W w1) => RowIn.kept FGr_keeps hrow (Same.below (fun _ h => h) h))
  have HLT := Lib.hid (fun (w1 : World) (h : Below W.heap.size W w1) (b : Nat) (hb : b < W.heap.size) => Nat.lt_of_lt_of_le hb h.size)
  have HSZ := Lib.hid (szGraphS_any a cap l 1048576 _ W (HARG.out W (Below.refl _ _)) (fun _ h => h) hn hf (by omega) (by omega))
  clear hrow hn hf
  go_enter Try.func3, Try.ntmps3
  go_wp2_with fail
  refine HSZ.out.mono ?_
  rintro e w1 ⟨⟨r, rfl, hr⟩, hb1⟩
  have HB1 := Lib.hid hb1
  clear hb1 HSZ
  rcases hr with ⟨hr, _⟩ | ⟨rfl, hwt⟩
  · have hd : decide (r < 0) = true := decide_eq_true hr
    go_wp2
    go_ret
    exact ⟨rfl, HB1.out⟩
  have hd : decide ((1048576 : Int) - (wtGraphS l : Int) < 0) = false := decide_eq_false (by omega)
  have HWT := Lib.hid (show wtGraphS l ≤ 1048576 by omega)
  have HLL := Lib.hid (show l.length ≤ 1048576 by have := lenGraphS l; omega)
  have HGL := Lib.hid (show ∀ g ∈ l, g.rs.length ≤ 1048576 from fun g hg => by
    have h1 := wsum_mem Gr.wt hg
    have h2 : g.wt = g.rs.length := rfl
    have h3 := HWT.out
    unfold wtGraphS at h3
    omega)
  obtain ⟨⟨L, ok⟩, hA⟩ : ∃ A, closeAns l = A := ⟨_, rfl⟩
  have HL120 := Lib.hid (show L.length ≤ 120 by have := closeAns_few l; rw [hA] at this; exact this)
  have HLR := Lib.hid (show ∀ g ∈ L, RightA g.rs by have := closeAns_right l; rw [hA] at this; exact this)
  have HSP := Lib.hid (show ∀ (S : Nat → Prop) (x : Option Addr) (c : Nat) (w' : World), RowIn FGr 3 S w' x l → (∀ b, S b → b < w'.heap.size) → Calls Try.prog 5 #[.slice x l.length c] w' (ClsAt L ok w') from fun S x c w' h1 h2 => by
    have := specClosed_any l x c S w' h1 h2 HLL.out HGL.out
    unfold ClsPost at this
    rw [hA] at this
    exact this)
  have HIM := Lib.hid (show ∀ (S : Nat → Prop) (x : Option Addr) (c : Nat) (w' : World), RowIn FGr 3 S w' x l → (∀ b, S b → b < w'.heap.size) → Calls Try.prog 7 #[.slice x l.length c] w' (ClsAt L ok w') from fun S x c w' h1 h2 => by
    have := implClosed_any l x c S w' h1 h2 HLL.out HGL.out
    unfold ClsPost at this
    rw [hA] at this
    exact this)
  have HTP := Lib.hid (fun (w' : World) (hW : Below W.heap.size W w') => tpGraphS_any a cap l _ w' (HARG.out w' hW) (HLT.out w' hW) HWT.out)
  have HEL := Lib.hid (show wtGraphS L ≤ 2000000 by have h1 := wsum_few L HLR.out; have h2 := HL120.out; unfold wtGraphS; omega)
  have HMX := Lib.hid (show ∀ (xs : List (Gr × Value)), xs.map Prod.fst = L → xs.length = L.length ∧ ∀ p ∈ xs, p.1.rs.length ≤ 1048576 from fun xs h => ⟨by rw [← h, List.length_map], fun p hp => by
    have h1 := (HLR.out p.1 (by rw [← h]; exact List.mem_map_of_mem hp)).few
    omega⟩)
  have hokk : (ok != ok) = false := by simp
  clear hwt hA
  generalize wtGraphS l = wl at hd
  -- the reference's answer
  go_wp2_with fail
  refine (HTP.out w1 HB1.out).mono ?_
  rintro e w2 ⟨g2, rfl, hr2, hb2, -⟩
  have HB2 := Lib.hid (below_step HB1.out hb2)
  have HS3 := Lib.hid (HSP.out _ _ l.length w2 hr2 (fun b h => h.2))
  clear hb2 hr2 hd
  go_wp2_with fail
  refine HS3.out.mono ?_
  rintro e w3 ⟨a3, c3, xs3, rfl, ho3, hm3, hb3⟩
  have HB3 := Lib.hid (below_step HB2.out hb3)
  have HR3 := Lib.hid (show RowIn FGr 3 (Seg w2.heap.size w3.heap.size) w3 a3 L from hm3 ▸ ho3.row)
  clear ho3 hm3 hb3 HS3 HSP
  -- the argument of the program, copied
  go_wp2_with fail
  refine (HTP.out w3 HB3.out).mono ?_
  rintro e w4 ⟨g4, rfl, hr4, hb4, hp4⟩
  have HB34 := Lib.hid hb4
  have HB4 := Lib.hid (below_step HB3.out hb4)
  have HR4 := Lib.hid hr4
  have HP4 := Lib.hid hp4
  have HI5 := Lib.hid (HIM.out _ _ l.length w4 hr4 (fun b h => h.2))
  clear hb4 hr4 hp4
  -- the program's answer
  go_wp2_with fail
  refine HI5.out.mono ?_
  rintro e w5 ⟨a5, c5, xs5, rfl, ho5, hm5, hb5⟩
  have HO5 := Lib.hid ho5
  have HM5 := Lib.hid (HMX.out xs5 hm5)
  have HX5 := Lib.hid hm5
  have HB5 := Lib.hid (below_step HB4.out hb5)
  have HB45 := Lib.hid hb5
  have HR35 := Lib.hid (RowIn.kept FGr_keeps HR3.out (Same.below (fun b h => h.2) (below_step HB34.out hb5)))
  have hlt5 := (below_step HB34.out hb5).size
  have HE6 := Lib.hid (eqGraphS_any L a5 a3 c5 c3 _ _ w5 (show RowIn FGr 3 (Seg w4.heap.size w5.heap.size) w5 a5 L from hm5 ▸ ho5.row) HR35.out (fun b h => h.2) (fun b h => Nat.lt_of_lt_of_le h.2 hlt5) HEL.out)
  have HLT5 := Lib.hid hlt5
  clear ho5 hm5 hb5 HI5 hlt5
  go_wp2_with fail
  refine HE6.out.mono ?_
  rintro e w6 ⟨rfl, hb6⟩
  have HB6 := Lib.hid (below_step HB5.out hb6)
  have HB56 := Lib.hid hb6
  clear hb6 HE6
  -- the argument as it was
  go_wp2_with fail
  refine (HTP.out w6 HB6.out).mono ?_
  rintro e w7 ⟨g7, rfl, hr7, hb7, -⟩
  have HB7 := Lib.hid (below_step HB6.out hb7)
  have HB57 := Lib.hid (below_step HB56.out hb7)
  have HB47 := Lib.hid (below_step HB45.out HB57.out)
  have HE8 := Lib.hid (eqGraphS_any l (some ⟨g4, 0, none⟩) (some ⟨g7, 0, none⟩) l.length l.length _ _ w7 (RowIn.kept FGr_keeps HR4.out (Same.below (fun b h => h.2) HB47.out)) hr7 (fun b h => Nat.lt_of_lt_of_le h.2 HB47.out.size) (fun b h => h.2) (by have := HWT.out; omega))
  clear hr7 hb7
  go_wp2_with fail
  refine HE8.out.mono ?_
  rintro e w8 ⟨rfl, hb8⟩
  have HB8 := Lib.hid (below_step HB7.out hb8)
  have HB58 := Lib.hid (below_step HB57.out hb8)
  have HB48 := Lib.hid (below_step HB47.out hb8)
  clear hb8 HE8
  -- the copy is marked
  have HM9 := Lib.hid (markGraphS_sh (some ⟨g4, 0, none⟩) l.length l.length (Seg w3.heap.size w4.heap.size) w8 ((RowIn.kept FGr_keeps HR4.out (Same.below (fun b h => h.2) HB48.out)).grSh HGL.out) (fun b o h => by
    have h1 := HP4.out.frozen h.1 h.2 o
    unfold World.frozen? at h1 ⊢
    rw [show (⟨b, o, none⟩ : Addr).block = b from rfl, HB48.out.block b h.2]
    exact h1) HLL.out)
  go_wp2_with fail
  refine HM9.out.mono ?_
  rintro e w9 ⟨⟨z9, rfl, hz9⟩, hm9⟩
  have hdz : decide (z9 < 0) = false := decide_eq_false (by omega)
  have HO9 := Lib.hid ((HO5.out.kept HB58.out).moved (w' := w9) fun b h1 h2 => hm9.block b h2 (fun h => by have := h.2; omega))
  have HR9 := Lib.hid (RowIn.kept FGr_keeps (RowIn.kept FGr_keeps HR35.out (Same.below (fun b h => Nat.lt_of_lt_of_le h.2 HLT5.out) HB58.out)) (w' := w9) (fun b h => hm9.block b (by have h1 := h.2; have h2 := HLT5.out; have h3 := HB58.out.size; omega) (fun h' => by have h1 := h.2; have h2 := h'.1; omega)))
  have HB9 := Lib.hid (show Below W.heap.size W w9 from ⟨hm9.os.trans HB8.out.os, hm9.tape.trans HB8.out.tape, hm9.output.trans HB8.out.output, Nat.le_trans HB8.out.size hm9.size, fun b hb => (hm9.block b (Nat.lt_of_lt_of_le hb HB8.out.size) (fun h => by have h1 := h.1; have h2 := HB3.out.size; omega)).trans (HB8.out.block b hb)⟩)
  have HS9 := Lib.hid (show w5.heap.size ≤ w9.heap.size from Nat.le_trans HB58.out.size hm9.size)
  have HE10 := Lib.hid (eqGraphS_any L a5 a3 c5 c3 _ _ w9 (show RowIn FGr 3 (Seg w4.heap.size w9.heap.size) w9 a5 L from HX5.out ▸ HO9.out.row) HR9.out (fun b h => h.2) (fun b h => by have h1 := h.2; have h2 := HLT5.out; have h3 := HS9.out; omega) HEL.out)
  clear hz9 hm9 HM9
  go_wp2_with fail
  refine HE10.out.mono ?_
  rintro e w10 ⟨rfl, hb10⟩
  have HB10 := Lib.hid (below_step HB9.out hb10)
  have HO10 := Lib.hid (HO9.out.kept hb10)
  have HR10 := Lib.hid (RowIn.kept FGr_keeps HR9.out (Same.below (fun b h => by have h1 := h.2; have h2 := HLT5.out; have h3 := HS9.out; omega) hb10))
  have HS10 := Lib.hid (Nat.le_trans HS9.out hb10.size)
  clear hb10 HE10 hdz
  -- the answer is marked, and looked at again
  have HMO := Lib.hid (markGraphS_own xs5 w4.heap.size a5 c5 w10 (by rw [HM5.out.1]; exact HO10.out) HM5.out.2 (by rw [HM5.out.1]; have := HL120.out; omega))
  rw [HM5.out.1] at HMO
  go_wp2_with fail
  refine HMO.out.mono ?_
  rintro e w11 ⟨z, ys, rfl, hz, hmk, hyl, hyb, hoy, hb11⟩
  have HMK := Lib.hid hmk
  have HYL := Lib.hid hyl
  have HYB := Lib.hid hyb
  have HOY := Lib.hid hoy
  have HB11 := Lib.hid (HB10.out.trans (hb11.mono HB4.out.size))
  have HR11 := Lib.hid (RowIn.kept FGr_keeps HR10.out (w' := w11) (fun b h => hb11.block b (by have h1 := h.2; have h2 := HB34.out.size; omega)))
  have HS11 := Lib.hid (Nat.le_trans HS10.out hb11.size)
  have HH := Lib.hid (fun (w' : World) (hw : Below w11.heap.size w11 w') => heldGraphS_own ys z w4.heap.size a5 c5 w' (by rw [HYL.out]; exact HOY.out.kept hw) HMK.out HYB.out (by rw [HYL.out]; have := HL120.out; omega))
  rw [hyl] at HH
  have hdz : decide (z < 0) = false := decide_eq_false (by omega)
  have hzz : (z != z) = false := by simp
  clear hz hmk hyl hyb hoy hb11 HMO
  go_wp2_with fail
  refine (HH.out w11 (Below.refl _ _)).mono ?_
  rintro e w12 ⟨rfl, rfl⟩
  -- the program once more
  go_wp2_with fail
  refine (HTP.out w12 HB11.out).mono ?_
  rintro e w13 ⟨g13, rfl, hr13, hb13, -⟩
  have HB13 := Lib.hid (below_step HB11.out hb13)
  have HB1213 := Lib.hid hb13
  have HI14 := Lib.hid (HIM.out _ _ l.length w13 hr13 (fun b h => h.2))
  clear hb13 hr13
  go_wp2_with fail
  refine HI14.out.mono ?_
  rintro e w14 ⟨a14, c14, xs14, rfl, ho14, hm14, hb14⟩
  have HB14 := Lib.hid (below_step HB13.out hb14)
  have HB1214 := Lib.hid (below_step HB1213.out hb14)
  have HE15 := Lib.hid (eqGraphS_any L a14 a3 c14 c3 _ _ w14 (show RowIn FGr 3 (Seg w13.heap.size w14.heap.size) w14 a14 L from hm14 ▸ ho14.row) (RowIn.kept FGr_keeps HR11.out (Same.below (fun b h => by have h1 := h.2; have h2 := HLT5.out; have h3 := HS11.out; omega) HB1214.out)) (fun b h => h.2) (fun b h => by have h1 := h.2; have h2 := HLT5.out; have h3 := HS11.out; have h4 := HB1214.out.size; omega) HEL.out)
  clear ho14 hm14 hb14 HI14
  go_wp2_with fail
  refine HE15.out.mono ?_
  rintro e w15 ⟨rfl, hb15⟩
  have HB15 := Lib.hid (below_step HB14.out hb15)
  have HB1215 := Lib.hid (below_step HB1214.out hb15)
  clear hb15 HE15
  go_wp2_with fail
  refine (HH.out w15 HB1215.out).mono ?_
  rintro e w16 ⟨rfl, rfl⟩
  go_wp2
  go_ret
  exact ⟨rfl, HB15.out⟩

end Go.Proofs.Ytgjmefcognoepaa.Pr
