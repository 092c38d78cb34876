/-
  laws.FnExactTermParts answers true.
-/
import Derived.Test.YtmjjofjhnjkgmaaDoorParts
namespace Go.Proofs.YtmjjofjhnjkgmaaDoor
open Go Go.RowKit Go.Maps Go.WideMaps

theorem parts_count (l : List UInt8) : (partsOf l).2.length ≤ 200 := by
  cases hr : rdAll l with
  | none => unfold partsOf; rw [hr]; exact Nat.zero_le _
  | some t =>
    rw [parts_kids hr, List.length_map]
    obtain ⟨hw, hx, hl⟩ := rdAll_sound hr
    have := kids_count hw
    rw [hx] at this
    omega

theorem parts_same {s n1 n2 : ByteArray} {x1 x2 : List ByteArray} (h1 : partsOf (lst s) = (lst n1, x1.map lst)) (h2 : partsOf (lst s) = (lst n2, x2.map lst)) : n1 = n2 ∧ x1 = x2 := by
  rw [h1] at h2
  simp only [Prod.mk.injEq] at h2
  exact ⟨lst_inj h2.1, strs_inj h2.2⟩

set_option maxRecDepth 100000 in
set_option maxHeartbeats 2000000 in
theorem law_FnExactTermParts (s : ByteArray) (hlim : s.size ≤ 140737488351232) (w : World) (hE : Env w.heap.size w) :
    Calls Tryd.prog 7 #[.string s] w fun e w' => e = .returned (.bool true) ∧ Below w.heap.size w w' := by
  by_cases hbig : s.size ≤ 1048576
  · have hd : decide ((1048576 : Int) < (s.size : Int)) = false := decide_eq_false (by omega)
    have hd' : decide (1048576 < s.size) = false := decide_eq_false (by omega)
    go_enter Tryd.func7, Tryd.ntmps7
    go_wp2_with fail
    refine (specTermParts s hlim _).mono ?_
    rintro e w1 ⟨nm, xs, v, rfl, hp, ho1, hb1⟩
    have hxn : xs.length ≤ 200 := by
      have := parts_count (lst s)
      rw [hp, List.length_map] at this
      exact this
    have hE1 : Env w1.heap.size w1 := (hE.stays hb1).top
    obtain ⟨a1, c1, rfl⟩ := owns_shape ho1
    go_wp2_with fail
    refine (implTermParts s hlim _ hE1).mono ?_
    rintro e w2 ⟨nm2, xs2, v2, rfl, hp2, ho2, hb2⟩
    obtain ⟨rfl, rfl⟩ := parts_same hp hp2
    obtain ⟨a2, c2, rfl⟩ := owns_shape ho2
    have HP := Lib.hid hp
    have hnn : (nm.toList != nm.toList) = false := by simp
    have HQ1 := Lib.hid (eqStringS_any xs _ _ _ _ w2 ho2 (row_kept ho1 hb2) (by omega))
    clear hp hp2
    go_wp2_with fail
    refine HQ1.out.mono ?_
    rintro e w3 ⟨rfl, hb3⟩
    have ho3 := row_kept ho2 hb3
    have hB13 : Below w1.heap.size w1 w3 := hb2.trans (hb3.mono hb2.size)
    have HMK := Lib.hid (markStringS_any xs w1.heap.size _ w3 hB13.size ho3 hxn)
    clear HQ1 ho2 hb3 ho3 hb2
    go_wp2_with fail
    refine HMK.out.mono ?_
    rintro e w4 ⟨rfl, ⟨ms, hml, hmk, ho4⟩, hb4⟩
    have hB14 : Below w1.heap.size w1 w4 := hB13.trans hb4
    have HH1 := Lib.hid (heldStringS_any ms _ _ w4 ho4 hmk (by omega))
    rw [hml] at HH1
    clear HMK hB13 hb4
    go_wp2_with fail
    refine HH1.out.mono ?_
    rintro e w5 ⟨rfl, hb5⟩
    have hB15 : Below w1.heap.size w1 w5 := hB14.trans (hb5.mono hB14.size)
    have hE5 : Env w5.heap.size w5 := (hE1.stays hB15).top
    have hq0 : decide (1 + (xs.length : Int) < 0) = false := decide_eq_false (by omega)
    have hqm : ((1 + (xs.length : Int)) != (1 + (xs.length : Int))) = false := by simp
    clear HH1
    go_wp2_with fail
    refine (implTermParts s hlim _ hE5).mono ?_
    rintro e w6 ⟨nm6, xs6, v6, rfl, hp6, ho6, hb6⟩
    obtain ⟨rfl, rfl⟩ := parts_same HP.out hp6
    obtain ⟨a6, c6, rfl⟩ := owns_shape ho6
    have hB16 : Below w1.heap.size w1 w6 := hB15.trans (hb6.mono hB15.size)
    have HQ2 := Lib.hid (eqStringS_any xs _ _ _ _ w6 ho6 (row_kept ho1 hB16) (by omega))
    have hB46 : Below w4.heap.size w4 w6 := hb5.trans (hb6.mono hb5.size)
    clear hp6 ho6 hB15 hb6 hb5
    go_wp2_with fail
    refine HQ2.out.mono ?_
    rintro e w7 ⟨rfl, hb7⟩
    have hB47 : Below w4.heap.size w4 w7 := hB46.trans (hb7.mono hB46.size)
    have hB17 : Below w1.heap.size w1 w7 := hB16.trans (hb7.mono hB16.size)
    have HH2 := Lib.hid (heldStringS_any ms _ _ w7 (row_kept ho4 hB47) hmk (by omega))
    rw [hml] at HH2
    clear HQ2 hb7 hB46 hB16
    go_wp2_with fail
    refine HH2.out.mono ?_
    rintro e w8 ⟨rfl, hb8⟩
    have hB : Below w.heap.size w w8 := hb1.trans ((hB17.trans (hb8.mono hB17.size)).mono hb1.size)
    clear HH2 hb8 hB17 hB47 ho4 ho1 hmk hml
    go_wp2
    go_ret
    exact ⟨rfl, hB⟩
  · have hd : decide ((1048576 : Int) < (s.size : Int)) = true := decide_eq_true (by omega)
    have hd' : decide (1048576 < s.size) = true := decide_eq_true (by omega)
    go_enter Tryd.func7, Tryd.ntmps7
    go_wp2
    go_ret
    exact ⟨rfl, Below.refl _ _⟩

end Go.Proofs.YtmjjofjhnjkgmaaDoor
