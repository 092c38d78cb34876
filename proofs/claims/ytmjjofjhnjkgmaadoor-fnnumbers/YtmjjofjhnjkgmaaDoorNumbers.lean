/-
  laws.FnNumbers answers true.
-/
import Derived.Test.YtmjjofjhnjkgmaaDoorDraw
namespace Go.Proofs.YtmjjofjhnjkgmaaDoor
open Go Go.RowKit

set_option maxRecDepth 100000 in
set_option maxHeartbeats 1000000 in
theorem law_FnNumbers (a : Option Addr) (len cap : Nat) (zs : List Int) (w : World) (hrow : IsRow .u8 w a len cap zs) (hE : Env w.heap.size w) :
    Calls Tryd.prog 5 #[.slice a len cap] w fun e w' => e = .returned (.bool true) ∧ Below w.heap.size w w' := by
  by_cases hbig : len ≤ 1048576
  · have hd : decide ((1048576 : Int) < (len : Int)) = false := decide_eq_false (by omega)
    have HC := Lib.hid (code_of hrow hbig)
    clear hrow
    go_enter Tryd.func5, Tryd.ntmps5
    go_wp2_with fail
    refine (big_any _).mono ?_
    rintro e w' ⟨rfl, rfl⟩
    rw [hd]
    go_wp2_with fail
    refine (drawNum_any _ HC.out).mono ?_
    rintro e w1 ⟨n, hn0, hn1, rfl, hb1⟩
    have hE1 := hE.stays hb1
    go_wp2_with fail
    refine (implNumTerm n hn0 hn1 _ hE1.pow).mono ?_
    rintro e w2 ⟨rfl, hb2⟩
    have hb12 := hb1.trans (hb2.mono hb1.size)
    have hE2 := hE.stays hb12
    clear hb1 hb2 hE1
    by_cases hi : -1000000 ≤ n ∧ n ≤ 1000000
    · have hnt : numTerm n = Lib.itoa n := by unfold numTerm; rw [inNum_true hi.1 hi.2]; rfl
      have hno : numOf (Lib.itoa n) = some n := numOf_iff.2 ⟨hi.1, hi.2, rfl⟩
      have hra : rdAll (Lib.itoa n) = some (.num n) := rdAll_num.2 hno
      have hik : iKind (Lib.itoa n) = 1 := by unfold iKind; rw [hra]; rfl
      have hlen : (Lib.itoa n).length ≤ 200 := (rdAll_sound hra).2.2
      have hi0 := hi.1
      have hi1 := hi.2
      have HA := Lib.hid (numAns_some hno)
      have HK := Lib.hid hik
      have hgt : decide ((1000000 : Int) < n) = false := decide_eq_false (by omega)
      have hlt : decide (n < (-1000000 : Int)) = false := decide_eq_false (by omega)
      rw [hnt]
      clear hnt hno hra hik hi
      obtain ⟨s, hs⟩ : ∃ s : ByteArray, s = ⟨(Lib.itoa n).toArray⟩ := ⟨_, rfl⟩
      have hls : lst s = Lib.itoa n := by rw [hs]; rfl
      have hsz : s.size ≤ 140737488351232 := by have := lst_len s; rw [hls] at this; omega
      rw [← hs]
      rw [← hls] at HA HK
      clear hs hls hlen
      go_wp2_with fail
      refine (implTermNum s hsz _ hE2.top).mono ?_
      rintro e w3 ⟨rfl, hb3⟩
      rw [HA.out]
      have hb13 := hb12.trans (hb3.mono hb12.size)
      have hE3 := hE.stays hb13
      clear hb3 hE2 hb12
      go_wp2_with fail
      refine (implTermKind s hsz _ hE3.top).mono ?_
      rintro e w4 ⟨rfl, hb4⟩
      rw [HK.out]
      have hb14 := hb13.trans (hb4.mono hb13.size)
      clear hb4 hE3 hb13
      go_wp2
      go_ret
      exact ⟨rfl, hb14⟩
    · have hnt : numTerm n = [] := by
        unfold numTerm
        have : inNum n = false := by
          by_cases h : -1000000 ≤ n
          · exact inNum_hi (by omega)
          · exact inNum_lo (by omega)
        rw [this]; rfl
      have hno : numAns [] = .returned (.tuple #[.int .i64 0, .bool false]) := by
        cases hx : numOf [] with
        | none => exact numAns_none hx
        | some m => exact absurd (numOf_iff.1 hx).2.2 (itoa_ne_nil m)
      have HA := Lib.hid hno
      rw [hnt]
      have hls : lst ⟨#[]⟩ = [] := rfl
      have HLS := Lib.hid hls
      clear hnt hno hls
      by_cases hhi : 1000000 < n
      · have hgt : decide ((1000000 : Int) < n) = true := decide_eq_true hhi
        go_wp2_with fail
        refine (implTermNum ⟨#[]⟩ (by decide) _ hE2.top).mono ?_
        rintro e w3 ⟨rfl, hb3⟩
        rw [HLS.out, HA.out]
        have hb13 := hb12.trans (hb3.mono hb12.size)
        clear hb3 hE2 hb12
        go_wp2
        go_ret
        exact ⟨rfl, hb13⟩
      · have hgt : decide ((1000000 : Int) < n) = false := decide_eq_false hhi
        have hlt : decide (n < (-1000000 : Int)) = true := decide_eq_true (by omega)
        go_wp2_with fail
        refine (implTermNum ⟨#[]⟩ (by decide) _ hE2.top).mono ?_
        rintro e w3 ⟨rfl, hb3⟩
        rw [HLS.out, HA.out]
        have hb13 := hb12.trans (hb3.mono hb12.size)
        clear hb3 hE2 hb12
        go_wp2
        go_ret
        exact ⟨rfl, hb13⟩
  · have hd : decide ((1048576 : Int) < (len : Int)) = true := decide_eq_true (by omega)
    clear hrow
    go_enter Tryd.func5, Tryd.ntmps5
    go_wp2_with fail
    refine (big_any _).mono ?_
    rintro e w' ⟨rfl, rfl⟩
    rw [hd]
    go_wp2
    go_ret
    exact ⟨rfl, Below.refl _ _⟩

end Go.Proofs.YtmjjofjhnjkgmaaDoor
