/-
  THE WALK over spec.l03Sign.
-/
import Derived.Test.YtngnmfoephegmaaDoorSigns
namespace Go.Proofs.YtngnmfoephegmaaDoor
open Go Go.RowKit

theorem two_eq (t : ByteArray) (h : 1 < t.size) (k : Nat) (hk : k < twos.length) : ((t.extract 0 2).toList == twos[k]) = twos[k].isPrefixOf (lst t) := by
  have hl := lst_len t
  have e : (t.extract 0 2).toList = lst (t.extract 0 2) := by rw [ByteArray.toList_eq]; rfl
  rw [e, lst_extract, List.drop_zero]
  obtain ⟨c, d, r, hcr⟩ : ∃ c d r, lst t = c :: d :: r := by
    match hm : lst t with
    | [] => rw [hm] at hl; simp at hl; omega
    | [c] => rw [hm] at hl; simp at hl; omega
    | c :: d :: r => exact ⟨c, d, r, rfl⟩
  rw [hcr]
  have : k = 0 ∨ k = 1 ∨ k = 2 := by simp [twos] at hk; omega
  rw [Bool.eq_iff_iff]
  rcases this with rfl | rfl | rfl <;> (simp [twos, List.isPrefixOf]; constructor <;> (rintro ⟨rfl, rfl⟩; exact ⟨rfl, rfl⟩))

theorem isOne_or {c : UInt8} (h : isOne c = true) : c.toNat = 40 ∨ c.toNat = 41 ∨ c.toNat = 44 ∨ c.toNat = 46 ∨ c.toNat = 33 ∨ c.toNat = 61 ∨ c.toNat = 60 ∨ c.toNat = 43 ∨ c.toNat = 45 ∨ c.toNat = 42 ∨ c.toNat = 124 ∨ c.toNat = 95 := by
  simpa [isOne] using h
theorem isOne_no {c : UInt8} (h : isOne c = false) : c.toNat ≠ 40 ∧ c.toNat ≠ 41 ∧ c.toNat ≠ 44 ∧ c.toNat ≠ 46 ∧ c.toNat ≠ 33 ∧ c.toNat ≠ 61 ∧ c.toNat ≠ 60 ∧ c.toNat ≠ 43 ∧ c.toNat ≠ 45 ∧ c.toNat ≠ 42 ∧ c.toNat ≠ 124 ∧ c.toNat ≠ 95 := by
  simpa [isOne] using h

set_option maxRecDepth 100000 in
set_option maxHeartbeats 2000000 in
theorem l03Sign_any (t : ByteArray) (h0 : 0 < t.size) (hs : t.size ≤ 1048576) (w : World) :
    Calls Tryd.prog 34 #[.string t] w fun e w' => e = .returned (.string (t.extract 0 (sgn (lst t)))) ∧ w = w' := by
  have HL := Lib.hid (lst_len t)
  have hcons : lst t = t[0] :: (lst t).drop 1 := by
    have := List.drop_eq_getElem_cons (l := lst t) (i := 0) (by rw [HL.out]; exact h0)
    rw [List.drop_zero] at this
    exact this
  by_cases h1 : 1 < t.size
  · have hd : decide ((1 : Int) < (t.size : Int)) = true := decide_eq_true (by omega)
    have T0 : ((t.extract 0 2).toList == [58, 45]) = _ := two_eq t h1 0 (by decide)
    have T1 : ((t.extract 0 2).toList == [33, 61]) = _ := two_eq t h1 1 (by decide)
    have T2 : ((t.extract 0 2).toList == [60, 61]) = _ := two_eq t h1 2 (by decide)
    cases p0 : twos[0].isPrefixOf (lst t) with
    | true =>
      have HS := Lib.hid (sgn_two (by decide) p0)
      rw [p0] at T0
      clear p0 T1 T2 hcons
      go_enter Tryd.func34, Tryd.ntmps34
      go_wp2
      all_goals first
        | (go_ret; exact ⟨(by rw [HS.out]; try rfl), rfl⟩)
        | (exfalso; simp_all; done)
    | false =>
      rw [p0] at T0
      cases p1 : twos[1].isPrefixOf (lst t) with
      | true =>
        have HS := Lib.hid (sgn_two (by decide) p1)
        rw [p1] at T1
        clear p0 p1 T2 hcons
        go_enter Tryd.func34, Tryd.ntmps34
        go_wp2
        all_goals first
          | (go_ret; exact ⟨(by rw [HS.out]; try rfl), rfl⟩)
          | (exfalso; simp_all; done)
      | false =>
        rw [p1] at T1
        cases p2 : twos[2].isPrefixOf (lst t) with
        | true =>
          have HS := Lib.hid (sgn_two (by decide) p2)
          rw [p2] at T2
          clear p0 p1 p2 hcons
          go_enter Tryd.func34, Tryd.ntmps34
          go_wp2
          all_goals first
            | (go_ret; exact ⟨(by rw [HS.out]; try rfl), rfl⟩)
            | (exfalso; simp_all; done)
        | false =>
          rw [p2] at T2
          have HS := Lib.hid (sgn_rest (l := lst t) (c := t[0]) hcons (fun j h => by
            have : j = 0 ∨ j = 1 ∨ j = 2 := by simp [twos] at h; omega
            rcases this with rfl | rfl | rfl
            · exact p0
            · exact p1
            · exact p2))
          clear p0 p1 p2 hcons
          go_enter Tryd.func34, Tryd.ntmps34
          go_upto_region 8 with (fail)
          cases ho : isOne t[0] with
          | true =>
            rw [ho, if_pos rfl] at HS
            have hor := isOne_or ho
            clear ho
            generalize hz : (t[0].toNat : Int) = z
            have hor2 : z = 40 ∨ z = 41 ∨ z = 44 ∨ z = 46 ∨ z = 33 ∨ z = 61 ∨ z = 60 ∨ z = 43 ∨ z = 45 ∨ z = 42 ∨ z = 124 ∨ z = 95 := by omega
            clear hor hz
            rcases hor2 with rfl | rfl | rfl | rfl | rfl | rfl | rfl | rfl | rfl | rfl | rfl | rfl
            all_goals
              go_wp2
              go_ret
              exact ⟨(by rw [HS.out]; try rfl), rfl⟩
          | false =>
            rw [ho, if_neg (by decide)] at HS
            have hno := isOne_no ho
            clear ho
            generalize hz : (t[0].toNat : Int) = z
            have hno2 : z ≠ 40 ∧ z ≠ 41 ∧ z ≠ 44 ∧ z ≠ 46 ∧ z ≠ 33 ∧ z ≠ 61 ∧ z ≠ 60 ∧ z ≠ 43 ∧ z ≠ 45 ∧ z ≠ 42 ∧ z ≠ 124 ∧ z ≠ 95 := by omega
            obtain ⟨n40, n41, n44, n46, n33, n61, n60, n43, n45, n42, n124, n95⟩ := hno2
            have e40 : (z == 40) = false := beq_eq_false_iff_ne.2 n40
            have e41 : (z == 41) = false := beq_eq_false_iff_ne.2 n41
            have e44 : (z == 44) = false := beq_eq_false_iff_ne.2 n44
            have e46 : (z == 46) = false := beq_eq_false_iff_ne.2 n46
            have e33 : (z == 33) = false := beq_eq_false_iff_ne.2 n33
            have e61 : (z == 61) = false := beq_eq_false_iff_ne.2 n61
            have e60 : (z == 60) = false := beq_eq_false_iff_ne.2 n60
            have e43 : (z == 43) = false := beq_eq_false_iff_ne.2 n43
            have e45 : (z == 45) = false := beq_eq_false_iff_ne.2 n45
            have e42 : (z == 42) = false := beq_eq_false_iff_ne.2 n42
            have e124 : (z == 124) = false := beq_eq_false_iff_ne.2 n124
            have e95 : (z == 95) = false := beq_eq_false_iff_ne.2 n95
            clear hno hz n40 n41 n44 n46 n33 n61 n60 n43 n45 n42 n124 n95
            have he : t.extract 0 0 = ⟨#[]⟩ := lst_inj (by rw [lst_extract]; rfl)
            have HE := Lib.hid he
            clear he
            go_wp2
            go_ret
            exact ⟨(by rw [HS.out, HE.out]; try rfl), rfl⟩
  · have hd : decide ((1 : Int) < (t.size : Int)) = false := decide_eq_false (by omega)
    have hd2 : decide (1 < t.size) = false := decide_eq_false (by omega)
    have HS := Lib.hid (sgn_rest (l := lst t) (c := t[0]) hcons (fun j h => by
      have : j = 0 ∨ j = 1 ∨ j = 2 := by simp [twos] at h; omega
      have hlen : (lst t).length ≤ 1 := by rw [HL.out]; omega
      match hm : lst t with
      | [] => rcases this with rfl | rfl | rfl <;> rfl
      | [c] => rcases this with rfl | rfl | rfl <;> simp [twos, List.isPrefixOf]
      | c :: d :: r => rw [hm] at hlen; simp at hlen))
    clear hcons
    go_enter Tryd.func34, Tryd.ntmps34
    go_upto_region 8 with (fail)
    cases ho : isOne t[0] with
    | true =>
      rw [ho, if_pos rfl] at HS
      have hor := isOne_or ho
      clear ho
      generalize hz : (t[0].toNat : Int) = z
      have hor2 : z = 40 ∨ z = 41 ∨ z = 44 ∨ z = 46 ∨ z = 33 ∨ z = 61 ∨ z = 60 ∨ z = 43 ∨ z = 45 ∨ z = 42 ∨ z = 124 ∨ z = 95 := by omega
      clear hor hz
      rcases hor2 with rfl | rfl | rfl | rfl | rfl | rfl | rfl | rfl | rfl | rfl | rfl | rfl
      all_goals
        go_wp2
        go_ret
        exact ⟨(by rw [HS.out]; try rfl), rfl⟩
    | false =>
      rw [ho, if_neg (by decide)] at HS
      have hno := isOne_no ho
      clear ho
      generalize hz : (t[0].toNat : Int) = z
      have hno2 : z ≠ 40 ∧ z ≠ 41 ∧ z ≠ 44 ∧ z ≠ 46 ∧ z ≠ 33 ∧ z ≠ 61 ∧ z ≠ 60 ∧ z ≠ 43 ∧ z ≠ 45 ∧ z ≠ 42 ∧ z ≠ 124 ∧ z ≠ 95 := by omega
      obtain ⟨n40, n41, n44, n46, n33, n61, n60, n43, n45, n42, n124, n95⟩ := hno2
      have e40 : (z == 40) = false := beq_eq_false_iff_ne.2 n40
      have e41 : (z == 41) = false := beq_eq_false_iff_ne.2 n41
      have e44 : (z == 44) = false := beq_eq_false_iff_ne.2 n44
      have e46 : (z == 46) = false := beq_eq_false_iff_ne.2 n46
      have e33 : (z == 33) = false := beq_eq_false_iff_ne.2 n33
      have e61 : (z == 61) = false := beq_eq_false_iff_ne.2 n61
      have e60 : (z == 60) = false := beq_eq_false_iff_ne.2 n60
      have e43 : (z == 43) = false := beq_eq_false_iff_ne.2 n43
      have e45 : (z == 45) = false := beq_eq_false_iff_ne.2 n45
      have e42 : (z == 42) = false := beq_eq_false_iff_ne.2 n42
      have e124 : (z == 124) = false := beq_eq_false_iff_ne.2 n124
      have e95 : (z == 95) = false := beq_eq_false_iff_ne.2 n95
      clear hno hz n40 n41 n44 n46 n33 n61 n60 n43 n45 n42 n124 n95
      have he : t.extract 0 0 = ⟨#[]⟩ := lst_inj (by rw [lst_extract]; rfl)
      have HE := Lib.hid he
      clear he
      go_wp2
      go_ret
      exact ⟨(by rw [HS.out, HE.out]; try rfl), rfl⟩

end Go.Proofs.YtngnmfoephegmaaDoor
