/-
  THE WALKS over spec.l01Name and spec.l01Args.
-/
import Derived.Test.YtngnmfoephegmaaDoorSpecKind
namespace Go.Proofs.YtngnmfoephegmaaDoor
open Go Go.RowKit

def AllRel (P : UInt8 → Bool) (s : ByteArray) (w : World) (v : Value) (wr : World) : Prop :=
  ∃ r : Nat, w = wr ∧ v = .int .i64 (r : Int) ∧ r ≤ s.size ∧ ∀ j (h : j < (lst s).length), j < r → P (lst s)[j] = true

set_option maxRecDepth 100000 in
set_option maxHeartbeats 1000000 in
theorem l01Name_any (s : ByteArray) (hs : s.size ≤ 1048576) (w : World) :
    Calls Tryd.prog 49 #[.string s, .bool true] w fun e w' => e = .returned (.bool (bigName (lst s))) ∧ w = w' := by
  have hl := lst_len s
  by_cases h20 : 1 ≤ s.size ∧ s.size ≤ 20
  · have hb : bet (s.size : Int) 1 20 = true := bet_in (by omega) (by omega)
    have hp : 0 < s.size := by omega
    have e : bigName (lst s) = (isBig s[0] && (lst s).all isNam) := by
      obtain ⟨c, r, hcr⟩ : ∃ c r, lst s = c :: r := List.exists_cons_of_length_pos (by omega)
      have hc : s[0] = c := by
        have h1 : (lst s)[0]? = some s[0] := List.getElem?_eq_getElem (by omega)
        rw [hcr] at h1
        simpa using h1.symm
      have hd : decide ((c :: r).length ≤ 20) = true := decide_eq_true (by rw [← hcr]; omega)
      rw [hc, hcr]
      simp only [bigName, hd, Bool.true_and]
    cases hbig : isBig s[0]
    · rw [e, hbig]
      have hb2 : inB 65 90 s[0] = false := hbig
      clear e hl h20
      go_enter Tryd.func49, Tryd.ntmps49
      go_wp2_with (first | (go_at_call 46; refine (between_any _ _ _ _).mono ?_; rintro e w' ⟨rfl, rfl⟩) | (go_at_call 29; refine (l01Big_any s[0] _).mono ?_; rintro e w' ⟨rfl, rfl⟩))
      go_ret
      exact ⟨rfl, rfl⟩
    · rw [e, hbig, Bool.true_and]
      have hb2 : inB 65 90 s[0] = true := hbig
      clear e h20
      go_enter Tryd.func49, Tryd.ntmps49
      go_wp2_with (first | (go_at_call 46; refine (between_any _ _ _ _).mono ?_; rintro e w' ⟨rfl, rfl⟩) | (go_at_call 29; refine (l01Big_any s[0] _).mono ?_; rintro e w' ⟨rfl, rfl⟩))
      go_loopw [5] (fun v wr => AllRel isNam s w v wr) (fun v _ => (s.size - (intOf v).toNat))
      case atStart => exact ⟨0, rfl, rfl, Nat.zero_le _, fun j h a => by omega⟩
      case round =>
        obtain ⟨r, rfl, rfl, hr, hall⟩ := hrel
        have HALL := Lib.hid hall
        clear hall
        by_cases hlt : r < s.size
        · cases hd : isNam s[r]
          · have hF : (lst s).all isNam = false := by
              cases hx : (lst s).all isNam with
              | false => rfl
              | true =>
                have := List.all_eq_true.1 hx ((lst s)[r]'(by omega)) (List.getElem_mem _)
                rw [show (lst s)[r]'(by omega) = s[r] from rfl, hd] at this
                cases this
            have HF := Lib.hid hF
            clear hF
            go_wp2_with (go_at_call 30; refine (l01Letter_any s[r] _).mono ?_; rintro e w' ⟨rfl, rfl⟩)
            go_ret
            rw [HF.out]
            exact ⟨rfl, rfl⟩
          · have hd2 : ∀ j (h : j < (lst s).length), j < r + 1 → isNam (lst s)[j] = true := fun j h b => by
              by_cases hj : j < r
              · exact HALL.out j h hj
              · obtain rfl : j = r := by omega
                exact hd
            have HD2 := Lib.hid hd2
            clear hd2
            go_wp2_with (go_at_call 30; refine (l01Letter_any s[r] _).mono ?_; rintro e w' ⟨rfl, rfl⟩)
            go_roundw
            case rel => exact ⟨r + 1, rfl, by go_num, by omega, HD2.out⟩
            case measure => simp [intOf]; omega
        · have hlt2 : decide ((r : Int) < (s.size : Int)) = false := decide_eq_false (by omega)
          have hT : (lst s).all isNam = true := by
            rw [List.all_eq_true]
            intro c hc
            obtain ⟨j, hj, rfl⟩ := List.getElem_of_mem hc
            exact HALL.out j hj (by omega)
          have HT := Lib.hid hT
          clear hT
          go_wp2
          go_ret
          rw [HT.out]
          exact ⟨rfl, rfl⟩
  · have hb : bet (s.size : Int) 1 20 = false := by
      by_cases h : 1 ≤ s.size
      · exact bet_hi (by omega)
      · exact bet_lo (by omega)
    have e : bigName (lst s) = false := by
      cases hx : bigName (lst s) with
      | false => rfl
      | true =>
        obtain ⟨c, r, h1, _, h3, _⟩ := bigName_cons hx
        have h4 : 1 ≤ (lst s).length := by rw [h1]; simp
        omega
    rw [e]
    clear e hl h20
    go_enter Tryd.func49, Tryd.ntmps49
    go_wp2_with (go_at_call 46; refine (between_any _ _ _ _).mono ?_; rintro e w' ⟨rfl, rfl⟩)
    go_ret
    exact ⟨rfl, rfl⟩

end Go.Proofs.YtngnmfoephegmaaDoor
