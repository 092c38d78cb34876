/-
  THE WALKS over spec.l01Between, spec.l01Number, spec.TermNum.
-/
import Derived.Test.YtngnmfoephegmaaDoorTop
import Derived.Test.YtngnmfoephegmaaDoorNum2
namespace Go.Proofs.YtngnmfoephegmaaDoor
open Go Go.RowKit

/-- The digits of a text: behind its '-', if there is one. -/
def DigitsOf (l d : List UInt8) (neg : Bool) : Prop := (l = 45 :: d ∧ neg = true) ∨ ((∀ r, l ≠ 45 :: r) ∧ d = l ∧ neg = false)

theorem numOf_digits {l d : List UInt8} {neg : Bool} (h : DigitsOf l d neg) {m : Int} (hm : numOf l = some m) :
    d ≠ [] ∧ d.length ≤ 7 ∧ (∀ c ∈ d, isDig c = true) ∧ m = (if neg then -(valFrom 0 d : Int) else (valFrom 0 d : Int)) := by
  obtain ⟨h0, h1, hi⟩ := numOf_iff.1 hm
  obtain ⟨ds, a1, a2, a3, a4⟩ := itoa_shape h0 h1
  rcases h with ⟨rfl, rfl⟩ | ⟨hne, rfl, rfl⟩
  · rcases a4 with ⟨_, b1, _⟩ | ⟨_, b1, b2⟩
    · rw [hi] at b1
      exact absurd (a3 45 (by rw [← b1]; simp)) (by decide)
    · rw [hi] at b1
      obtain rfl : d = ds := by simpa using b1
      exact ⟨a1, a2, a3, by rw [b2]; rfl⟩
  · rcases a4 with ⟨_, b1, b2⟩ | ⟨_, b1, _⟩
    · rw [hi] at b1
      obtain rfl := b1
      exact ⟨a1, a2, a3, by rw [b2]; rfl⟩
    · rw [hi] at b1
      exact absurd b1 (hne ds)

/-- What l01Number answers. -/
def NumSaid (l : List UInt8) (w : World) (e : Ending) (w' : World) : Prop :=
  ∃ (n : Int) (ok : Bool), e = .returned (.tuple #[.int .i64 n, .bool ok]) ∧ ((ok = true ∧ numOf l = some n) ∨ (ok = false ∧ numOf l = none)) ∧ Below w.heap.size w w'

def bet (n lo hi : Int) : Bool := decide (lo ≤ n) && decide (n ≤ hi)
theorem bet_in {n lo hi : Int} (h : lo ≤ n) (h' : n ≤ hi) : bet n lo hi = true := by simp [bet, h, h']
theorem bet_lo {n lo hi : Int} (h : n < lo) : bet n lo hi = false := by simp [bet]; omega
theorem bet_hi {n lo hi : Int} (h : hi < n) : bet n lo hi = false := by simp [bet]; omega

set_option maxHeartbeats 400000 in
theorem between_any (n lo hi : Int) (w : World) : Calls Tryd.prog 46 #[.int .i64 n, .int .i64 lo, .int .i64 hi] w fun e w' => e = .returned (.bool (bet n lo hi)) ∧ w = w' := by
  by_cases h1 : lo ≤ n
  · by_cases h2 : n ≤ hi
    · rw [bet_in h1 h2]
      have h3 : decide (lo ≤ n) = true := by simpa using h1
      have h4 : decide (n ≤ hi) = true := by simpa using h2
      go_enter Tryd.func46, Tryd.ntmps46
      go_wp2
      go_ret
      exact ⟨rfl, rfl⟩
    · rw [bet_hi (by omega)]
      have h3 : decide (lo ≤ n) = true := by simpa using h1
      have h4 : decide (n ≤ hi) = false := by simpa using h2
      go_enter Tryd.func46, Tryd.ntmps46
      go_wp2
      go_ret
      exact ⟨rfl, rfl⟩
  · rw [bet_lo (by omega)]
    have h3 : decide (lo ≤ n) = false := by simpa using h1
    go_enter Tryd.func46, Tryd.ntmps46
    go_wp2
    go_ret
    exact ⟨rfl, rfl⟩

/-- Where the digits are. -/
def NumCut (s : ByteArray) (w : World) (v : Value) (wc : World) : Prop :=
  ∃ (d : ByteArray) (neg : Bool), w = wc ∧ v = .string d ∧ d.size ≤ s.size ∧ DigitsOf (lst s) (lst d) neg

/-- The digits gone by. -/
def NumLoop (d : ByteArray) (w : World) (vn vi : Value) (wr : World) : Prop :=
  ∃ k : Nat, w = wr ∧ k ≤ d.size ∧ vi = .int .i64 (k : Int) ∧ vn = .int .i64 (valFrom 0 ((lst d).take k) : Int) ∧ ∀ c ∈ (lst d).take k, isDig c = true

theorem val_bound : ∀ (l : List UInt8) (acc k : Nat), acc < 10 ^ k → (∀ c ∈ l, isDig c = true) → valFrom acc l < 10 ^ (k + l.length)
  | [], acc, k, h, _ => h
  | c :: r, acc, k, h, hd => by
    have hc := hd c (by simp)
    simp only [isDig, Bool.and_eq_true, decide_eq_true_eq] at hc
    have := val_bound r (acc * 10 + (c.toNat - 48)) (k + 1) (by rw [Nat.pow_succ]; omega) (fun x hx => hd x (by simp [hx]))
    rw [show k + (c :: r).length = k + 1 + r.length from by rw [List.length_cons]; omega]
    exact this
theorem val_lt {l : List UInt8} (hl : l.length ≤ 7) (hd : ∀ c ∈ l, isDig c = true) : valFrom 0 l < 10000000 := by
  have h1 := val_bound l 0 0 (by simp) hd
  have h2 : 10 ^ (0 + l.length) ≤ 10 ^ 7 := Nat.pow_le_pow_right (by omega) (by omega)
  omega

/-- The end: the number's own numeral is the text, and it is within bounds. -/
theorem num_fin {l d : List UInt8} {neg : Bool} (h : DigitsOf l d neg) (n : Int) (hn : n = if neg then -(valFrom 0 d : Int) else (valFrom 0 d : Int)) (w w' : World) (hb : Below w.heap.size w w') :
    (Lib.itoa n = l → NumSaid l w (.returned (.tuple #[.int .i64 n, .bool (bet n (-1000000) 1000000)])) w') ∧ (Lib.itoa n ≠ l → NumSaid l w (.returned (.tuple #[.int .i64 n, .bool false])) w') := by
  constructor
  · intro he
    cases hbt : bet n (-1000000) 1000000
    · refine ⟨n, false, rfl, .inr ⟨rfl, ?_⟩, hb⟩
      cases hm : numOf l with
      | none => rfl
      | some m =>
        have h1 := (numOf_digits h hm).2.2.2
        rw [← hn] at h1
        subst h1
        have h2 := numOf_iff.1 hm
        rw [bet_in h2.1 h2.2.1] at hbt
        cases hbt
    · refine ⟨n, true, rfl, .inl ⟨rfl, ?_⟩, hb⟩
      have : -1000000 ≤ n ∧ n ≤ 1000000 := by simpa [bet] using hbt
      exact numOf_iff.2 ⟨this.1, this.2, he⟩
  · intro he
    refine ⟨n, false, rfl, .inr ⟨rfl, ?_⟩, hb⟩
    cases hm : numOf l with
    | none => rfl
    | some m =>
      have h1 := (numOf_digits h hm).2.2.2
      rw [← hn] at h1
      subst h1
      exact absurd (numOf_iff.1 hm).2.2 he

set_option maxRecDepth 100000 in
set_option maxHeartbeats 2000000 in
theorem l01Number_any (s : ByteArray) (hlim : s.size ≤ 140737488351232) (w : World) :
    Calls Tryd.prog 32 #[.string s] w (NumSaid (lst s) w) := by
  have hl := lst_len s
  by_cases h0 : s.size = 0
  · have P : NumSaid (lst s) w (.returned (.tuple #[.int .i64 0, .bool false])) w := by
      have e : lst s = [] := List.length_eq_zero_iff.1 (by omega)
      refine ⟨0, false, rfl, .inr ⟨rfl, ?_⟩, Below.refl _ _⟩
      rw [e]
      cases hm : numOf [] with
      | none => rfl
      | some m => exact absurd rfl (numOf_digits (.inr ⟨by simp, rfl, rfl⟩) hm).1
    have h1 : decide ((0 : Int) < (s.size : Int)) = false := decide_eq_false (by omega)
    have h1' : decide (0 < s.size) = false := decide_eq_false (by omega)
    have hb : bet (s.size : Int) 1 7 = false := bet_lo (by omega)
    clear h0 hl
    go_enter Tryd.func32, Tryd.ntmps32
    go_wp2_with (go_at_call 46; refine (between_any _ _ _ _).mono ?_; rintro e w' ⟨rfl, rfl⟩)
    go_ret2
    exact P
  · have hp : 0 < s.size := by omega
    have h1 : decide ((0 : Int) < (s.size : Int)) = true := by simp; omega
    have h1' : decide (0 < s.size) = true := decide_eq_true hp
    clear h0
    go_enter Tryd.func32, Tryd.ntmps32
    go_upto_if 15 with fail
    go_cut [5] (fun v wc => NumCut s w v wc)
    case first =>
      obtain ⟨c, r, hcr⟩ : ∃ c r, lst s = c :: r := List.exists_cons_of_length_pos (by omega)
      have hc : s[0] = c := by
        have h1 : (lst s)[0]? = some s[0] := List.getElem?_eq_getElem (by omega)
        rw [hcr] at h1
        simpa using h1.symm
      by_cases h45 : c = 45
      · have he : ((s[0].toNat : Int) == 45) = true := by rw [hc, h45]; rfl
        have hd : DigitsOf (lst s) (lst (s.extract 1 s.size)) true := .inl ⟨by
          rw [lst_extract, hcr, h45, List.drop_succ_cons, List.drop_zero, List.take_of_length_le (by rw [hcr] at hl; simp at hl; omega)], rfl⟩
        have hds : (s.extract 1 s.size).size ≤ s.size := by rw [← lst_len, lst_extract, List.length_take, List.length_drop, lst_len]; omega
        have HD := Lib.hid hd
        clear hcr hc h45 hd
        go_wp2
        go_meet
        exact ⟨_, true, rfl, rfl, hds, HD.out⟩
      · have he : ((s[0].toNat : Int) == 45) = false := beq_eq_false_iff_ne.2 (fun h => h45 (by
          rw [← hc]
          apply UInt8.toNat_inj.1
          show s[0].toNat = 45
          omega))
        have hd : DigitsOf (lst s) (lst s) false := .inr ⟨fun r' h => h45 (by rw [hcr] at h; simp at h; exact h.1), rfl, rfl⟩
        have HD := Lib.hid hd
        clear hcr hc h45 hd
        go_wp2
        go_meet
        exact ⟨s, false, rfl, rfl, Nat.le_refl _, HD.out⟩
    case rest =>
      obtain ⟨d, neg, rfl, rfl, hds, hdig⟩ := hcut
      have HDIG := Lib.hid hdig
      have hdl := lst_len d
      clear hdig
      by_cases h7 : 1 ≤ d.size ∧ d.size ≤ 7
      · have hb : bet (d.size : Int) 1 7 = true := bet_in (by omega) (by omega)
        have h71 := h7.1
        have h72 := h7.2
        clear h7
        go_wp2_with (go_at_call 46; refine (between_any _ _ _ _).mono ?_; rintro e w' ⟨rfl, rfl⟩)
        go_loopw [4, 6] (fun vn vi wr => NumLoop d w vn vi wr) (fun _ vi _ => d.size - (intOf vi).toNat)
        case atStart => exact ⟨0, rfl, Nat.zero_le _, rfl, rfl, by simp⟩
        case round =>
          obtain ⟨k, rfl, hk, rfl, rfl, hall⟩ := hrel
          have hv := val_lt (by rw [List.length_take]; omega) hall
          have HALL := Lib.hid hall
          clear hall
          by_cases hlt : k < d.size
          · have htk : (lst d).take (k + 1) = (lst d).take k ++ [d[k]] := by
              rw [List.take_succ_eq_append_getElem (by omega)]; rfl
            cases hd : inB 48 57 d[k]
            · have P : NumSaid (lst s) w (.returned (.tuple #[.int .i64 0, .bool false])) w := by
                refine ⟨0, false, rfl, .inr ⟨rfl, ?_⟩, Below.refl _ _⟩
                cases hm : numOf (lst s) with
                | none => rfl
                | some m =>
                  have := (numOf_digits HDIG.out hm).2.2.1 d[k] (by
                    have : (lst d)[k]'(by omega) ∈ lst d := List.getElem_mem _
                    exact this)
                  rw [isDig_inB, hd] at this
                  cases this
              clear htk
              go_wp2_with (go_at_call 31; refine (l01Digit_any d[k] _).mono ?_; rintro e w' ⟨rfl, rfl⟩)
              go_ret2
              exact P
            · have hd1 : 48 ≤ d[k].toNat ∧ d[k].toNat ≤ 57 := by simpa [inB] using hd
              have hd2 := hd1.1
              have hd3 := hd1.2
              have R : NumLoop d w (.int .i64 (10 * (valFrom 0 ((lst d).take k) : Int) + ((d[k].toNat : Int) - 48))) (.int .i64 ((k : Int) + 1)) w := by
                refine ⟨k + 1, rfl, by omega, by go_num, ?_, ?_⟩
                · rw [htk, valFrom_snoc]
                  congr 1
                  omega
                · rw [htk]
                  intro c hc
                  rcases List.mem_append.1 hc with hc | hc
                  · exact HALL.out c hc
                  · obtain rfl : c = d[k] := by simpa using hc
                    exact hd
              have HR := Lib.hid R
              clear R htk hd1
              go_wp2_with (go_at_call 31; refine (l01Digit_any d[k] _).mono ?_; rintro e w' ⟨rfl, rfl⟩)
              go_roundw
              case rel => exact HR.out
              case measure => simp [intOf]; omega
          · have hlt2 : decide ((k : Int) < (d.size : Int)) = false := decide_eq_false (by omega)
            have htk : (lst d).take k = lst d := List.take_of_length_le (by omega)
            rw [htk] at HALL hv ⊢
            clear htk
            obtain ⟨V, HV⟩ : ∃ V : Nat, Hid (V = valFrom 0 (lst d)) := ⟨_, Lib.hid rfl⟩
            rw [← HV.out] at hv ⊢
            cases neg
            · obtain rfl : d = s := by
                rcases HDIG.out with ⟨_, h⟩ | ⟨_, h, _⟩
                · cases h
                · exact lst_inj h
              have FIN := Lib.hid (num_fin HDIG.out (V : Int) (by rw [HV.out]; rfl) w)
              clear HDIG HALL HV
              by_cases heq : Lib.itoa (V : Int) = lst d
              · have he1 : (Lib.itoa (V : Int) == d.toList) = true := by rw [ByteArray.toList_eq]; exact beq_iff_eq.2 heq
                have HEQ := Lib.hid heq
                clear heq
                go_wp2_with fail
                refine (specNumText (V : Int) (by omega) (by omega) _).mono ?_
                rintro e w1 ⟨rfl, hb1⟩
                have P := (FIN.out w1 hb1).1 HEQ.out
                have HP := Lib.hid P
                clear P hb1
                go_wp2_with (go_at_call 46; refine (between_any _ _ _ _).mono ?_; rintro e w' ⟨rfl, rfl⟩)
                go_ret2
                exact HP.out
              · have he1 : (Lib.itoa (V : Int) == d.toList) = false := by rw [ByteArray.toList_eq]; exact beq_eq_false_iff_ne.2 heq
                have HEQ := Lib.hid heq
                clear heq
                go_wp2_with fail
                refine (specNumText (V : Int) (by omega) (by omega) _).mono ?_
                rintro e w1 ⟨rfl, hb1⟩
                have P := (FIN.out w1 hb1).2 HEQ.out
                have HP := Lib.hid P
                clear P hb1
                go_wp2
                go_ret2
                exact HP.out
            · have hne : (d.toList == s.toList) = false := by
                rw [ByteArray.toList_eq, ByteArray.toList_eq]
                refine beq_eq_false_iff_ne.2 (fun h => ?_)
                rcases HDIG.out with ⟨h', _⟩ | ⟨_, _, h'⟩
                · have h2 := congrArg List.length h'
                  have h3 := congrArg List.length h
                  simp only [List.length_cons] at h2
                  have h4 : (lst d).length = (lst s).length := h3
                  omega
                · cases h'
              have FIN := Lib.hid (num_fin HDIG.out (-(V : Int)) (by rw [HV.out]; rfl) w)
              clear HDIG HALL HV
              by_cases heq : Lib.itoa (-(V : Int)) = lst s
              · have he1 : (Lib.itoa (-(V : Int)) == s.toList) = true := by rw [ByteArray.toList_eq]; exact beq_iff_eq.2 heq
                have HEQ := Lib.hid heq
                clear heq
                go_wp2_with fail
                refine (specNumText (-(V : Int)) (by omega) (by omega) _).mono ?_
                rintro e w1 ⟨rfl, hb1⟩
                have P := (FIN.out w1 hb1).1 HEQ.out
                have HP := Lib.hid P
                clear P hb1
                go_wp2_with (go_at_call 46; refine (between_any _ _ _ _).mono ?_; rintro e w' ⟨rfl, rfl⟩)
                go_ret2
                exact HP.out
              · have he1 : (Lib.itoa (-(V : Int)) == s.toList) = false := by rw [ByteArray.toList_eq]; exact beq_eq_false_iff_ne.2 heq
                have HEQ := Lib.hid heq
                clear heq
                go_wp2_with fail
                refine (specNumText (-(V : Int)) (by omega) (by omega) _).mono ?_
                rintro e w1 ⟨rfl, hb1⟩
                have P := (FIN.out w1 hb1).2 HEQ.out
                have HP := Lib.hid P
                clear P hb1
                go_wp2
                go_ret2
                exact HP.out
      · have P : NumSaid (lst s) w (.returned (.tuple #[.int .i64 0, .bool false])) w := by
          refine ⟨0, false, rfl, .inr ⟨rfl, ?_⟩, Below.refl _ _⟩
          cases hm : numOf (lst s) with
          | none => rfl
          | some m =>
            have := numOf_digits HDIG.out hm
            have h2 : 1 ≤ (lst d).length := by
              cases hd : lst d with
              | nil => exact absurd hd this.1
              | cons _ _ => simp
            omega
        have hb : bet (d.size : Int) 1 7 = false := by
          by_cases h : 1 ≤ d.size
          · exact bet_hi (by omega)
          · exact bet_lo (by omega)
        clear h7
        go_wp2_with (go_at_call 46; refine (between_any _ _ _ _).mono ?_; rintro e w' ⟨rfl, rfl⟩)
        go_ret2
        exact P

end Go.Proofs.YtngnmfoephegmaaDoor
