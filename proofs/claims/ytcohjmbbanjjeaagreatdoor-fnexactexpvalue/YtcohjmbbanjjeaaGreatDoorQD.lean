/-
  THE WALKS over spec.l01Between, spec.l01Number, spec.TermNum.
  WHAT ALL FIVE LISTED VARIABLES GIVE.
  THE WALKS: impl.TermNum, spec.TermNum; laws.FnExactTermNum answers true.
  PLAIN MATHEMATICS: the text of a term; the reader of impl takes just the texts of terms.
  PLAIN MATHEMATICS: spec.l01Args and spec.TermKind as functions on lists; they take just the texts of terms.
  PLAIN MATHEMATICS: spec.TermKind answers as impl.TermKind.
  THE WALKS over spec.l01Name and spec.l01Args.
-/
import Derived.Test.YtcohjmbbanjjeaaGreatDoorQC
import Derived.Test.YtcohjmbbanjjeaaGreatDoorQA
namespace Go.Proofs.YtcohjmbbanjjeaaGreatDoor
open Go Go.RowKit

/-- The digits of a text: behind its '-', if there is one. -/
def DigitsOf (l d : List UInt8) (neg : Bool) : Prop := (l = 45 :: d ∧ neg = true) ∨ ((∀ r, l ≠ 45 :: r) ∧ d = l ∧ neg = false)

theorem numOf_digits {l d : List UInt8} {neg : Bool} (h : DigitsOf l d neg) {m : Int} (hm : numOf l = some m) :
    d ≠ [] ∧ d.length ≤ 7 ∧ (∀ c ∈ d, isDig c = true) ∧ m = (if neg then -(valFrom 0 d : Int) else (valFrom 0 d : Int)) := by
  obtain ⟨h0, h1, hi⟩ := numOf_iff.1 hm
  obtain ⟨ds, a1, a2, a3, a4⟩ := itoa_shape h0 h1
  rcases h with ⟨rfl, rfl⟩ | ⟨hne, rfl, rfl⟩
  · rcases a4 with ⟨_, b1, _⟩ | ⟨_, b1, b2⟩
    · rw [hi] at b1
      exact absurd (a3 45 (by rw [← b1]; simp)) (by decide)
    · rw [hi] at b1
      obtain rfl : d = ds := by simpa using b1
      exact ⟨a1, a2, a3, by rw [b2]; rfl⟩
  · rcases a4 with ⟨_, b1, b2⟩ | ⟨_, b1, _⟩
    · rw [hi] at b1
      obtain rfl := b1
      exact ⟨a1, a2, a3, by rw [b2]; rfl⟩
    · rw [hi] at b1
      exact absurd b1 (hne ds)

/-- What l01Number answers. -/
def NumSaid (l : List UInt8) (w : World) (e : Ending) (w' : World) : Prop :=
  ∃ (n : Int) (ok : Bool), e = .returned (.tuple #[.int .i64 n, .bool ok]) ∧ ((ok = true ∧ numOf l = some n) ∨ (ok = false ∧ numOf l = none)) ∧ Below w.heap.size w w'

def bet (n lo hi : Int) : Bool := decide (lo ≤ n) && decide (n ≤ hi)
theorem bet_in {n lo hi : Int} (h : lo ≤ n) (h' : n ≤ hi) : bet n lo hi = true := by simp [bet, h, h']
theorem bet_lo {n lo hi : Int} (h : n < lo) : bet n lo hi = false := by simp [bet]; omega
theorem bet_hi {n lo hi : Int} (h : hi < n) : bet n lo hi = false := by simp [bet]; omega

set_option maxHeartbeats 400000 in
theorem between_any (n lo hi : Int) (w : World) : Calls Tryz.prog 16 #[.int .i64 n, .int .i64 lo, .int .i64 hi] w fun e w' => e = .returned (.bool (bet n lo hi)) ∧ w = w' := by
  by_cases h1 : lo ≤ n
  · by_cases h2 : n ≤ hi
    · rw [bet_in h1 h2]
      have h3 : decide (lo ≤ n) = true := by simpa using h1
      have h4 : decide (n ≤ hi) = true := by simpa using h2
      go_enter Tryz.func16, Tryz.ntmps16
      go_wp2
      go_ret
      exact ⟨rfl, rfl⟩
    · rw [bet_hi (by omega)]
      have h3 : decide (lo ≤ n) = true := by simpa using h1
      have h4 : decide (n ≤ hi) = false := by simpa using h2
      go_enter Tryz.func16, Tryz.ntmps16
      go_wp2
      go_ret
      exact ⟨rfl, rfl⟩
  · rw [bet_lo (by omega)]
    have h3 : decide (lo ≤ n) = false := by simpa using h1
    go_enter Tryz.func16, Tryz.ntmps16
    go_wp2
    go_ret
    exact ⟨rfl, rfl⟩

/-- Where the digits are. -/
def NumCut (s : ByteArray) (w : World) (v : Value) (wc : World) : Prop :=
  ∃ (d : ByteArray) (neg : Bool), w = wc ∧ v = .string d ∧ d.size ≤ s.size ∧ DigitsOf (lst s) (lst d) neg

/-- The digits gone by. -/
def NumLoop (d : ByteArray) (w : World) (vn vi : Value) (wr : World) : Prop :=
  ∃ k : Nat, w = wr ∧ k ≤ d.size ∧ vi = .int .i64 (k : Int) ∧ vn = .int .i64 (valFrom 0 ((lst d).take k) : Int) ∧ ∀ c ∈ (lst d).take k, isDig c = true

theorem val_bound : ∀ (l : List UInt8) (acc k : Nat), acc < 10 ^ k → (∀ c ∈ l, isDig c = true) → valFrom acc l < 10 ^ (k + l.length)
  | [], acc, k, h, _ => h
  | c :: r, acc, k, h, hd => by
    have hc := hd c (by simp)
    simp only [isDig, Bool.and_eq_true, decide_eq_true_eq] at hc
    have := val_bound r (acc * 10 + (c.toNat - 48)) (k + 1) (by rw [Nat.pow_succ]; omega) (fun x hx => hd x (by simp [hx]))
    rw [show k + (c :: r).length = k + 1 + r.length from by rw [List.length_cons]; omega]
    exact this
theorem val_lt {l : List UInt8} (hl : l.length ≤ 7) (hd : ∀ c ∈ l, isDig c = true) : valFrom 0 l < 10000000 := by
  have h1 := val_bound l 0 0 (by simp) hd
  have h2 : 10 ^ (0 + l.length) ≤ 10 ^ 7 := Nat.pow_le_pow_right (by omega) (by omega)
  omega

/-- The end: the number's own numeral is the text, and it is within bounds. -/
theorem num_fin {l d : List UInt8} {neg : Bool} (h : DigitsOf l d neg) (n : Int) (hn : n = if neg then -(valFrom 0 d : Int) else (valFrom 0 d : Int)) (w w' : World) (hb : Below w.heap.size w w') :
    (Lib.itoa n = l → NumSaid l w (.returned (.tuple #[.int .i64 n, .bool (bet n (-1000000) 1000000)])) w') ∧ (Lib.itoa n ≠ l → NumSaid l w (.returned (.tuple #[.int .i64 n, .bool false])) w') := by
  constructor
  · intro he
    cases hbt : bet n (-1000000) 1000000
    · refine ⟨n, false, rfl, .inr ⟨rfl, ?_⟩, hb⟩
      cases hm : numOf l with
      | none => rfl
      | some m =>
        have h1 := (numOf_digits h hm).2.2.2
        rw [← hn] at h1
        subst h1
        have h2 := numOf_iff.1 hm
        rw [bet_in h2.1 h2.2.1] at hbt
        cases hbt
    · refine ⟨n, true, rfl, .inl ⟨rfl, ?_⟩, hb⟩
      have : -1000000 ≤ n ∧ n ≤ 1000000 := by simpa [bet] using hbt
      exact numOf_iff.2 ⟨this.1, this.2, he⟩
  · intro he
    refine ⟨n, false, rfl, .inr ⟨rfl, ?_⟩, hb⟩
    cases hm : numOf l with
    | none => rfl
    | some m =>
      have h1 := (numOf_digits h hm).2.2.2
      rw [← hn] at h1
      subst h1
      exact absurd (numOf_iff.1 hm).2.2 he

set_option maxRecDepth 100000 in
set_option maxHeartbeats 2000000 in
theorem l01Number_any (s : ByteArray) (hlim : s.size ≤ 140737488351232) (w : World) :
    Calls Tryz.prog 46 #[.string s] w (NumSaid (lst s) w) := by
  have hl := lst_len s
  by_cases h0 : s.size = 0
  · have P : NumSaid (lst s) w (.returned (.tuple #[.int .i64 0, .bool false])) w := by
      have e : lst s = [] := List.length_eq_zero_iff.1 (by omega)
      refine ⟨0, false, rfl, .inr ⟨rfl, ?_⟩, Below.refl _ _⟩
      rw [e]
      cases hm : numOf [] with
      | none => rfl
      | some m => exact absurd rfl (numOf_digits (.inr ⟨by simp, rfl, rfl⟩) hm).1
    have h1 : decide ((0 : Int) < (s.size : Int)) = false := decide_eq_false (by omega)
    have h1' : decide (0 < s.size) = false := decide_eq_false (by omega)
    have hb : bet (s.size : Int) 1 7 = false := bet_lo (by omega)
    clear h0 hl
    go_enter Tryz.func46, Tryz.ntmps46
    go_wp2_with (go_at_call 16; refine (between_any _ _ _ _).mono ?_; rintro e w' ⟨rfl, rfl⟩)
    go_ret2
    exact P
  · have hp : 0 < s.size := by omega
    have h1 : decide ((0 : Int) < (s.size : Int)) = true := by simp; omega
    have h1' : decide (0 < s.size) = true := decide_eq_true hp
    clear h0
    go_enter Tryz.func46, Tryz.ntmps46
    go_upto_if 15 with fail
    go_cut [5] (fun v wc => NumCut s w v wc)
    case first =>
      obtain ⟨c, r, hcr⟩ : ∃ c r, lst s = c :: r := List.exists_cons_of_length_pos (by omega)
      have hc : s[0] = c := by
        have h1 : (lst s)[0]? = some s[0] := List.getElem?_eq_getElem (by omega)
        rw [hcr] at h1
        simpa using h1.symm
      by_cases h45 : c = 45
      · have he : ((s[0].toNat : Int) == 45) = true := by rw [hc, h45]; rfl
        have hd : DigitsOf (lst s) (lst (s.extract 1 s.size)) true := .inl ⟨by
          rw [lst_extract, hcr, h45, List.drop_succ_cons, List.drop_zero, List.take_of_length_le (by rw [hcr] at hl; simp at hl; omega)], rfl⟩
        have hds : (s.extract 1 s.size).size ≤ s.size := by rw [← lst_len, lst_extract, List.length_take, List.length_drop, lst_len]; omega
        have HD := Lib.hid hd
        clear hcr hc h45 hd
        go_wp2
        go_meet
        exact ⟨_, true, rfl, rfl, hds, HD.out⟩
      · have he : ((s[0].toNat : Int) == 45) = false := beq_eq_false_iff_ne.2 (fun h => h45 (by
          rw [← hc]
          apply UInt8.toNat_inj.1
          show s[0].toNat = 45
          omega))
        have hd : DigitsOf (lst s) (lst s) false := .inr ⟨fun r' h => h45 (by rw [hcr] at h; simp at h; exact h.1), rfl, rfl⟩
        have HD := Lib.hid hd
        clear hcr hc h45 hd
        go_wp2
        go_meet
        exact ⟨s, false, rfl, rfl, Nat.le_refl _, HD.out⟩
    case rest =>
      obtain ⟨d, neg, rfl, rfl, hds, hdig⟩ := hcut
      have HDIG := Lib.hid hdig
      have hdl := lst_len d
      clear hdig
      by_cases h7 : 1 ≤ d.size ∧ d.size ≤ 7
      · have hb : bet (d.size : Int) 1 7 = true := bet_in (by omega) (by omega)
        have h71 := h7.1
        have h72 := h7.2
        clear h7
        go_wp2_with (go_at_call 16; refine (between_any _ _ _ _).mono ?_; rintro e w' ⟨rfl, rfl⟩)
        go_loopw [4, 6] (fun vn vi wr => NumLoop d w vn vi wr) (fun _ vi _ => d.size - (intOf vi).toNat)
        case atStart => exact ⟨0, rfl, Nat.zero_le _, rfl, rfl, by simp⟩
        case round =>
          obtain ⟨k, rfl, hk, rfl, rfl, hall⟩ := hrel
          have hv := val_lt (by rw [List.length_take]; omega) hall
          have HALL := Lib.hid hall
          clear hall
          by_cases hlt : k < d.size
          · have htk : (lst d).take (k + 1) = (lst d).take k ++ [d[k]] := by
              rw [List.take_succ_eq_append_getElem (by omega)]; rfl
            cases hd : inB 48 57 d[k]
            · have P : NumSaid (lst s) w (.returned (.tuple #[.int .i64 0, .bool false])) w := by
                refine ⟨0, false, rfl, .inr ⟨rfl, ?_⟩, Below.refl _ _⟩
                cases hm : numOf (lst s) with
                | none => rfl
                | some m =>
                  have := (numOf_digits HDIG.out hm).2.2.1 d[k] (by
                    have : (lst d)[k]'(by omega) ∈ lst d := List.getElem_mem _
                    exact this)
                  rw [isDig_inB, hd] at this
                  cases this
              clear htk
              go_wp2_with (go_at_call 61; refine (l01Digit_any d[k] _).mono ?_; rintro e w' ⟨rfl, rfl⟩)
              go_ret2
              exact P
            · have hd1 : 48 ≤ d[k].toNat ∧ d[k].toNat ≤ 57 := by simpa [inB] using hd
              have hd2 := hd1.1
              have hd3 := hd1.2
              have R : NumLoop d w (.int .i64 (10 * (valFrom 0 ((lst d).take k) : Int) + ((d[k].toNat : Int) - 48))) (.int .i64 ((k : Int) + 1)) w := by
                refine ⟨k + 1, rfl, by omega, by go_num, ?_, ?_⟩
                · rw [htk, valFrom_snoc]
                  congr 1
                  omega
                · rw [htk]
                  intro c hc
                  rcases List.mem_append.1 hc with hc | hc
                  · exact HALL.out c hc
                  · obtain rfl : c = d[k] := by simpa using hc
                    exact hd
              have HR := Lib.hid R
              clear R htk hd1
              go_wp2_with (go_at_call 61; refine (l01Digit_any d[k] _).mono ?_; rintro e w' ⟨rfl, rfl⟩)
              go_roundw
              case rel => exact HR.out
              case measure => simp [intOf]; omega
          · have hlt2 : decide ((k : Int) < (d.size : Int)) = false := decide_eq_false (by omega)
            have htk : (lst d).take k = lst d := List.take_of_length_le (by omega)
            rw [htk] at HALL hv ⊢
            clear htk
            obtain ⟨V, HV⟩ : ∃ V : Nat, Hid (V = valFrom 0 (lst d)) := ⟨_, Lib.hid rfl⟩
            rw [← HV.out] at hv ⊢
            cases neg
            · obtain rfl : d = s := by
                rcases HDIG.out with ⟨_, h⟩ | ⟨_, h, _⟩
                · cases h
                · exact lst_inj h
              have FIN := Lib.hid (num_fin HDIG.out (V : Int) (by rw [HV.out]; rfl) w)
              clear HDIG HALL HV
              by_cases heq : Lib.itoa (V : Int) = lst d
              · have he1 : (Lib.itoa (V : Int) == d.toList) = true := by rw [ByteArray.toList_eq]; exact beq_iff_eq.2 heq
                have HEQ := Lib.hid heq
                clear heq
                go_wp2_with fail
                refine (specNumText (V : Int) (by omega) (by omega) _).mono ?_
                rintro e w1 ⟨rfl, hb1⟩
                have P := (FIN.out w1 hb1).1 HEQ.out
                have HP := Lib.hid P
                clear P hb1
                go_wp2_with (go_at_call 16; refine (between_any _ _ _ _).mono ?_; rintro e w' ⟨rfl, rfl⟩)
                go_ret2
                exact HP.out
              · have he1 : (Lib.itoa (V : Int) == d.toList) = false := by rw [ByteArray.toList_eq]; exact beq_eq_false_iff_ne.2 heq
                have HEQ := Lib.hid heq
                clear heq
                go_wp2_with fail
                refine (specNumText (V : Int) (by omega) (by omega) _).mono ?_
                rintro e w1 ⟨rfl, hb1⟩
                have P := (FIN.out w1 hb1).2 HEQ.out
                have HP := Lib.hid P
                clear P hb1
                go_wp2
                go_ret2
                exact HP.out
            · have hne : (d.toList == s.toList) = false := by
                rw [ByteArray.toList_eq, ByteArray.toList_eq]
                refine beq_eq_false_iff_ne.2 (fun h => ?_)
                rcases HDIG.out with ⟨h', _⟩ | ⟨_, _, h'⟩
                · have h2 := congrArg List.length h'
                  have h3 := congrArg List.length h
                  simp only [List.length_cons] at h2
                  have h4 : (lst d).length = (lst s).length := h3
                  omega
                · cases h'
              have FIN := Lib.hid (num_fin HDIG.out (-(V : Int)) (by rw [HV.out]; rfl) w)
              clear HDIG HALL HV
              by_cases heq : Lib.itoa (-(V : Int)) = lst s
              · have he1 : (Lib.itoa (-(V : Int)) == s.toList) = true := by rw [ByteArray.toList_eq]; exact beq_iff_eq.2 heq
                have HEQ := Lib.hid heq
                clear heq
                go_wp2_with fail
                refine (specNumText (-(V : Int)) (by omega) (by omega) _).mono ?_
                rintro e w1 ⟨rfl, hb1⟩
                have P := (FIN.out w1 hb1).1 HEQ.out
                have HP := Lib.hid P
                clear P hb1
                go_wp2_with (go_at_call 16; refine (between_any _ _ _ _).mono ?_; rintro e w' ⟨rfl, rfl⟩)
                go_ret2
                exact HP.out
              · have he1 : (Lib.itoa (-(V : Int)) == s.toList) = false := by rw [ByteArray.toList_eq]; exact beq_eq_false_iff_ne.2 heq
                have HEQ := Lib.hid heq
                clear heq
                go_wp2_with fail
                refine (specNumText (-(V : Int)) (by omega) (by omega) _).mono ?_
                rintro e w1 ⟨rfl, hb1⟩
                have P := (FIN.out w1 hb1).2 HEQ.out
                have HP := Lib.hid P
                clear P hb1
                go_wp2
                go_ret2
                exact HP.out
      · have P : NumSaid (lst s) w (.returned (.tuple #[.int .i64 0, .bool false])) w := by
          refine ⟨0, false, rfl, .inr ⟨rfl, ?_⟩, Below.refl _ _⟩
          cases hm : numOf (lst s) with
          | none => rfl
          | some m =>
            have := numOf_digits HDIG.out hm
            have h2 : 1 ≤ (lst d).length := by
              cases hd : lst d with
              | nil => exact absurd hd this.1
              | cons _ _ => simp
            omega
        have hb : bet (d.size : Int) 1 7 = false := by
          by_cases h : 1 ≤ d.size
          · exact bet_hi (by omega)
          · exact bet_lo (by omega)
        clear h7
        go_wp2_with (go_at_call 16; refine (between_any _ _ _ _).mono ?_; rintro e w' ⟨rfl, rfl⟩)
        go_ret2
        exact P

end Go.Proofs.YtcohjmbbanjjeaaGreatDoor

namespace Go.Proofs.YtcohjmbbanjjeaaGreatDoor
open Go Go.RowKit

abbrev laid5 : List (String × DataW Unit) := [("math/bits.deBruijn32tab", Rows.laid_math_bits_deBruijn32tab), ("math/bits.deBruijn64tab", Rows.laid_math_bits_deBruijn64tab), ("internal/strconv.uint64pow10", Rows.laid_internal_strconv_uint64pow10), ("strconv.ErrRange", Rows.laid_strconv_ErrRange), ("strconv.ErrSyntax", Rows.laid_strconv_ErrSyntax)]

theorem gSynType : (Tryz.prog.globals[(Tryz.prog.globalNamed "strconv.ErrSyntax").getD 0]?).map (·.type) = some 167 := by kernel_rfl
theorem gRngType : (Tryz.prog.globals[(Tryz.prog.globalNamed "strconv.ErrRange").getD 0]?).map (·.type) = some 167 := by kernel_rfl
theorem cellsE : Tryz.prog.cellsOf 215 = 1 := by kernel_rfl
theorem star : "*" ++ "errors.errorString" = "*errors.errorString" := by decide
theorem rowE (u : TypeId) (h : Tryz.prog.typeName? 3 u = some "*errors.errorString") : u = 213 :=
  typeName_ptr_named (nm := "errors.errorString") (by rw [star]; kernel_rfl) (by kernel_rfl) (by decide) u (by rw [star]; exact h)

theorem var_lt {W : World} {n : String} {g : Nat} {cs : Array Value} (hg : Tryz.prog.globalNamed n = some g) (h : W.var? Tryz.prog n = some cs) : g < W.heap.size := by
  unfold World.var? at h
  rw [hg] at h
  simp only [Option.bind_some] at h
  rcases Nat.lt_or_ge g W.heap.size with h' | h'
  · exact h'
  · rw [Array.getElem?_eq_none h'] at h; simp at h

theorem of_laid5 {W : World} (h : laidMetH Tryz.prog laid5 W) : Env W.heap.size W := by
  rw [MakeChecks.laidMetH_plain _ _ _ (by kernel_rfl)] at h
  have h2 := h.tail.tail
  have h3 := h2.tail
  have h4 := h3.tail
  have hp : Pow W := by
    rw [laidPow] at h2
    exact Lib.tabIs_of_head gPow gPowType Tryz.underlying210 Tryz.underlying159 cells96 cells107 h2
  obtain ⟨a0, s0, hv0, -, -, -⟩ := laid_sentinel h3 gRng gRngType Tryz.underlying167 rowE Tryz.underlying213 Tryz.underlying215 rfl rfl Tryz.underlying9 cellsE cellsS
  obtain ⟨a1, s1, hv1, -, -, -⟩ := laid_sentinel h4 gSyn gSynType Tryz.underlying167 rowE Tryz.underlying213 Tryz.underlying215 rfl rfl Tryz.underlying9 cellsE cellsS
  exact ⟨Nat.le_refl _, var_lt gPow hp, var_lt gSyn hv1, var_lt gRng hv0, hp, ⟨_, _, hv1⟩, ⟨_, _, hv0⟩⟩

theorem door_met5 (os : Os) (args : Array Value) : laidMetH Tryz.prog laid5 ((World.doorLaid Tryz.prog 400 os).forCall (fun _ _ => 0) ⟨#[], args, []⟩).memory :=
  laidMetH_of_parts3 (fuel := 8) (laidMet_of_run' 8 (by kernel_rfl) (by kernel_rfl)) (by kernel_rfl) (by kernel_rfl)

end Go.Proofs.YtcohjmbbanjjeaaGreatDoor

namespace Go.Proofs.YtcohjmbbanjjeaaGreatDoor
open Go Go.RowKit Go.Maps Go.WideMaps

theorem takeWhile_all {P : UInt8 → Bool} : ∀ {l : List UInt8}, (∀ c ∈ l, P c = true) → l.takeWhile P = l
  | [], _ => rfl
  | c :: r, h => by rw [List.takeWhile_cons, h c (by simp)]; simp only [if_true]; rw [takeWhile_all (fun x hx => h x (by simp [hx]))]

theorem numLen_all {l : List UInt8} (h : (∃ d, l = 45 :: d ∧ ∀ c ∈ d, isDig c = true) ∨ ((∀ c ∈ l, isDig c = true))) : numLen l = l.length := by
  rcases h with ⟨d, rfl, hd⟩ | hd
  · simp only [numLen, if_true, List.length_cons]
    rw [takeWhile_all hd]; omega
  · cases l with
    | nil => rfl
    | cons c r =>
      have hc := hd c (by simp)
      have : ¬ c = 45 := by rintro rfl; exact absurd hc (by decide)
      simp only [numLen, this, if_false]
      rw [takeWhile_all hd]

theorem rdNum_itoa {l : List UInt8} {n : Int} (h : numOf l = some n) : rdNum l = some (n, []) ∧ l.length ≤ 8 ∧ ∃ c r, l = c :: r ∧ c ≠ 34 ∧ isBig c = false := by
  obtain ⟨h0, h1, hi⟩ := numOf_iff.1 h
  obtain ⟨ds, a1, a2, a3, a4⟩ := itoa_shape h0 h1
  have hn : numLen l = l.length := by
    apply numLen_all
    rcases a4 with ⟨_, b1, _⟩ | ⟨_, b1, _⟩
    · right; rw [← hi, b1]; exact a3
    · left; exact ⟨ds, by rw [← hi, b1], a3⟩
  refine ⟨?_, ?_, ?_⟩
  · unfold rdNum
    rw [hn, List.take_length, List.drop_length, h]; rfl
  · rcases a4 with ⟨_, b1, _⟩ | ⟨_, b1, _⟩
    · rw [← hi, b1]; omega
    · rw [← hi, b1, List.length_cons]; omega
  · rcases a4 with ⟨_, b1, _⟩ | ⟨_, b1, _⟩
    · cases hds : ds with
      | nil => exact absurd hds a1
      | cons c r =>
        have hc := a3 c (by rw [hds]; simp)
        simp only [isDig, Bool.and_eq_true, decide_eq_true_eq] at hc
        refine ⟨c, r, by rw [← hi, b1, hds], ?_, ?_⟩
        · rintro rfl; exact absurd hc (by decide)
        · simp [isBig]; omega
    · exact ⟨45, ds, by rw [← hi, b1], by decide, by decide⟩

theorem rdAll_of {l : List UInt8} {t : Tm} (h : rdAll l = some t) : l.length ≤ 200 ∧ rdTerm 500 l = some (t, []) := by
  unfold rdAll at h
  split at h
  · cases h
  · refine ⟨by omega, ?_⟩
    split at h
    · cases h
    · rename_i x hx
      split at h
      · rename_i h2
        obtain rfl : x.1 = t := by simpa using h
        rw [hx, ← h2]
      · cases h
theorem rdAll_mk {l : List UInt8} {t : Tm} (hl : l.length ≤ 200) (h : rdTerm 500 l = some (t, [])) : rdAll l = some t := by
  unfold rdAll
  rw [if_neg (by omega), h]
  simp

theorem rdCon_con : ∀ (f : Nat) (name l : List UInt8) (x : Tm × List UInt8), rdCon f name l = some x → ∃ n ts, x.1 = .con n ts := by
  intro f name l x h
  unfold rdCon at h
  split at h
  · cases h
  · split at h
    · obtain rfl := Option.some.inj h; exact ⟨_, _, rfl⟩
    · split at h
      · split at h
        · cases h
        · rw [Option.map_eq_some_iff] at h
          obtain ⟨y, _, rfl⟩ := h
          exact ⟨_, _, rfl⟩
      · obtain rfl := Option.some.inj h; exact ⟨_, _, rfl⟩

theorem rdAll_num {l : List UInt8} {n : Int} : rdAll l = some (.num n) ↔ numOf l = some n := by
  constructor
  · intro h
    obtain ⟨_, h⟩ := rdAll_of h
    cases l with
    | nil => simp [rdTerm] at h
    | cons c r =>
      rw [rdTerm] at h
      split at h
      · rw [Option.map_eq_some_iff] at h
        obtain ⟨x, _, hx⟩ := h
        simp at hx
      · split at h
        · obtain ⟨_, _, hx⟩ := rdCon_con _ _ _ _ h
          simp at hx
        · rw [Option.map_eq_some_iff] at h
          obtain ⟨x, hx, he⟩ := h
          obtain ⟨m, rest⟩ := x
          simp only [Prod.mk.injEq, Tm.num.injEq] at he
          obtain ⟨rfl, rfl⟩ := he
          unfold rdNum at hx
          rw [Option.map_eq_some_iff] at hx
          obtain ⟨k, hk, he⟩ := hx
          simp only [Prod.mk.injEq] at he
          obtain ⟨rfl, hd⟩ := he
          have hle : (c :: r).length ≤ numLen (c :: r) := by simpa using hd
          rw [List.take_of_length_le hle] at hk
          exact hk
  · intro h
    obtain ⟨h1, h2, c, r, rfl, h3, h4⟩ := rdNum_itoa h
    apply rdAll_mk (by omega)
    rw [rdTerm, if_neg h3, h4]
    simp [h1]

/-- The answers of TermNum. -/
def numAns (l : List UInt8) : Ending := match numOf l with | none => .returned (.tuple #[.int .i64 0, .bool false]) | some n => .returned (.tuple #[.int .i64 n, .bool true])
theorem numAns_none {l : List UInt8} (h : numOf l = none) : numAns l = .returned (.tuple #[.int .i64 0, .bool false]) := by unfold numAns; rw [h]
theorem numAns_some {l : List UInt8} {n : Int} (h : numOf l = some n) : numAns l = .returned (.tuple #[.int .i64 n, .bool true]) := by unfold numAns; rw [h]

set_option maxRecDepth 100000 in
set_option maxHeartbeats 1000000 in
theorem specTermNum (s : ByteArray) (hlim : s.size ≤ 140737488351232) (w : World) :
    Calls Tryz.prog 33 #[.string s] w fun e w' => e = numAns (lst s) ∧ Below w.heap.size w w' := by
  go_enter Tryz.func33, Tryz.ntmps33
  go_wp2_with fail
  refine (l01Number_any s hlim _).mono ?_
  rintro e w1 ⟨n, ok, rfl, (⟨rfl, hn⟩ | ⟨rfl, hn⟩), hb⟩
  · have HN := Lib.hid (numAns_some hn)
    clear hn
    go_wp2
    go_ret2
    exact ⟨HN.out.symm, hb⟩
  · have HN := Lib.hid (numAns_none hn)
    clear hn
    go_wp2
    go_ret2
    exact ⟨HN.out.symm, hb⟩

set_option maxRecDepth 100000 in
set_option maxHeartbeats 1000000 in
theorem implTermNum (s : ByteArray) (hlim : s.size ≤ 140737488351232) (w : World) (hE : Env w.heap.size w) :
    Calls Tryz.prog 73 #[.string s] w fun e w' => e = numAns (lst s) ∧ Below w.heap.size w w' := by
  go_enter Tryz.func73, Tryz.ntmps73
  go_wp2_with fail
  refine (newTermStore_any _).mono ?_
  rintro e w1 ⟨b, rfl, hS1, hb1⟩
  have hE1 := hE.stays hb1
  go_wp2_with fail
  refine (read_any w.heap.size b [] [] s hlim 200 w1 hS1 hE1 (by simp) (by simp) (by omega) (by omega)).mono ?_
  rintro e w2 ⟨ns, cs, h1, h2, h3, h4, h5, h6, (⟨hr, rfl⟩ | ⟨t, i, hr, hat, rfl⟩)⟩
  · have HN := Lib.hid (numAns_none (l := lst s) (by
      cases hm : numOf (lst s) with
      | none => rfl
      | some m => rw [rdAll_num.2 hm] at hr; cases hr))
    have hb := hb1.trans h6.below
    clear hr h1 h2 h3 h4 h5 h6 hb1 hS1 hE1
    go_wp2
    go_ret2
    exact ⟨HN.out.symm, hb⟩
  · have hlt := hat.lt
    have hb := hb1.trans h6.below
    by_cases hk : t.kind = 1
    · obtain ⟨n, rfl⟩ : ∃ n, t = .num n := by
        cases t with
        | num n => exact ⟨n, rfl⟩
        | sym _ => cases hk
        | con _ _ => cases hk
      have hn : ns[i]? = some ⟨1, ⟨#[]⟩, n, 0⟩ := by cases hat with | num _ _ h => exact h
      obtain ⟨gn, capn, hN⟩ := h5.node hn
      have HN := Lib.hid (numAns_some (rdAll_num.1 hr))
      have x0 := hN.st
      have x1 : w2.cell? ⟨gn, i * 4, none⟩ = some (.int .i64 1) := hN.kind
      have x3 : w2.cell? ⟨gn, i * 4 + 2, none⟩ = some (.int .i64 n) := hN.num
      have x2 : i * 4 < 10000 := by omega
      clear hr h1 h2 h4 h5 h6 hb1 hS1 hE1 hat hn hk hN
      go_wp2
      go_ret2
      exact ⟨HN.out.symm, hb⟩
    · obtain ⟨nd, hn, hkd⟩ := hat.node
      obtain ⟨gn, capn, hN⟩ := h5.node hn
      have HN := Lib.hid (numAns_none (l := lst s) (by
        cases hm : numOf (lst s) with
        | none => rfl
        | some m =>
          rw [rdAll_num.2 hm] at hr
          obtain rfl := Option.some.inj hr
          exact absurd rfl hk))
      have x0 := hN.st
      have x1 := hN.kind
      have x2 : i * 4 < 10000 := by omega
      have x3 : ((nd.kind : Int) != 1) = true := by rw [bne_iff_ne, hkd]; exact hk
      clear hr h1 h2 h4 h5 h6 hb1 hS1 hE1 hat hn hk hN hkd
      go_wp2
      go_ret2
      exact ⟨HN.out.symm, hb⟩

end Go.Proofs.YtcohjmbbanjjeaaGreatDoor

namespace Go.Proofs.YtcohjmbbanjjeaaGreatDoor
open Go

mutual
def Tm.text : Tm → List UInt8
  | .num n => Lib.itoa n
  | .sym b => 34 :: (b ++ [34])
  | .con name args => name ++ argText args
def argText : List Tm → List UInt8
  | [] => []
  | a :: r => 40 :: (a.text ++ moreText r)
def moreText : List Tm → List UInt8
  | [] => [41]
  | a :: r => 44 :: (a.text ++ moreText r)
end

inductive Wf : Tm → Prop
  | num (n : Int) (h0 : -1000000 ≤ n) (h1 : n ≤ 1000000) : Wf (.num n)
  | sym (b : List UInt8) (h : ∀ c ∈ b, isSyB c = true) (hl : b.length ≤ 20) : Wf (.sym b)
  | con (name : List UInt8) (args : List Tm) (h : bigName name = true) (ha : ∀ a ∈ args, Wf a) : Wf (.con name args)

theorem bigName_cons {l : List UInt8} (h : bigName l = true) : ∃ c r, l = c :: r ∧ isBig c = true ∧ l.length ≤ 20 ∧ ∀ x ∈ l, isNam x = true := by
  cases l with
  | nil => cases h
  | cons c r =>
    simp only [bigName, Bool.and_eq_true, decide_eq_true_eq, List.all_eq_true] at h
    exact ⟨c, r, rfl, h.1.2, h.1.1, h.2⟩

/-! ### What is read is a term's text -/

theorem takeWhile_mem {P : UInt8 → Bool} : ∀ {l : List UInt8} {c : UInt8}, c ∈ l.takeWhile P → P c = true
  | [], _, h => by simp at h
  | x :: r, c, h => by
    rw [List.takeWhile_cons] at h
    split at h
    · rename_i hx
      rcases List.mem_cons.1 h with rfl | h
      · exact hx
      · exact takeWhile_mem h
    · simp at h

theorem rdNum_sound {l r : List UInt8} {n : Int} (h : rdNum l = some (n, r)) : Wf (.num n) ∧ l = Lib.itoa n ++ r := by
  unfold rdNum at h
  rw [Option.map_eq_some_iff] at h
  obtain ⟨m, hm, he⟩ := h
  simp only [Prod.mk.injEq] at he
  obtain ⟨rfl, rfl⟩ := he
  obtain ⟨h0, h1, hi⟩ := numOf_iff.1 hm
  exact ⟨.num m h0 h1, by rw [hi, List.take_append_drop]⟩

theorem rdSym_sound {l r b : List UInt8} (h : rdSym l = some (b, r)) : Wf (.sym b) ∧ l = b ++ 34 :: r := by
  unfold rdSym at h
  split at h
  · cases h
  · rename_i c r' hd
    split at h
    · rename_i hc
      simp only [Option.some.injEq, Prod.mk.injEq] at h
      obtain ⟨rfl, rfl⟩ := h
      refine ⟨.sym _ (fun c hc => takeWhile_mem hc) hc.2, ?_⟩
      rw [← hc.1, ← hd, List.takeWhile_append_dropWhile]
    · cases h

theorem rd_sound (f : Nat) : (∀ l t r, rdTerm f l = some (t, r) → Wf t ∧ l = t.text ++ r) ∧ (∀ l ts r, rdArgs f l = some (ts, r) → (∀ a ∈ ts, Wf a) ∧ ∃ a as', ts = a :: as' ∧ l = a.text ++ (moreText as' ++ r)) := by
  induction f using Nat.strongRecOn with
  | ind f ih =>
    constructor
    · intro l t r h
      cases f with
      | zero => simp [rdTerm] at h
      | succ f =>
        cases l with
        | nil => simp [rdTerm] at h
        | cons c l =>
          rw [rdTerm] at h
          split at h
          · rename_i hc
            rw [Option.map_eq_some_iff] at h
            obtain ⟨⟨b, r'⟩, hx, he⟩ := h
            simp only [Prod.mk.injEq] at he
            obtain ⟨rfl, rfl⟩ := he
            obtain ⟨h1, h2⟩ := rdSym_sound hx
            refine ⟨h1, ?_⟩
            rw [hc, h2, Tm.text]; simp
          · split at h
            · rename_i hb
              have hbn := bigName_of (l := l) hb
              unfold rdCon at h
              split at h
              · cases h
              · rename_i hlen
                have hbn : bigName ((c :: l).takeWhile isNam) = true := by rw [hbn]; exact decide_eq_true (by omega)
                have hsplit := (List.takeWhile_append_dropWhile (p := isNam) (l := c :: l)).symm
                split at h
                · rename_i hd
                  simp only [Option.some.injEq, Prod.mk.injEq] at h
                  obtain ⟨rfl, rfl⟩ := h
                  refine ⟨.con _ _ hbn (by simp), ?_⟩
                  rw [Tm.text, argText, List.append_nil, List.append_nil]
                  rw [hd, List.append_nil] at hsplit
                  exact hsplit
                · rename_i c' r' hd
                  split at h
                  · rename_i h40
                    split at h
                    · cases h
                    · rename_i f'
                      rw [Option.map_eq_some_iff] at h
                      obtain ⟨⟨ts, r2⟩, hx, he⟩ := h
                      simp only [Prod.mk.injEq] at he
                      obtain ⟨rfl, rfl⟩ := he
                      obtain ⟨h1, a, as', rfl, h2⟩ := (ih f' (by omega)).2 _ _ _ hx
                      refine ⟨.con _ _ hbn h1, ?_⟩
                      rw [Tm.text, argText]
                      rw [hd, h40, h2] at hsplit
                      simpa using hsplit
                  · simp only [Option.some.injEq, Prod.mk.injEq] at h
                    obtain ⟨rfl, rfl⟩ := h
                    refine ⟨.con _ _ hbn (by simp), ?_⟩
                    rw [Tm.text, argText, List.append_nil]
                    rw [hd] at hsplit
                    exact hsplit
            · rw [Option.map_eq_some_iff] at h
              obtain ⟨⟨n, r'⟩, hx, he⟩ := h
              simp only [Prod.mk.injEq] at he
              obtain ⟨rfl, rfl⟩ := he
              obtain ⟨h1, h2⟩ := rdNum_sound hx
              exact ⟨h1, by rw [Tm.text]; exact h2⟩
    · intro l ts r h
      cases f with
      | zero => simp [rdArgs] at h
      | succ f =>
        rw [rdArgs] at h
        split at h
        · cases h
        · cases h
        · rename_i t c r' ht
          obtain ⟨h1, h2⟩ := (ih f (by omega)).1 _ _ _ ht
          split at h
          · rename_i h41
            simp only [Option.some.injEq, Prod.mk.injEq] at h
            obtain ⟨rfl, rfl⟩ := h
            refine ⟨by simpa using h1, t, [], rfl, ?_⟩
            rw [moreText, h2, h41]; rfl
          · split at h
            · rename_i h44
              rw [Option.map_eq_some_iff] at h
              obtain ⟨⟨us, r2⟩, hx, he⟩ := h
              simp only [Prod.mk.injEq] at he
              obtain ⟨rfl, rfl⟩ := he
              obtain ⟨h3, a, as', rfl, h4⟩ := (ih f (by omega)).2 _ _ _ hx
              refine ⟨fun x hx => ?_, t, a :: as', rfl, ?_⟩
              · rcases List.mem_cons.1 hx with rfl | hx
                · exact h1
                · exact h3 x hx
              · rw [moreText, h2, h44, h4]; simp
            · cases h

/-! ### A term's text is read -/

/-- What may stand behind a term. -/
def Stop (r : List UInt8) : Prop := r = [] ∨ ∃ c r', r = c :: r' ∧ (c = 44 ∨ c = 41)

theorem Stop.head {r : List UInt8} (h : Stop r) (P : UInt8 → Bool) (h44 : P 44 = false) (h41 : P 41 = false) : r.takeWhile P = [] ∧ r.dropWhile P = r := by
  rcases h with rfl | ⟨c, r', rfl, rfl | rfl⟩
  · exact ⟨rfl, rfl⟩
  · simp [h44]
  · simp [h41]

theorem takeWhile_app {P : UInt8 → Bool} : ∀ {l r : List UInt8}, (∀ c ∈ l, P c = true) → r.takeWhile P = [] → r.dropWhile P = r → (l ++ r).takeWhile P = l ∧ (l ++ r).dropWhile P = r
  | [], r, _, h1, h2 => ⟨h1, h2⟩
  | c :: l, r, h, h1, h2 => by
    have := takeWhile_app (l := l) (r := r) (fun x hx => h x (by simp [hx])) h1 h2
    rw [List.cons_append, List.takeWhile_cons, List.dropWhile_cons, h c (by simp)]
    simp only [if_true]
    exact ⟨by rw [this.1], this.2⟩

theorem rdNum_text {n : Int} (h0 : -1000000 ≤ n) (h1 : n ≤ 1000000) {r : List UInt8} (hr : Stop r) : rdNum (Lib.itoa n ++ r) = some (n, r) := by
  obtain ⟨ds, a1, a2, a3, a4⟩ := itoa_shape h0 h1
  have hst := hr.head isDig (by decide) (by decide)
  have hn : numLen (Lib.itoa n ++ r) = (Lib.itoa n).length := by
    rcases a4 with ⟨_, b1, _⟩ | ⟨_, b1, _⟩
    · rw [b1]
      cases hds : ds with
      | nil => exact absurd hds a1
      | cons c q =>
        have hc := a3 c (by rw [hds]; simp)
        have hne : ¬ c = 45 := by rintro rfl; exact absurd hc (by decide)
        rw [List.cons_append]
        simp only [numLen, hne, if_false]
        rw [← List.cons_append, ← hds, (takeWhile_app a3 hst.1 hst.2).1]
    · rw [b1, List.cons_append]
      simp only [numLen, if_true, List.length_cons]
      rw [(takeWhile_app a3 hst.1 hst.2).1]; omega
  unfold rdNum
  rw [hn, List.take_left, List.drop_left, numOf_iff.2 ⟨h0, h1, rfl⟩]
  rfl

theorem rdSym_text {b : List UInt8} (h : ∀ c ∈ b, isSyB c = true) (hl : b.length ≤ 20) (r : List UInt8) : rdSym (b ++ 34 :: r) = some (b, r) := by
  have hx := takeWhile_app (r := 34 :: r) h (by simp [show isSyB 34 = false from rfl]) (by simp [show isSyB 34 = false from rfl])
  unfold rdSym
  rw [hx.1, hx.2]
  simp [hl]

theorem moreText_stop (l : List Tm) (r : List UInt8) : Stop (moreText l ++ r) := by
  cases l with
  | nil => exact .inr ⟨41, r, by rw [moreText]; rfl, .inr rfl⟩
  | cons a l => exact .inr ⟨44, a.text ++ moreText l ++ r, by rw [moreText]; simp, .inl rfl⟩
theorem moreText_pos (l : List Tm) : 1 ≤ (moreText l).length := by
  cases l <;> rw [moreText] <;> simp

theorem rdArgs_text {r : List UInt8} : ∀ (as' : List Tm) (a : Tm) (g : Nat), (∀ x ∈ a :: as', ∀ (f : Nat) (r : List UInt8), Stop r → 2 * x.text.length + 2 ≤ f → rdTerm f (x.text ++ r) = some (x, r)) →
    2 * (a.text ++ moreText as').length + 2 ≤ g → rdArgs g (a.text ++ (moreText as' ++ r)) = some (a :: as', r)
  | [], a, g, h, hg => by
    obtain ⟨g, rfl⟩ : ∃ g', g = g' + 1 := ⟨g - 1, by omega⟩
    have hp := moreText_pos []
    rw [List.length_append] at hg
    have h1 := h a (by simp) g (moreText [] ++ r) (moreText_stop _ _) (by omega)
    rw [moreText] at h1 ⊢
    rw [rdArgs_cons (c := 41) (r := r) h1, if_pos rfl]
  | b :: bs, a, g, h, hg => by
    obtain ⟨g, rfl⟩ : ∃ g', g = g' + 1 := ⟨g - 1, by omega⟩
    have hp := moreText_pos (b :: bs)
    have e : moreText (b :: bs) = 44 :: (b.text ++ moreText bs) := by rw [moreText]
    rw [List.length_append] at hg
    have h1 := h a (by simp) g (moreText (b :: bs) ++ r) (moreText_stop _ _) (by omega)
    rw [e, List.cons_append] at h1
    rw [e, List.length_cons] at hg
    have h2 := rdArgs_text (r := r) bs b g (fun x hx => h x (by simp [List.mem_cons.1 hx])) (by omega)
    rw [e, List.cons_append, rdArgs_cons h1, if_neg (by decide), if_pos rfl, List.append_assoc, h2]
    rfl

theorem rd_text {t : Tm} (h : Wf t) : ∀ (f : Nat) (r : List UInt8), Stop r → 2 * t.text.length + 2 ≤ f → rdTerm f (t.text ++ r) = some (t, r) := by
  induction h with
  | num n h0 h1 =>
    intro f r hr hf
    obtain ⟨f, rfl⟩ : ∃ f', f = f' + 1 := ⟨f - 1, by omega⟩
    obtain ⟨_, _, c, q, hcq, h34, hbig⟩ := rdNum_itoa (numOf_iff.2 ⟨h0, h1, rfl⟩)
    have hx := rdNum_text h0 h1 hr
    rw [Tm.text]
    rw [hcq] at hx ⊢
    rw [List.cons_append] at hx ⊢
    rw [rdTerm, if_neg h34, hbig]
    simp [hx]
  | sym b h hl =>
    intro f r hr hf
    obtain ⟨f, rfl⟩ : ∃ f', f = f' + 1 := ⟨f - 1, by omega⟩
    rw [Tm.text, List.cons_append, rdTerm, if_pos rfl, List.append_assoc]
    have := rdSym_text h hl r
    rw [show [34] ++ r = 34 :: r from rfl, this]
    rfl
  | con name args h ha ih =>
    intro f r hr hf
    obtain ⟨f, rfl⟩ : ∃ f', f = f' + 1 := ⟨f - 1, by omega⟩
    obtain ⟨c, q, hcq, hbig, hlen, hall⟩ := bigName_cons h
    have h34 : c ≠ 34 := by rintro rfl; exact absurd hbig (by decide)
    have hx : (argText args ++ r).takeWhile isNam = [] ∧ (argText args ++ r).dropWhile isNam = argText args ++ r := by
      cases args with
      | nil => rw [argText, List.nil_append]; exact hr.head isNam (by decide) (by decide)
      | cons a as' => rw [argText]; simp [show isNam 40 = false from rfl]
    have hy := takeWhile_app hall hx.1 hx.2
    rw [Tm.text, List.append_assoc]
    have e : name ++ (argText args ++ r) = c :: (q ++ (argText args ++ r)) := by rw [hcq]; rfl
    rw [e, rdTerm, if_neg h34, hbig]
    simp only [if_true]
    rw [← e, hy.1, hy.2]
    unfold rdCon
    rw [if_neg (by omega)]
    cases args with
    | nil =>
      rw [argText, List.nil_append]
      rcases hr with rfl | ⟨c', r', rfl, hc'⟩
      · rfl
      · have : ¬ c' = 40 := by rcases hc' with rfl | rfl <;> decide
        simp [this]
    | cons a as' =>
      rw [Tm.text, argText, List.length_append, List.length_cons] at hf
      obtain ⟨f, rfl⟩ : ∃ f', f = f' + 1 := ⟨f - 1, by omega⟩
      have h2 := rdArgs_text (r := r) as' a f (fun x hx => ih x hx) (by omega)
      rw [argText, List.cons_append, List.append_assoc]
      simp [h2]

/-- impl reads a text as the term whose text it is. -/
theorem rdAll_text {t : Tm} (h : Wf t) (hl : t.text.length ≤ 200) : rdAll t.text = some t := by
  apply rdAll_mk hl
  have := rd_text h 500 [] (.inl rfl) (by omega)
  rwa [List.append_nil] at this
theorem rdAll_sound {l : List UInt8} {t : Tm} (h : rdAll l = some t) : Wf t ∧ t.text = l ∧ l.length ≤ 200 := by
  obtain ⟨h1, h2⟩ := rdAll_of h
  have := (rd_sound 500).1 _ _ _ h2
  rw [List.append_nil] at this
  exact ⟨this.1, this.2.symm, h1⟩

end Go.Proofs.YtcohjmbbanjjeaaGreatDoor

namespace Go.Proofs.YtcohjmbbanjjeaaGreatDoor
open Go

/-- l01Args behind the first bracket: d the depth, q within quotes, cur the argument so far. -/
def scan : List UInt8 → Nat → Bool → List UInt8 → List (List UInt8) → Option (List (List UInt8) × List UInt8)
  | [], _, _, _, _ => none
  | c :: r, d, q, cur, out =>
    if c = 34 then scan r d (!q) (cur ++ [c]) out
    else if q then scan r d q (cur ++ [c]) out
    else if c = 40 then scan r (d + 1) q (cur ++ [c]) out
    else if c = 41 then (if d = 1 then some (out ++ [cur], r) else scan r (d - 1) q (cur ++ [c]) out)
    else if c = 44 ∧ d = 1 then scan r d q [] (out ++ [cur])
    else scan r d q (cur ++ [c]) out

def isOpen (c : UInt8) : Bool := c != 40

/-- l01Args: the name, the arguments, whether it closes. -/
def sArgs (l : List UInt8) : List UInt8 × List (List UInt8) × Bool :=
  match l.dropWhile isOpen with
  | [] => (l, [], true)
  | _ :: r => match scan r 1 false [] [] with
    | none => ([], [], false)
    | some x => (l.takeWhile isOpen, x.1, x.2.isEmpty)

/-- A symbol, by its length, its last byte and the bytes between. -/
def symOk (l : List UInt8) : Bool := decide (2 ≤ l.length) && decide (l.length ≤ 22) && (l.getLast? == some 34) && (l.tail.dropLast.all isSyB)

/-- spec.TermKind. -/
def sKind : Nat → List UInt8 → Int
  | 0, _ => 0
  | f + 1, l =>
    if l = [] ∨ 200 < l.length then 0
    else if (numOf l).isSome then 1
    else if l.head? = some 34 then (if symOk l then 2 else 0)
    else if (sArgs l).2.2 && bigName (sArgs l).1 then (if (sArgs l).2.1.all (fun a => sKind f a != 0) then 3 else 0) else 0

/-- A byte that l01Args only goes along. -/
def isPlain (c : UInt8) : Bool := c != 34 && c != 40 && c != 41 && c != 44

theorem scan_plain : ∀ (l r : List UInt8) (d : Nat) (cur : List UInt8) (out : List (List UInt8)), (∀ c ∈ l, isPlain c = true) → scan (l ++ r) d false cur out = scan r d false (cur ++ l) out
  | [], r, d, cur, out, _ => by rw [List.nil_append, List.append_nil]
  | c :: l, r, d, cur, out, h => by
    have hc := h c (by simp)
    simp only [isPlain, Bool.and_eq_true, bne_iff_ne] at hc
    obtain ⟨⟨⟨h1, h2⟩, h3⟩, h4⟩ := hc
    rw [List.cons_append, scan, if_neg h1, if_neg (by simp), if_neg h2, if_neg h3, if_neg (fun h => h4 h.1), scan_plain l r d _ out (fun x hx => h x (by simp [hx]))]
    rw [List.append_assoc]; rfl
theorem scan_quoted : ∀ (l r : List UInt8) (d : Nat) (cur : List UInt8) (out : List (List UInt8)), (∀ c ∈ l, c ≠ 34) → scan (l ++ r) d true cur out = scan r d true (cur ++ l) out
  | [], r, d, cur, out, _ => by rw [List.nil_append, List.append_nil]
  | c :: l, r, d, cur, out, h => by
    rw [List.cons_append, scan, if_neg (h c (by simp)), if_pos rfl, scan_quoted l r d _ out (fun x hx => h x (by simp [hx]))]
    rw [List.append_assoc]; rfl

theorem plain_of_nam {c : UInt8} (h : isNam c = true) : isPlain c = true := by
  have hc := c.toNat_lt
  simp only [isPlain, Bool.and_eq_true, bne_iff_ne]
  refine ⟨⟨⟨?_, ?_⟩, ?_⟩, ?_⟩ <;> (rintro rfl; exact absurd h (by decide))
theorem plain_of_dig {c : UInt8} (h : isDig c = true) : isPlain c = true := plain_of_nam (by simp [isNam, h])

theorem scan_more : ∀ (as' : List Tm) (r : List UInt8) (d : Nat) (cur : List UInt8) (out : List (List UInt8)), 1 ≤ d →
    (∀ x ∈ as', ∀ (r : List UInt8) (d : Nat) (cur : List UInt8) (out : List (List UInt8)), 1 ≤ d → scan (x.text ++ r) d false cur out = scan r d false (cur ++ x.text) out) →
    scan (moreText as' ++ r) (d + 1) false cur out = scan r d false (cur ++ moreText as') out
  | [], r, d, cur, out, hd, _ => by
    rw [moreText, show ([41] : List UInt8) ++ r = 41 :: r from rfl, scan, if_neg (by decide), if_neg (by simp), if_neg (by decide), if_pos rfl, if_neg (by omega)]
    rfl
  | a :: as', r, d, cur, out, hd, h => by
    rw [moreText, List.cons_append, scan, if_neg (by decide), if_neg (by simp), if_neg (by decide), if_neg (by decide), if_neg (by omega), List.append_assoc, h a (by simp) _ _ _ _ (by omega),
      scan_more as' r d _ out hd (fun x hx => h x (by simp [hx]))]
    congr 1
    simp

theorem scan_text {t : Tm} (h : Wf t) : ∀ (r : List UInt8) (d : Nat) (cur : List UInt8) (out : List (List UInt8)), 1 ≤ d → scan (t.text ++ r) d false cur out = scan r d false (cur ++ t.text) out := by
  induction h with
  | num n h0 h1 =>
    intro r d cur out _
    rw [Tm.text]
    apply scan_plain
    obtain ⟨ds, _, _, a3, a4⟩ := itoa_shape h0 h1
    rcases a4 with ⟨_, b1, _⟩ | ⟨_, b1, _⟩
    · rw [b1]; exact fun c hc => plain_of_dig (a3 c hc)
    · rw [b1]
      intro c hc
      rcases List.mem_cons.1 hc with rfl | hc
      · rfl
      · exact plain_of_dig (a3 c hc)
  | sym b h hl =>
    intro r d cur out _
    have hb : ∀ c ∈ b, c ≠ 34 := fun c hc => by
      rintro rfl
      exact absurd (h 34 hc) (by decide)
    rw [Tm.text, List.cons_append, scan, if_pos rfl, Bool.not_false, List.append_assoc, scan_quoted b _ _ _ _ hb, show ([34] : List UInt8) ++ r = 34 :: r from rfl, scan, if_pos rfl, Bool.not_true]
    congr 1
    simp
  | con name args h ha ih =>
    intro r d cur out hd
    obtain ⟨_, _, _, _, _, hall⟩ := bigName_cons h
    rw [Tm.text, List.append_assoc, scan_plain name _ _ _ _ (fun c hc => plain_of_nam (hall c hc))]
    cases args with
    | nil => rw [argText, List.nil_append, List.append_nil]
    | cons a as' =>
      rw [argText, List.cons_append, scan, if_neg (by decide), if_neg (by simp), if_pos rfl, List.append_assoc, ih a (by simp) _ _ _ _ (by omega), scan_more as' r d _ out hd (fun x hx => ih x (by simp [hx]))]
      congr 1
      simp

theorem scan_args : ∀ (as' : List Tm) (a : Tm) (r : List UInt8) (out : List (List UInt8)), (∀ x ∈ a :: as', Wf x) → scan (a.text ++ (moreText as' ++ r)) 1 false [] out = some (out ++ (a :: as').map Tm.text, r)
  | [], a, r, out, h => by
    rw [scan_text (h a (by simp)) _ _ _ _ (by omega), List.nil_append, moreText, show ([41] : List UInt8) ++ r = 41 :: r from rfl, scan, if_neg (by decide), if_neg (by simp), if_neg (by decide), if_pos rfl, if_pos rfl]
    rfl
  | b :: bs, a, r, out, h => by
    rw [scan_text (h a (by simp)) _ _ _ _ (by omega), List.nil_append, moreText, List.cons_append, scan, if_neg (by decide), if_neg (by simp), if_neg (by decide), if_neg (by decide), if_pos ⟨rfl, rfl⟩, List.append_assoc,
      scan_args bs b r _ (fun x hx => h x (by simp [List.mem_cons.1 hx]))]
    simp

/-- What is cut is put together again. -/
def glue : List (List UInt8) → List UInt8
  | [] => []
  | [a] => a
  | a :: b :: r => a ++ 44 :: glue (b :: r)

theorem scan_back : ∀ (l : List UInt8) (d : Nat) (q : Bool) (cur : List UInt8) (out args : List (List UInt8)) (r : List UInt8), scan l d q cur out = some (args, r) →
    ∃ args', args = out ++ args' ∧ args' ≠ [] ∧ cur ++ l = glue args' ++ 41 :: r
  | [], _, _, _, _, _, _, h => by simp [scan] at h
  | c :: l, d, q, cur, out, args, r, h => by
    have go : ∀ d' q', scan l d' q' (cur ++ [c]) out = some (args, r) → ∃ args', args = out ++ args' ∧ args' ≠ [] ∧ cur ++ c :: l = glue args' ++ 41 :: r := fun d' q' h' => by
      obtain ⟨args', h1, h2, h3⟩ := scan_back l d' q' (cur ++ [c]) out args r h'
      exact ⟨args', h1, h2, by simpa using h3⟩
    rw [scan] at h
    split at h
    · exact go _ _ h
    · split at h
      · exact go _ _ h
      · split at h
        · exact go _ _ h
        · split at h
          · rename_i h41
            split at h
            · simp only [Option.some.injEq, Prod.mk.injEq] at h
              obtain ⟨rfl, rfl⟩ := h
              exact ⟨[cur], rfl, by simp, by rw [h41]; rfl⟩
            · exact go _ _ h
          · split at h
            · rename_i h44
              obtain ⟨args', h1, h2, h3⟩ := scan_back l _ _ [] (out ++ [cur]) args r h
              refine ⟨cur :: args', by rw [h1]; simp, by simp, ?_⟩
              cases args' with
              | nil => exact absurd rfl h2
              | cons b bs =>
                rw [h44.1]
                show cur ++ 44 :: l = (cur ++ 44 :: glue (b :: bs)) ++ 41 :: r
                rw [List.nil_append] at h3
                rw [h3]; simp
            · exact go _ _ h

end Go.Proofs.YtcohjmbbanjjeaaGreatDoor

namespace Go.Proofs.YtcohjmbbanjjeaaGreatDoor
open Go

theorem glue_text : ∀ (as' : List Tm) (a : Tm), glue ((a :: as').map Tm.text) ++ [41] = a.text ++ moreText as'
  | [], a => by rw [moreText]; rfl
  | b :: bs, a => by
    have := glue_text bs b
    rw [moreText]
    show (a.text ++ 44 :: glue ((b :: bs).map Tm.text)) ++ [41] = _
    rw [List.append_assoc, List.cons_append, this]

theorem open_of_nam {c : UInt8} (h : isNam c = true) : isOpen c = true := by
  simp only [isOpen, bne_iff_ne]
  rintro rfl
  exact absurd h (by decide)

theorem sArgs_con {name : List UInt8} {args : List Tm} (h : bigName name = true) (ha : ∀ a ∈ args, Wf a) : sArgs (Tm.con name args).text = (name, args.map Tm.text, true) := by
  obtain ⟨_, _, _, _, _, hall⟩ := bigName_cons h
  cases args with
  | nil =>
    have e : (Tm.con name []).text = name := by rw [Tm.text, argText, List.append_nil]
    have hx := takeWhile_app (r := []) (fun c hc => open_of_nam (hall c hc)) rfl rfl
    rw [List.append_nil] at hx
    rw [e]
    unfold sArgs
    rw [hx.2]
    rfl
  | cons a as' =>
    have e : (Tm.con name (a :: as')).text = name ++ 40 :: (a.text ++ moreText as') := by rw [Tm.text, argText]
    have hx := takeWhile_app (P := isOpen) (r := 40 :: (a.text ++ moreText as')) (fun c hc => open_of_nam (hall c hc)) (by simp [show isOpen 40 = false from rfl]) (by simp [show isOpen 40 = false from rfl])
    have hs := scan_args as' a [] [] ha
    rw [List.append_nil] at hs
    rw [e]
    unfold sArgs
    rw [hx.2]
    simp only
    rw [hs, hx.1]
    rfl

theorem numOf_other {t : Tm} (h : Wf t) (hl : t.text.length ≤ 200) (hk : t.kind ≠ 1) : numOf t.text = none := by
  cases hm : numOf t.text with
  | none => rfl
  | some m =>
    have := rdAll_num.2 hm
    rw [rdAll_text h hl] at this
    obtain rfl := Option.some.inj this
    exact absurd rfl hk

theorem symOk_text {b : List UInt8} (h : ∀ c ∈ b, isSyB c = true) (hl : b.length ≤ 20) : symOk (34 :: (b ++ [34])) = true := by
  simp only [symOk, List.length_cons, List.length_append, List.length_nil, Bool.and_eq_true, decide_eq_true_eq, List.tail_cons, List.all_eq_true]
  refine ⟨⟨⟨by omega, by omega⟩, ?_⟩, ?_⟩
  · rw [← List.cons_append, List.getLast?_append]; rfl
  · rw [List.dropLast_concat]; exact h
theorem symOk_back {r : List UInt8} (h : symOk (34 :: r) = true) : ∃ b, r = b ++ [34] ∧ (∀ c ∈ b, isSyB c = true) ∧ b.length ≤ 20 := by
  simp only [symOk, List.length_cons, Bool.and_eq_true, decide_eq_true_eq, List.tail_cons, List.all_eq_true, beq_iff_eq] at h
  obtain ⟨⟨⟨h1, h2⟩, h3⟩, h4⟩ := h
  have hr : r ≠ [] := by rintro rfl; simp at h1
  rw [List.getLast?_cons_of_ne_nil hr, List.getLast?_eq_some_getLast hr] at h3
  have h5 := List.dropLast_concat_getLast hr
  rw [Option.some.inj h3] at h5
  refine ⟨r.dropLast, h5.symm, h4, ?_⟩
  rw [List.length_dropLast]; omega

theorem sub_len {a : Tm} {args : List Tm} {name : List UInt8} (h : a ∈ args) : a.text.length < (Tm.con name args).text.length := by
  have key : ∀ (as' : List Tm) (b : Tm), a ∈ b :: as' → a.text.length < (b.text ++ moreText as').length := by
    intro as'
    induction as' with
    | nil =>
      intro b hb
      obtain rfl : a = b := by simpa using hb
      rw [moreText]; simp
    | cons c cs ih =>
      intro b hb
      rcases List.mem_cons.1 hb with rfl | hb
      · have := moreText_pos (c :: cs)
        rw [List.length_append]; omega
      · have := ih c hb
        rw [moreText, List.length_append, List.length_cons]; omega
  cases args with
  | nil => cases h
  | cons b bs =>
    have := key bs b h
    rw [Tm.text, argText, List.length_append, List.length_cons]
    omega

theorem kind_pos (t : Tm) : t.kind ≠ 0 := by cases t <;> simp [Tm.kind]

theorem sKind_text : ∀ (f : Nat) (t : Tm), Wf t → t.text.length ≤ 200 → t.text.length < f → sKind f t.text = t.kind := by
  intro f
  induction f with
  | zero => intro t _ _ hf; omega
  | succ f ih =>
    intro t ht hl hf
    have hne : t.text ≠ [] := by
      cases ht with
      | num n h0 h1 => rw [Tm.text]; exact itoa_ne_nil n
      | sym b h hl => rw [Tm.text]; simp
      | con name args h ha =>
        obtain ⟨c, r, rfl, _⟩ := bigName_cons h
        rw [Tm.text]; simp
    rw [sKind, if_neg (fun h => h.elim hne (by omega))]
    cases ht with
    | num n h0 h1 =>
      have : numOf (Tm.num n).text = some n := by rw [Tm.text]; exact numOf_iff.2 ⟨h0, h1, rfl⟩
      rw [this]; rfl
    | sym b h hl' =>
      rw [numOf_other (.sym b h hl') hl (by simp [Tm.kind])]
      have e : (Tm.sym b).text = 34 :: (b ++ [34]) := by rw [Tm.text]
      rw [e]
      simp only [Option.isSome_none, Bool.false_eq_true, if_false, List.head?_cons, if_true]
      rw [symOk_text h hl']; rfl
    | con name args h ha =>
      rw [numOf_other (.con name args h ha) hl (by simp [Tm.kind])]
      obtain ⟨c, r, hcr, hbig, _, _⟩ := bigName_cons h
      have hh : (Tm.con name args).text.head? = some c := by rw [Tm.text, hcr]; rfl
      have h34 : c ≠ 34 := by rintro rfl; exact absurd hbig (by decide)
      rw [hh]
      simp only [Option.isSome_none, Bool.false_eq_true, if_false, Option.some.injEq, h34]
      rw [sArgs_con h ha]
      simp only [h, Bool.and_self, if_true]
      rw [if_pos]
      · rfl
      · rw [List.all_map, List.all_eq_true]
        intro a haa
        have hlt := sub_len (name := name) haa
        have := ih a (ha a haa) (by omega) (by omega)
        simp only [Function.comp, this, bne_iff_ne]
        exact kind_pos a

theorem texts_back {f : Nat} (ih : ∀ l, sKind f l ≠ 0 → ∃ t, Wf t ∧ t.text = l) : ∀ (args : List (List UInt8)), (∀ a ∈ args, sKind f a ≠ 0) → ∃ ts : List Tm, (∀ t ∈ ts, Wf t) ∧ ts.map Tm.text = args
  | [], _ => ⟨[], by simp, rfl⟩
  | a :: r, h => by
    obtain ⟨t, h1, h2⟩ := ih a (h a (by simp))
    obtain ⟨ts, h3, h4⟩ := texts_back ih r (fun x hx => h x (by simp [hx]))
    exact ⟨t :: ts, fun x hx => (List.mem_cons.1 hx).elim (fun e => e ▸ h1) (h3 x), by simp [h2, h4]⟩

theorem sKind_back : ∀ (f : Nat) (l : List UInt8), sKind f l ≠ 0 → ∃ t, Wf t ∧ t.text = l := by
  intro f
  induction f with
  | zero => intro l h; exact absurd rfl h
  | succ f ih =>
    intro l h
    rw [sKind] at h
    split at h
    · exact absurd rfl h
    · split at h
      · rename_i hn
        obtain ⟨n, hn⟩ := Option.isSome_iff_exists.1 hn
        obtain ⟨h0, h1, hi⟩ := numOf_iff.1 hn
        exact ⟨.num n, .num n h0 h1, by rw [Tm.text]; exact hi⟩
      · split at h
        · rename_i hh
          split at h
          · rename_i hs
            cases l with
            | nil => cases hh
            | cons c r =>
              obtain rfl : c = 34 := by simpa using hh
              obtain ⟨b, rfl, h1, h2⟩ := symOk_back hs
              exact ⟨.sym b, .sym b h1 h2, by rw [Tm.text]⟩
          · exact absurd rfl h
        · split at h
          · rename_i hc
            split at h
            · rename_i hall
              rw [Bool.and_eq_true] at hc
              obtain ⟨hok, hbn⟩ := hc
              have hall' : ∀ a ∈ (sArgs l).2.1, sKind f a ≠ 0 := fun a ha => by
                have := List.all_eq_true.1 hall a ha
                simpa using this
              obtain ⟨ts, h1, h2⟩ := texts_back ih _ hall'
              have hsplit := (List.takeWhile_append_dropWhile (p := isOpen) (l := l)).symm
              cases hd : l.dropWhile isOpen with
              | nil =>
                have e : sArgs l = (l, [], true) := by unfold sArgs; rw [hd]
                rw [e] at hbn
                exact ⟨.con l [], .con l [] hbn (by simp), by rw [Tm.text, argText, List.append_nil]⟩
              | cons c r =>
                have hc40 : c = 40 := by
                  have : isOpen c = false := by
                    have := List.head?_dropWhile_not isOpen l
                    rw [hd] at this
                    simpa using this
                  simpa [isOpen] using this
                cases hsc : scan r 1 false [] [] with
                | none =>
                  have e : sArgs l = ([], [], false) := by unfold sArgs; rw [hd]; simp only; rw [hsc]
                  rw [e] at hok
                  cases hok
                | some x =>
                  obtain ⟨args, rest⟩ := x
                  have e : sArgs l = (l.takeWhile isOpen, args, rest.isEmpty) := by unfold sArgs; rw [hd]; simp only; rw [hsc]
                  rw [e] at hok hbn h2
                  obtain ⟨args', h3, h4, h5⟩ := scan_back _ _ _ _ _ _ _ hsc
                  have hr : rest = [] := by simpa using hok
                  rw [List.nil_append] at h3 h5
                  subst h3
                  rw [hr] at h5
                  cases ts with
                  | nil => exact absurd h2.symm h4
                  | cons a as' =>
                    refine ⟨.con (l.takeWhile isOpen) (a :: as'), .con _ _ hbn h1, ?_⟩
                    rw [Tm.text, argText, ← glue_text as' a, h2, ← h5, ← hc40, ← hd]
                    exact hsplit.symm
            · exact absurd rfl h
          · exact absurd rfl h

/-- The two kinds are one. -/
theorem sKind_eq (f : Nat) (l : List UInt8) (hf : l.length < f) : sKind f l = iKind l := by
  unfold iKind
  cases hr : rdAll l with
  | some t =>
    obtain ⟨h1, h2, h3⟩ := rdAll_sound hr
    subst h2
    exact sKind_text f t h1 h3 hf
  | none =>
    by_cases h : sKind f l = 0
    · exact h
    · have hl : l.length ≤ 200 := by
        cases f with
        | zero => omega
        | succ f =>
          rcases Nat.lt_or_ge 200 l.length with h' | h'
          · exact absurd (by rw [sKind, if_pos (.inr h')]) h
          · exact h'
      obtain ⟨t, h1, rfl⟩ := sKind_back f l h
      rw [rdAll_text h1 hl] at hr
      cases hr

end Go.Proofs.YtcohjmbbanjjeaaGreatDoor

namespace Go.Proofs.YtcohjmbbanjjeaaGreatDoor
open Go Go.RowKit

def AllRel (P : UInt8 → Bool) (s : ByteArray) (w : World) (v : Value) (wr : World) : Prop :=
  ∃ r : Nat, w = wr ∧ v = .int .i64 (r : Int) ∧ r ≤ s.size ∧ ∀ j (h : j < (lst s).length), j < r → P (lst s)[j] = true

set_option maxRecDepth 100000 in
set_option maxHeartbeats 1000000 in
theorem l01Name_any (s : ByteArray) (hs : s.size ≤ 1048576) (w : World) :
    Calls Tryz.prog 45 #[.string s, .bool true] w fun e w' => e = .returned (.bool (bigName (lst s))) ∧ w = w' := by
  have hl := lst_len s
  by_cases h20 : 1 ≤ s.size ∧ s.size ≤ 20
  · have hb : bet (s.size : Int) 1 20 = true := bet_in (by omega) (by omega)
    have hp : 0 < s.size := by omega
    have e : bigName (lst s) = (isBig s[0] && (lst s).all isNam) := by
      obtain ⟨c, r, hcr⟩ : ∃ c r, lst s = c :: r := List.exists_cons_of_length_pos (by omega)
      have hc : s[0] = c := by
        have h1 : (lst s)[0]? = some s[0] := List.getElem?_eq_getElem (by omega)
        rw [hcr] at h1
        simpa using h1.symm
      have hd : decide ((c :: r).length ≤ 20) = true := decide_eq_true (by rw [← hcr]; omega)
      rw [hc, hcr]
      simp only [bigName, hd, Bool.true_and]
    cases hbig : isBig s[0]
    · rw [e, hbig]
      have hb2 : inB 65 90 s[0] = false := hbig
      clear e hl h20
      go_enter Tryz.func45, Tryz.ntmps45
      go_wp2_with (first | (go_at_call 16; refine (between_any _ _ _ _).mono ?_; rintro e w' ⟨rfl, rfl⟩) | (go_at_call 58; refine (l01Big_any s[0] _).mono ?_; rintro e w' ⟨rfl, rfl⟩))
      go_ret
      exact ⟨rfl, rfl⟩
    · rw [e, hbig, Bool.true_and]
      have hb2 : inB 65 90 s[0] = true := hbig
      clear e h20
      go_enter Tryz.func45, Tryz.ntmps45
      go_wp2_with (first | (go_at_call 16; refine (between_any _ _ _ _).mono ?_; rintro e w' ⟨rfl, rfl⟩) | (go_at_call 58; refine (l01Big_any s[0] _).mono ?_; rintro e w' ⟨rfl, rfl⟩))
      go_loopw [5] (fun v wr => AllRel isNam s w v wr) (fun v _ => (s.size - (intOf v).toNat))
      case atStart => exact ⟨0, rfl, rfl, Nat.zero_le _, fun j h a => by omega⟩
      case round =>
        obtain ⟨r, rfl, rfl, hr, hall⟩ := hrel
        have HALL := Lib.hid hall
        clear hall
        by_cases hlt : r < s.size
        · cases hd : isNam s[r]
          · have hF : (lst s).all isNam = false := by
              cases hx : (lst s).all isNam with
              | false => rfl
              | true =>
                have := List.all_eq_true.1 hx ((lst s)[r]'(by omega)) (List.getElem_mem _)
                rw [show (lst s)[r]'(by omega) = s[r] from rfl, hd] at this
                cases this
            have HF := Lib.hid hF
            clear hF
            go_wp2_with (go_at_call 60; refine (l01Letter_any s[r] _).mono ?_; rintro e w' ⟨rfl, rfl⟩)
            go_ret
            rw [HF.out]
            exact ⟨rfl, rfl⟩
          · have hd2 : ∀ j (h : j < (lst s).length), j < r + 1 → isNam (lst s)[j] = true := fun j h b => by
              by_cases hj : j < r
              · exact HALL.out j h hj
              · obtain rfl : j = r := by omega
                exact hd
            have HD2 := Lib.hid hd2
            clear hd2
            go_wp2_with (go_at_call 60; refine (l01Letter_any s[r] _).mono ?_; rintro e w' ⟨rfl, rfl⟩)
            go_roundw
            case rel => exact ⟨r + 1, rfl, by go_num, by omega, HD2.out⟩
            case measure => simp [intOf]; omega
        · have hlt2 : decide ((r : Int) < (s.size : Int)) = false := decide_eq_false (by omega)
          have hT : (lst s).all isNam = true := by
            rw [List.all_eq_true]
            intro c hc
            obtain ⟨j, hj, rfl⟩ := List.getElem_of_mem hc
            exact HALL.out j hj (by omega)
          have HT := Lib.hid hT
          clear hT
          go_wp2
          go_ret
          rw [HT.out]
          exact ⟨rfl, rfl⟩
  · have hb : bet (s.size : Int) 1 20 = false := by
      by_cases h : 1 ≤ s.size
      · exact bet_hi (by omega)
      · exact bet_lo (by omega)
    have e : bigName (lst s) = false := by
      cases hx : bigName (lst s) with
      | false => rfl
      | true =>
        obtain ⟨c, r, h1, _, h3, _⟩ := bigName_cons hx
        have h4 : 1 ≤ (lst s).length := by rw [h1]; simp
        omega
    rw [e]
    clear e hl h20
    go_enter Tryz.func45, Tryz.ntmps45
    go_wp2_with (go_at_call 16; refine (between_any _ _ _ _).mono ?_; rintro e w' ⟨rfl, rfl⟩)
    go_ret
    exact ⟨rfl, rfl⟩

end Go.Proofs.YtcohjmbbanjjeaaGreatDoor
