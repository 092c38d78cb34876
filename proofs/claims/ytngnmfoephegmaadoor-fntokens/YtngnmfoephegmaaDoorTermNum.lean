/-
  THE WALKS: impl.TermNum, spec.TermNum; laws.FnExactTermNum answers true.
-/
import Derived.Test.YtngnmfoephegmaaDoorSpecNum
import Derived.Test.YtngnmfoephegmaaDoorLaid5
namespace Go.Proofs.YtngnmfoephegmaaDoor
open Go Go.RowKit Go.Maps Go.WideMaps

theorem takeWhile_all {P : UInt8 → Bool} : ∀ {l : List UInt8}, (∀ c ∈ l, P c = true) → l.takeWhile P = l
  | [], _ => rfl
  | c :: r, h => by rw [List.takeWhile_cons, h c (by simp)]; simp only [if_true]; rw [takeWhile_all (fun x hx => h x (by simp [hx]))]

theorem numLen_all {l : List UInt8} (h : (∃ d, l = 45 :: d ∧ ∀ c ∈ d, isDig c = true) ∨ ((∀ c ∈ l, isDig c = true))) : numLen l = l.length := by
  rcases h with ⟨d, rfl, hd⟩ | hd
  · simp only [numLen, if_true, List.length_cons]
    rw [takeWhile_all hd]; omega
  · cases l with
    | nil => rfl
    | cons c r =>
      have hc := hd c (by simp)
      have : ¬ c = 45 := by rintro rfl; exact absurd hc (by decide)
      simp only [numLen, this, if_false]
      rw [takeWhile_all hd]

theorem rdNum_itoa {l : List UInt8} {n : Int} (h : numOf l = some n) : rdNum l = some (n, []) ∧ l.length ≤ 8 ∧ ∃ c r, l = c :: r ∧ c ≠ 34 ∧ isBig c = false := by
  obtain ⟨h0, h1, hi⟩ := numOf_iff.1 h
  obtain ⟨ds, a1, a2, a3, a4⟩ := itoa_shape h0 h1
  have hn : numLen l = l.length := by
    apply numLen_all
    rcases a4 with ⟨_, b1, _⟩ | ⟨_, b1, _⟩
    · right; rw [← hi, b1]; exact a3
    · left; exact ⟨ds, by rw [← hi, b1], a3⟩
  refine ⟨?_, ?_, ?_⟩
  · unfold rdNum
    rw [hn, List.take_length, List.drop_length, h]; rfl
  · rcases a4 with ⟨_, b1, _⟩ | ⟨_, b1, _⟩
    · rw [← hi, b1]; omega
    · rw [← hi, b1, List.length_cons]; omega
  · rcases a4 with ⟨_, b1, _⟩ | ⟨_, b1, _⟩
    · cases hds : ds with
      | nil => exact absurd hds a1
      | cons c r =>
        have hc := a3 c (by rw [hds]; simp)
        simp only [isDig, Bool.and_eq_true, decide_eq_true_eq] at hc
        refine ⟨c, r, by rw [← hi, b1, hds], ?_, ?_⟩
        · rintro rfl; exact absurd hc (by decide)
        · simp [isBig]; omega
    · exact ⟨45, ds, by rw [← hi, b1], by decide, by decide⟩

theorem rdAll_of {l : List UInt8} {t : Tm} (h : rdAll l = some t) : l.length ≤ 200 ∧ rdTerm 500 l = some (t, []) := by
  unfold rdAll at h
  split at h
  · cases h
  · refine ⟨by omega, ?_⟩
    split at h
    · cases h
    · rename_i x hx
      split at h
      · rename_i h2
        obtain rfl : x.1 = t := by simpa using h
        rw [hx, ← h2]
      · cases h
theorem rdAll_mk {l : List UInt8} {t : Tm} (hl : l.length ≤ 200) (h : rdTerm 500 l = some (t, [])) : rdAll l = some t := by
  unfold rdAll
  rw [if_neg (by omega), h]
  simp

theorem rdCon_con : ∀ (f : Nat) (name l : List UInt8) (x : Tm × List UInt8), rdCon f name l = some x → ∃ n ts, x.1 = .con n ts := by
  intro f name l x h
  unfold rdCon at h
  split at h
  · cases h
  · split at h
    · obtain rfl := Option.some.inj h; exact ⟨_, _, rfl⟩
    · split at h
      · split at h
        · cases h
        · rw [Option.map_eq_some_iff] at h
          obtain ⟨y, _, rfl⟩ := h
          exact ⟨_, _, rfl⟩
      · obtain rfl := Option.some.inj h; exact ⟨_, _, rfl⟩

theorem rdAll_num {l : List UInt8} {n : Int} : rdAll l = some (.num n) ↔ numOf l = some n := by
  constructor
  · intro h
    obtain ⟨_, h⟩ := rdAll_of h
    cases l with
    | nil => simp [rdTerm] at h
    | cons c r =>
      rw [rdTerm] at h
      split at h
      · rw [Option.map_eq_some_iff] at h
        obtain ⟨x, _, hx⟩ := h
        simp at hx
      · split at h
        · obtain ⟨_, _, hx⟩ := rdCon_con _ _ _ _ h
          simp at hx
        · rw [Option.map_eq_some_iff] at h
          obtain ⟨x, hx, he⟩ := h
          obtain ⟨m, rest⟩ := x
          simp only [Prod.mk.injEq, Tm.num.injEq] at he
          obtain ⟨rfl, rfl⟩ := he
          unfold rdNum at hx
          rw [Option.map_eq_some_iff] at hx
          obtain ⟨k, hk, he⟩ := hx
          simp only [Prod.mk.injEq] at he
          obtain ⟨rfl, hd⟩ := he
          have hle : (c :: r).length ≤ numLen (c :: r) := by simpa using hd
          rw [List.take_of_length_le hle] at hk
          exact hk
  · intro h
    obtain ⟨h1, h2, c, r, rfl, h3, h4⟩ := rdNum_itoa h
    apply rdAll_mk (by omega)
    rw [rdTerm, if_neg h3, h4]
    simp [h1]

/-- The answers of TermNum. -/
def numAns (l : List UInt8) : Ending := match numOf l with | none => .returned (.tuple #[.int .i64 0, .bool false]) | some n => .returned (.tuple #[.int .i64 n, .bool true])
theorem numAns_none {l : List UInt8} (h : numOf l = none) : numAns l = .returned (.tuple #[.int .i64 0, .bool false]) := by unfold numAns; rw [h]
theorem numAns_some {l : List UInt8} {n : Int} (h : numOf l = some n) : numAns l = .returned (.tuple #[.int .i64 n, .bool true]) := by unfold numAns; rw [h]

end Go.Proofs.YtngnmfoephegmaaDoor
