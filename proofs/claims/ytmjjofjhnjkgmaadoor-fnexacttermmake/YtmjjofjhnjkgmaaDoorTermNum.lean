/-
  THE WALKS: impl.TermNum, spec.TermNum; laws.FnExactTermNum answers true.
-/
import Derived.Test.YtmjjofjhnjkgmaaDoorSpecNum
import Derived.Test.YtmjjofjhnjkgmaaDoorLaid5
namespace Go.Proofs.YtmjjofjhnjkgmaaDoor
open Go Go.RowKit Go.Maps Go.WideMaps

theorem takeWhile_all {P : UInt8 → Bool} : ∀ {l : List UInt8}, (∀ c ∈ l, P c = true) → l.takeWhile P = l
  | [], _ => rfl
  | c :: r, h => by rw [List.takeWhile_cons, h c (by simp)]; simp only [if_true]; rw [takeWhile_all (fun x hx => h x (by simp [hx]))]

theorem numLen_all {l : List UInt8} (h : (∃ d, l = 45 :: d ∧ ∀ c ∈ d, isDig c = true) ∨ ((∀ c ∈ l, isDig c = true))) : numLen l = l.length := by
  rcases h with ⟨d, rfl, hd⟩ | hd
  · simp only [numLen, if_true, List.length_cons]
    rw [takeWhile_all hd]; omega
  · cases l with
    | nil => rfl
    | cons c r =>
      have hc := hd c (by simp)
      have : ¬ c = 45 := by rintro rfl; exact absurd hc (by decide)
      simp only [numLen, this, if_false]
      rw [takeWhile_all hd]

theorem rdNum_itoa {l : List UInt8} {n : Int} (h : numOf l = some n) : rdNum l = some (n, []) ∧ l.length ≤ 8 ∧ ∃ c r, l = c :: r ∧ c ≠ 34 ∧ isBig c = false := by
  obtain ⟨h0, h1, hi⟩ := numOf_iff.1 h
  obtain ⟨ds, a1, a2, a3, a4⟩ := itoa_shape h0 h1
  have hn : numLen l = l.length := by
    apply numLen_all
    rcases a4 with ⟨_, b1, _⟩ | ⟨_, b1, _⟩
    · right; rw [← hi, b1]; exact a3
    · left; exact ⟨ds, by rw [← hi, b1], a3⟩
  refine ⟨?_, ?_, ?_⟩
  · unfold rdNum
    rw [hn, List.take_length, List.drop_length, h]; rfl
  · rcases a4 with ⟨_, b1, _⟩ | ⟨_, b1, _⟩
    · rw [← hi, b1]; omega
    · rw [← hi, b1, List.length_cons]; omega
  · rcases a4 with ⟨_, b1, _⟩ | ⟨_, b1, _⟩
    · cases hds : ds with
      | nil => exact absurd hds a1
      | cons c r =>
        have hc := a3 c (by rw [hds]; simp)
        simp only [isDig, Bool.and_eq_true, decide_eq_true_eq] at hc
        refine ⟨c, r, by rw [← hi, b1, hds], ?_, ?_⟩
        · rintro rfl; exact absurd hc (by decide)
        · simp [isBig]; omega
    · exact ⟨45, ds, by rw [← hi, b1], by decide, by decide⟩

theorem rdAll_of {l : List UInt8} {t : Tm} (h : rdAll l = some t) : l.length ≤ 200 ∧ rdTerm 500 l = some (t, []) := by
  unfold rdAll at h
  split at h
  · cases h
  · refine ⟨by omega, ?_⟩
    split at h
    · cases h
    · rename_i x hx
      split at h
      · rename_i h2
        obtain rfl : x.1 = t := by simpa using h
        rw [hx, ← h2]
      · cases h
theorem rdAll_mk {l : List UInt8} {t : Tm} (hl : l.length ≤ 200) (h : rdTerm 500 l = some (t, [])) : rdAll l = some t := by
  unfold rdAll
  rw [if_neg (by omega), h]
  simp

theorem rdCon_con : ∀ (f : Nat) (name l : List UInt8) (x : Tm × List UInt8), rdCon f name l = some x → ∃ n ts, x.1 = .con n ts := by
  intro f name l x h
  unfold rdCon at h
  split at h
  · cases h
  · split at h
    · obtain rfl := Option.some.inj h; exact ⟨_, _, rfl⟩
    · split at h
      · split at h
        · cases h
        · rw [Option.map_eq_some_iff] at h
          obtain ⟨y, _, rfl⟩ := h
          exact ⟨_, _, rfl⟩
      · obtain rfl := Option.some.inj h; exact ⟨_, _, rfl⟩

theorem rdAll_num {l : List UInt8} {n : Int} : rdAll l = some (.num n) ↔ numOf l = some n := by
  constructor
  · intro h
    obtain ⟨_, h⟩ := rdAll_of h
    cases l with
    | nil => simp [rdTerm] at h
    | cons c r =>
      rw [rdTerm] at h
      split at h
      · rw [Option.map_eq_some_iff] at h
        obtain ⟨x, _, hx⟩ := h
        simp at hx
      · split at h
        · obtain ⟨_, _, hx⟩ := rdCon_con _ _ _ _ h
          simp at hx
        · rw [Option.map_eq_some_iff] at h
          obtain ⟨x, hx, he⟩ := h
          obtain ⟨m, rest⟩ := x
          simp only [Prod.mk.injEq, Tm.num.injEq] at he
          obtain ⟨rfl, rfl⟩ := he
          unfold rdNum at hx
          rw [Option.map_eq_some_iff] at hx
          obtain ⟨k, hk, he⟩ := hx
          simp only [Prod.mk.injEq] at he
          obtain ⟨rfl, hd⟩ := he
          have hle : (c :: r).length ≤ numLen (c :: r) := by simpa using hd
          rw [List.take_of_length_le hle] at hk
          exact hk
  · intro h
    obtain ⟨h1, h2, c, r, rfl, h3, h4⟩ := rdNum_itoa h
    apply rdAll_mk (by omega)
    rw [rdTerm, if_neg h3, h4]
    simp [h1]

/-- The answers of TermNum. -/
def numAns (l : List UInt8) : Ending := match numOf l with | none => .returned (.tuple #[.int .i64 0, .bool false]) | some n => .returned (.tuple #[.int .i64 n, .bool true])
theorem numAns_none {l : List UInt8} (h : numOf l = none) : numAns l = .returned (.tuple #[.int .i64 0, .bool false]) := by unfold numAns; rw [h]
theorem numAns_some {l : List UInt8} {n : Int} (h : numOf l = some n) : numAns l = .returned (.tuple #[.int .i64 n, .bool true]) := by unfold numAns; rw [h]

set_option maxRecDepth 100000 in
set_option maxHeartbeats 1000000 in
theorem specTermNum (s : ByteArray) (hlim : s.size ≤ 140737488351232) (w : World) :
    Calls Tryd.prog 37 #[.string s] w fun e w' => e = numAns (lst s) ∧ Below w.heap.size w w' := by
  go_enter Tryd.func37, Tryd.ntmps37
  go_wp2_with fail
  refine (l01Number_any s hlim _).mono ?_
  rintro e w1 ⟨n, ok, rfl, (⟨rfl, hn⟩ | ⟨rfl, hn⟩), hb⟩
  · have HN := Lib.hid (numAns_some hn)
    clear hn
    go_wp2
    go_ret2
    exact ⟨HN.out.symm, hb⟩
  · have HN := Lib.hid (numAns_none hn)
    clear hn
    go_wp2
    go_ret2
    exact ⟨HN.out.symm, hb⟩

set_option maxRecDepth 100000 in
set_option maxHeartbeats 1000000 in
theorem implTermNum (s : ByteArray) (hlim : s.size ≤ 140737488351232) (w : World) (hE : Env w.heap.size w) :
    Calls Tryd.prog 28 #[.string s] w fun e w' => e = numAns (lst s) ∧ Below w.heap.size w w' := by
  go_enter Tryd.func28, Tryd.ntmps28
  go_wp2_with fail
  refine (newTermStore_any _).mono ?_
  rintro e w1 ⟨b, rfl, hS1, hb1⟩
  have hE1 := hE.stays hb1
  go_wp2_with fail
  refine (read_any w.heap.size b [] [] s hlim 200 w1 hS1 hE1 (by simp) (by simp) (by omega) (by omega)).mono ?_
  rintro e w2 ⟨ns, cs, h1, h2, h3, h4, h5, h6, (⟨hr, rfl⟩ | ⟨t, i, hr, hat, rfl⟩)⟩
  · have HN := Lib.hid (numAns_none (l := lst s) (by
      cases hm : numOf (lst s) with
      | none => rfl
      | some m => rw [rdAll_num.2 hm] at hr; cases hr))
    have hb := hb1.trans h6.below
    clear hr h1 h2 h3 h4 h5 h6 hb1 hS1 hE1
    go_wp2
    go_ret2
    exact ⟨HN.out.symm, hb⟩
  · have hlt := hat.lt
    have hb := hb1.trans h6.below
    by_cases hk : t.kind = 1
    · obtain ⟨n, rfl⟩ : ∃ n, t = .num n := by
        cases t with
        | num n => exact ⟨n, rfl⟩
        | sym _ => cases hk
        | con _ _ => cases hk
      have hn : ns[i]? = some ⟨1, ⟨#[]⟩, n, 0⟩ := by cases hat with | num _ _ h => exact h
      obtain ⟨gn, capn, hN⟩ := h5.node hn
      have HN := Lib.hid (numAns_some (rdAll_num.1 hr))
      have x0 := hN.st
      have x1 : w2.cell? ⟨gn, i * 4, none⟩ = some (.int .i64 1) := hN.kind
      have x3 : w2.cell? ⟨gn, i * 4 + 2, none⟩ = some (.int .i64 n) := hN.num
      have x2 : i * 4 < 10000 := by omega
      clear hr h1 h2 h4 h5 h6 hb1 hS1 hE1 hat hn hk hN
      go_wp2
      go_ret2
      exact ⟨HN.out.symm, hb⟩
    · obtain ⟨nd, hn, hkd⟩ := hat.node
      obtain ⟨gn, capn, hN⟩ := h5.node hn
      have HN := Lib.hid (numAns_none (l := lst s) (by
        cases hm : numOf (lst s) with
        | none => rfl
        | some m =>
          rw [rdAll_num.2 hm] at hr
          obtain rfl := Option.some.inj hr
          exact absurd rfl hk))
      have x0 := hN.st
      have x1 := hN.kind
      have x2 : i * 4 < 10000 := by omega
      have x3 : ((nd.kind : Int) != 1) = true := by rw [bne_iff_ne, hkd]; exact hk
      clear hr h1 h2 h4 h5 h6 hb1 hS1 hE1 hat hn hk hN hkd
      go_wp2
      go_ret2
      exact ⟨HN.out.symm, hb⟩

set_option maxRecDepth 100000 in
set_option maxHeartbeats 1000000 in
theorem law_FnExactTermNum (s : ByteArray) (hlim : s.size ≤ 140737488351232) (w : World) (hE : Env w.heap.size w) :
    Calls Tryd.prog 11 #[.string s] w fun e w' => e = .returned (.bool true) ∧ Below w.heap.size w w' := by
  by_cases hbig : s.size ≤ 1048576
  · have hd : decide ((1048576 : Int) < (s.size : Int)) = false := decide_eq_false (by omega)
    have hd' : decide (1048576 < s.size) = false := decide_eq_false (by omega)
    obtain ⟨n, ok, hans⟩ : ∃ (n : Int) (ok : Bool), numAns (lst s) = .returned (.tuple #[.int .i64 n, .bool ok]) := by
      unfold numAns
      split
      · exact ⟨_, _, rfl⟩
      · exact ⟨_, _, rfl⟩
    have HANS := Lib.hid hans
    clear hans
    go_enter Tryd.func11, Tryd.ntmps11
    go_wp2_with fail
    refine (specTermNum s hlim _).mono ?_
    rintro e w1 ⟨rfl, hb1⟩
    have hE1 : Env w1.heap.size w1 := (hE.stays hb1).top
    rw [HANS.out]
    go_wp2_with fail
    refine (implTermNum s hlim _ hE1).mono ?_
    rintro e w2 ⟨rfl, hb2⟩
    rw [HANS.out]
    have hb := hb1.trans (hb2.mono hb1.size)
    clear hb1 hb2
    go_wp2
    go_ret
    exact ⟨rfl, hb⟩
  · have hd : decide ((1048576 : Int) < (s.size : Int)) = true := decide_eq_true (by omega)
    have hd' : decide (1048576 < s.size) = true := decide_eq_true (by omega)
    go_enter Tryd.func11, Tryd.ntmps11
    go_wp2
    go_ret
    exact ⟨rfl, Below.refl _ _⟩

end Go.Proofs.YtmjjofjhnjkgmaaDoor
