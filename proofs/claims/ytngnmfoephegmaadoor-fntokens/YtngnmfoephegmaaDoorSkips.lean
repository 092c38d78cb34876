/-
  THE WALKS over isBlank, blanksEnd, endBehind, digitsEnd, signEnd, nameKind.
-/
import Derived.Test.YtngnmfoephegmaaDoorScan
import Derived.Test.YtngnmfoephegmaaDoorSpans
import Derived.Test.YtngnmfoephegmaaDoorShelfB
namespace Go.Proofs.YtngnmfoephegmaaDoor
open Go Go.RowKit

set_option maxHeartbeats 400000 in
theorem isBlank_any (c : UInt8) (w : World) : Calls Tryd.prog 39 #[.int .u8 (c.toNat : Int)] w fun e w' => e = .returned (.bool (isBlk c)) ∧ w = w' := by
  have hc := c.toNat_lt
  generalize hb : isBlk c = b
  unfold isBlk at hb
  generalize c.toNat = n at *
  by_cases h1 : n = 32
  · subst h1
    obtain rfl : true = b := hb
    go_enter Tryd.func39, Tryd.ntmps39
    go_wp2
    go_ret
    exact ⟨rfl, rfl⟩
  · by_cases h2 : n = 9
    · subst h2
      obtain rfl : true = b := hb
      go_enter Tryd.func39, Tryd.ntmps39
      go_wp2
      go_ret
      exact ⟨rfl, rfl⟩
    · by_cases h3 : n = 10
      · subst h3
        obtain rfl : true = b := hb
        go_enter Tryd.func39, Tryd.ntmps39
        go_wp2
        go_ret
        exact ⟨rfl, rfl⟩
      · have e1 : ((n : Int) == 32) = false := by simp; omega
        have e2 : ((n : Int) == 9) = false := by simp; omega
        have e3 : ((n : Int) == 10) = false := by simp; omega
        have e4 : ((n : Int) == 13) = b := by
          rw [← hb, Bool.eq_iff_iff]
          simp [h1, h2, h3]
          omega
        clear hb
        go_enter Tryd.func39, Tryd.ntmps39
        go_wp2
        go_ret
        exact ⟨rfl, rfl⟩

theorem notB_no {b : Nat} {c : UInt8} (h : c.toNat = b) : notB b c = false := by simp [notB, h]
theorem notB_yes {b : Nat} {c : UInt8} (h : ¬ c.toNat = b) : notB b c = true := by simp [notB, h]

/-- Behind the first such byte, or the end. -/
def behind (b : Nat) (l : List UInt8) (p : Nat) : Nat := if stopAt (notB b) l p < l.length then stopAt (notB b) l p + 1 else l.length

theorem stopAt_upto {P : UInt8 → Bool} {l : List UInt8} {p r : Nat} (hpr : p ≤ r) (hr : r < l.length) (hall : ∀ j (h : j < l.length), p ≤ j → j < r → P l[j] = true) (hst : P l[r] = false) : stopAt P l p = r :=
  stopAt_eq hpr (by omega) hall (fun _ => hst)
theorem stopAt_full {P : UInt8 → Bool} {l : List UInt8} {p : Nat} (hp : p ≤ l.length) (hall : ∀ j (h : j < l.length), p ≤ j → P l[j] = true) : stopAt P l p = l.length :=
  stopAt_eq hp (Nat.le_refl _) (fun j h a _ => hall j h a) (fun h => by omega)
theorem stopAt_succ {P : UInt8 → Bool} {l : List UInt8} {p : Nat} (hp : p < l.length) (h : P l[p] = true) : stopAt P l p = stopAt P l (p + 1) := by
  unfold stopAt
  rw [List.drop_eq_getElem_cons hp, List.takeWhile_cons, if_pos h, List.length_cons]
  omega

def ScanRel1 (P : UInt8 → Bool) (s : ByteArray) (q : Nat) (w : World) (v : Value) (wr : World) : Prop :=
  ∃ r : Nat, w = wr ∧ v = .int .i64 (r : Int) ∧ q ≤ r ∧ r ≤ s.size ∧ ∀ j (h : j < (lst s).length), q ≤ j → j < r → P (lst s)[j] = true

set_option maxRecDepth 100000 in
set_option maxHeartbeats 1000000 in
theorem endBehind_any (s : ByteArray) (hs : s.size ≤ 1048576) (p : Nat) (hp : p ≤ s.size) (b : Nat) (hb : b < 256) (w : World) :
    Calls Tryd.prog 25 #[.string s, .int .i64 (p : Int), .int .u8 (b : Int)] w fun e w' => e = .returned (.int .i64 (behind b (lst s) p : Int)) ∧ w = w' := by
  have hl := Lib.hid (lst_len s)
  go_enter Tryd.func25, Tryd.ntmps25
  go_wp2
  go_loopw [1] (fun v wr => ScanRel1 (notB b) s p w v wr) (fun v _ => (s.size - (intOf v).toNat))
  case atStart => exact ⟨p, rfl, rfl, Nat.le_refl _, hp, fun j h a b => by omega⟩
  case round =>
    obtain ⟨r, rfl, rfl, hqr, hr, hall⟩ := hrel
    have HALL := Lib.hid hall
    clear hall
    by_cases hlt : r < s.size
    · have hx : IntKind.i64.wrap ((r : Int) + 1 - 1) = (r : Int) := by rw [IntWalk.i64_in _ (by omega)]; omega
      have hx2 : (r : Int) + 1 - 1 = (r : Int) := by omega
      by_cases hd : s[r].toNat = b
      · have HN : Hid (behind b (lst s) p = r + 1) := Lib.hid (by
          have hst : stopAt (notB b) (lst s) p = r := stopAt_upto hqr (by rw [hl.out]; exact hlt) HALL.out (notB_no hd)
          unfold behind
          rw [hst, if_pos (by rw [hl.out]; exact hlt)])
        have hd2 : ((s[r].toNat : Int) == (b : Int)) = true := by simp [hd]
        clear hd
        go_wp2
        go_ret
        rw [HN.out]
        exact ⟨by go_num, rfl⟩
      · have hd2 : ∀ j (h : j < (lst s).length), p ≤ j → j < r + 1 → notB b (lst s)[j] = true := fun j h a c => by
          by_cases hj : j < r
          · exact HALL.out j h a hj
          · obtain rfl : j = r := by omega
            exact notB_yes hd
        have HD2 := Lib.hid hd2
        have hd3 : ((s[r].toNat : Int) == (b : Int)) = false := by simp; omega
        clear hd2 hd
        go_wp2
        go_roundw
        case rel => exact ⟨r + 1, rfl, by go_num, by omega, by omega, HD2.out⟩
        case measure => simp [intOf]; omega
    · have HN : Hid (behind b (lst s) p = r) := Lib.hid (by
        have hst : stopAt (notB b) (lst s) p = (lst s).length := stopAt_full (by rw [hl.out]; omega) (fun j h a => HALL.out j h a (by rw [hl.out] at h; omega))
        unfold behind
        rw [hst, if_neg (by omega), hl.out]
        omega)
      have hlt2 : decide ((r : Int) < (s.size : Int)) = false := by simp; omega
      go_wp2
      go_ret
      rw [HN.out]
      exact ⟨rfl, rfl⟩

set_option maxRecDepth 100000 in
set_option maxHeartbeats 1000000 in
theorem digitsEnd_any (s : ByteArray) (hs : s.size ≤ 1048576) (p : Nat) (hp : p ≤ s.size) (w : World) :
    Calls Tryd.prog 22 #[.string s, .int .i64 (p : Int)] w fun e w' => e = .returned (.int .i64 (stopAt isDig (lst s) p : Int)) ∧ w = w' := by
  go_enter Tryd.func22, Tryd.ntmps22
  go_wp2
  go_loopw [1] (fun v wr => ScanRel isDig s p w v wr) (fun v _ => (s.size - (intOf v).toNat))
  case atStart => exact ⟨p, rfl, rfl, Nat.le_refl _, hp, fun j h a b => by omega⟩
  case round =>
    obtain ⟨r, rfl, rfl, hqr, hr, hall⟩ := hrel
    have HALL := Lib.hid hall
    clear hall
    by_cases hlt : r < s.size
    · by_cases hd : isDig s[r] = true
      · have hd2 : ∀ j (h : j < (lst s).length), p ≤ j → j < r + 1 → isDig (lst s)[j] = true := fun j h a b => by
          by_cases hj : j < r
          · exact HALL.out j h a hj
          · obtain rfl : j = r := by omega
            exact hd
        have HD2 := Lib.hid hd2
        clear hd2
        rw [isDig_inB] at hd
        go_wp2_with (go_at_call 17; refine (isDigit_any s[r] _).mono ?_; rintro e w' ⟨rfl, rfl⟩)
        go_roundw
        case rel => exact ⟨r + 1, rfl, by go_num, by omega, by omega, HD2.out⟩
        case measure => simp [intOf]; omega
      · have hd : isDig s[r] = false := by simpa using hd
        have HN := Lib.hid (stopAt_eq hqr (by rw [lst_len]; exact hr) HALL.out (fun _ => hd))
        rw [isDig_inB] at hd
        go_wp2_with (go_at_call 17; refine (isDigit_any s[r] _).mono ?_; rintro e w' ⟨rfl, rfl⟩)
        go_ret
        rw [HN.out]
        exact ⟨rfl, rfl⟩
    · have HN := Lib.hid (stopAt_eq hqr (by rw [lst_len]; exact hr) HALL.out (fun h => by rw [lst_len] at h; omega))
      have hlt2 : decide ((r : Int) < (s.size : Int)) = false := by simp; omega
      go_wp2
      go_ret
      rw [HN.out]
      exact ⟨rfl, rfl⟩

theorem hasPre_any (s p : ByteArray) (w : World) : Calls Tryd.prog 40 #[.string s, .string p] w fun e w' => e = .returned (.bool ((lst p).isPrefixOf (lst s))) ∧ w = w' :=
  (Tryd.strings_HasPrefix s p w).mono fun _ _ ⟨a, b⟩ => ⟨a, b.symm⟩

theorem com_pre (s : ByteArray) (r : Nat) (h : r < s.size) : ([47, 47] : List UInt8).isPrefixOf (lst (s.extract r s.size)) = isCom (lst s) r := by
  have hl := lst_len s
  rw [lst_extract, ← hl, List.take_of_length_le (by rw [List.length_drop]; omega)]
  unfold isCom
  rw [List.drop_eq_getElem_cons (by omega : r < (lst s).length), List.getElem?_eq_getElem (by omega : r < (lst s).length)]
  have e : ∀ c : UInt8, ((47 : UInt8) == c) = (c.toNat == 47) := fun c => by
    rw [Bool.eq_iff_iff]; simp only [beq_iff_eq]
    exact ⟨fun h => by rw [← h]; rfl, fun h => UInt8.toNat_inj.1 h.symm⟩
  rcases Nat.lt_or_ge (r + 1) (lst s).length with h2 | h2
  · rw [List.drop_eq_getElem_cons h2, List.getElem?_eq_getElem h2]
    simp [List.isPrefixOf, e]
  · rw [List.drop_eq_nil_of_le h2, List.getElem?_eq_none h2]
    simp [List.isPrefixOf]

def BlkRel (s : ByteArray) (p : Nat) (w : World) (v : Value) (wr : World) : Prop :=
  ∃ r : Nat, w = wr ∧ v = .int .i64 (r : Int) ∧ p ≤ r ∧ r ≤ s.size ∧ res (lst s) p = res (lst s) r

/-- What blanksEnd answers: the next place at which something stands. -/
def BlkPost (s : ByteArray) (p : Nat) (w : World) (e : Ending) (w' : World) : Prop :=
  ∃ r : Nat, w = w' ∧ e = .returned (.int .i64 (r : Int)) ∧ p ≤ r ∧ r ≤ s.size ∧ res (lst s) p = res (lst s) r ∧ ∀ h : r < (lst s).length, isBlk (lst s)[r] = false ∧ isCom (lst s) r = false

theorem res_behind {l : List UInt8} {a : Nat} (hc : isCom l a = true) : res l a = res l (behind 10 l a) ∧ a < behind 10 l a ∧ behind 10 l a ≤ l.length := by
  have h := com_lt hc
  unfold behind
  by_cases hs : stopAt (notB 10) l a < l.length
  · rw [if_pos hs]
    have := stop_nl (by omega) hs
    exact ⟨by rw [res_com hc, res_blk hs (by unfold isBlk; rw [this]; rfl)], by omega, by omega⟩
  · rw [if_neg hs]
    exact ⟨by rw [res_com hc, show stopAt (notB 10) l a = l.length from by omega], by omega, Nat.le_refl _⟩

set_option maxRecDepth 100000 in
set_option maxHeartbeats 1000000 in
theorem blanksEnd_any (s : ByteArray) (hs : s.size ≤ 1048576) (p : Nat) (hp : p ≤ s.size) (w : World) :
    Calls Tryd.prog 14 #[.string s, .int .i64 (p : Int)] w (BlkPost s p w) := by
  have hl := Lib.hid (lst_len s)
  go_enter Tryd.func14, Tryd.ntmps14
  go_wp2
  go_loopw [1] (fun v wr => BlkRel s p w v wr) (fun v _ => (s.size - (intOf v).toNat))
  case atStart => exact ⟨p, rfl, rfl, Nat.le_refl _, hp, rfl⟩
  case round =>
    obtain ⟨r, rfl, rfl, hqr, hr, hres⟩ := hrel
    have HRES := Lib.hid hres
    clear hres
    by_cases hlt : r < s.size
    · by_cases hd : isBlk s[r] = true
      · have HR : Hid (res (lst s) p = res (lst s) (r + 1)) := Lib.hid (HRES.out.trans (res_blk (by rw [hl.out]; exact hlt) hd))
        go_wp2_with (go_at_call 39; refine (isBlank_any s[r] _).mono ?_; rintro e w' ⟨rfl, rfl⟩)
        go_roundw
        case rel => exact ⟨r + 1, rfl, by go_num, by omega, by omega, HR.out⟩
        case measure => simp [intOf]; omega
      · have hd : isBlk s[r] = false := by simpa using hd
        have HP : Hid (∀ W, Calls Tryd.prog 40 #[.string (s.extract r s.size), .string ⟨#[47, 47]⟩] W fun e w' => e = .returned (.bool (isCom (lst s) r)) ∧ W = w') := Lib.hid (fun W => by
          have := hasPre_any (s.extract r s.size) ⟨#[47, 47]⟩ W
          rw [← com_pre s r hlt]
          exact this)
        by_cases hc : isCom (lst s) r = true
        · have hb := res_behind hc
          have HE := Lib.hid (fun W => endBehind_any s hs r hr 10 (by omega) W)
          generalize behind 10 (lst s) r = q at *
          obtain ⟨hb1, hb2, hb3⟩ := hb
          have HR : Hid (res (lst s) p = res (lst s) q) := Lib.hid (HRES.out.trans hb1)
          have hq : q ≤ s.size := by have := hl.out; omega
          clear hb1 hb3
          go_wp2_with (first
            | (go_at_call 39; refine (isBlank_any s[r] _).mono ?_; rintro e w' ⟨rfl, rfl⟩)
            | (go_at_call 40; refine (HP.out _).mono ?_; rintro e w' ⟨rfl, rfl⟩)
            | (go_at_call 25; refine (HE.out _).mono ?_; rintro e w' ⟨rfl, rfl⟩))
          go_roundw
          case rel => exact ⟨q, rfl, rfl, by omega, hq, HR.out⟩
          case measure => simp [intOf]; omega
        · have hc : isCom (lst s) r = false := by simpa using hc
          have P : BlkPost s p w (.returned (.int .i64 (r : Int))) w := ⟨r, rfl, rfl, hqr, hr, HRES.out, fun _ => ⟨hd, hc⟩⟩
          go_wp2_with (first
            | (go_at_call 39; refine (isBlank_any s[r] _).mono ?_; rintro e w' ⟨rfl, rfl⟩)
            | (go_at_call 40; refine (HP.out _).mono ?_; rintro e w' ⟨rfl, rfl⟩))
          go_ret
          exact P
    · have P : BlkPost s p w (.returned (.int .i64 (r : Int))) w := ⟨r, rfl, rfl, hqr, hr, HRES.out, fun h => by rw [hl.out] at h; omega⟩
      have hlt2 : decide ((r : Int) < (s.size : Int)) = false := by simp; omega
      go_wp2
      go_ret
      exact P

end Go.Proofs.YtngnmfoephegmaaDoor
