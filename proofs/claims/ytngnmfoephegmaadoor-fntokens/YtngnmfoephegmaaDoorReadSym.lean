/-
  THE WALKS over nameEnd, isBigName, (*termStore).readSymbol.
-/
import Derived.Test.YtngnmfoephegmaaDoorReadNum
namespace Go.Proofs.YtngnmfoephegmaaDoor
open Go Go.RowKit Go.Maps Go.WideMaps

/-- Behind the bytes of a kind that stand from p on. -/
def stopAt (P : UInt8 → Bool) (l : List UInt8) (p : Nat) : Nat := p + ((l.drop p).takeWhile P).length

theorem stopAt_eq {P : UInt8 → Bool} {l : List UInt8} {q r : Nat} (hqr : q ≤ r) (hr : r ≤ l.length) (hall : ∀ j (h : j < l.length), q ≤ j → j < r → P l[j] = true) (hstop : ∀ h : r < l.length, P l[r] = false) : stopAt P l q = r := by
  have := (scan_stop P l q r hqr hr hall hstop).1
  unfold stopAt
  rw [this, List.length_take, List.length_drop]
  omega
theorem takeWhile_take (P : UInt8 → Bool) (l : List UInt8) : l.takeWhile P = l.take (l.takeWhile P).length := by
  induction l with
  | nil => rfl
  | cons c l ih =>
    by_cases h : P c = true
    · simp only [List.takeWhile_cons, h, if_true, List.length_cons, List.take_succ_cons]; rw [← ih]
    · simp [h]
theorem dropWhile_drop (P : UInt8 → Bool) (l : List UInt8) : l.dropWhile P = l.drop (l.takeWhile P).length := by
  induction l with
  | nil => rfl
  | cons c l ih =>
    by_cases h : P c = true
    · simp only [List.takeWhile_cons, List.dropWhile_cons, h, if_true, List.length_cons, List.drop_succ_cons]; exact ih
    · simp [h]
theorem stopAt_take (P : UInt8 → Bool) (l : List UInt8) (p : Nat) : (l.drop p).takeWhile P = (l.drop p).take (stopAt P l p - p) := by
  unfold stopAt
  rw [show p + ((l.drop p).takeWhile P).length - p = ((l.drop p).takeWhile P).length from by omega]
  exact takeWhile_take P _
theorem stopAt_drop (P : UInt8 → Bool) (l : List UInt8) (p : Nat) : (l.drop p).dropWhile P = l.drop (stopAt P l p) := by
  unfold stopAt
  rw [dropWhile_drop, List.drop_drop]
theorem stopAt_le (P : UInt8 → Bool) (l : List UInt8) (p : Nat) (h : p ≤ l.length) : p ≤ stopAt P l p ∧ stopAt P l p ≤ l.length := by
  unfold stopAt
  have := congrArg List.length (takeWhile_take P (l.drop p))
  rw [List.length_take, List.length_drop] at this
  omega

def ScanRel (P : UInt8 → Bool) (s : ByteArray) (q : Nat) (w : World) (v : Value) (wr : World) : Prop :=
  ∃ r : Nat, w = wr ∧ v = .int .i64 (r : Int) ∧ q ≤ r ∧ r ≤ s.size ∧ ∀ j (h : j < (lst s).length), q ≤ j → j < r → P (lst s)[j] = true

set_option maxRecDepth 100000 in
set_option maxHeartbeats 1000000 in
theorem nameEnd_any (s : ByteArray) (hs : s.size ≤ 1048576) (p : Nat) (hp : p ≤ s.size) (w : World) :
    Calls Tryd.prog 20 #[.string s, .int .i64 (p : Int)] w fun e w' => e = .returned (.int .i64 (stopAt isNam (lst s) p : Int)) ∧ w = w' := by
  go_enter Tryd.func20, Tryd.ntmps20
  go_wp2
  go_loopw [1] (fun v wr => ScanRel isNam s p w v wr) (fun v _ => (s.size - (intOf v).toNat))
  case atStart => exact ⟨p, rfl, rfl, Nat.le_refl _, hp, fun j h a b => by omega⟩
  case round =>
    obtain ⟨r, rfl, rfl, hqr, hr, hall⟩ := hrel
    have HALL := Lib.hid hall
    clear hall
    by_cases hlt : r < s.size
    · by_cases hd : isNam s[r] = true
      · have hd2 : ∀ j (h : j < (lst s).length), p ≤ j → j < r + 1 → isNam (lst s)[j] = true := fun j h a b => by
          by_cases hj : j < r
          · exact HALL.out j h a hj
          · obtain rfl : j = r := by omega
            exact hd
        have HD2 := Lib.hid hd2
        clear hd2
        go_wp2_with (go_at_call 41; refine (isNameByte_any s[r] _).mono ?_; rintro e w' ⟨rfl, rfl⟩)
        go_roundw
        case rel => exact ⟨r + 1, rfl, by go_num, by omega, by omega, HD2.out⟩
        case measure => simp [intOf]; omega
      · have hd : isNam s[r] = false := by simpa using hd
        have HN := Lib.hid (stopAt_eq hqr (by rw [lst_len]; exact hr) HALL.out (fun _ => hd))
        go_wp2_with (go_at_call 41; refine (isNameByte_any s[r] _).mono ?_; rintro e w' ⟨rfl, rfl⟩)
        go_ret
        rw [HN.out]
        exact ⟨rfl, rfl⟩
    · have HN := Lib.hid (stopAt_eq hqr (by rw [lst_len]; exact hr) HALL.out (fun h => by rw [lst_len] at h; omega))
      have hlt2 : decide ((r : Int) < (s.size : Int)) = false := by simp; omega
      go_wp2
      go_ret
      rw [HN.out]
      exact ⟨rfl, rfl⟩

/-- isBigName. -/
def bigName (l : List UInt8) : Bool :=
  match l with
  | [] => false
  | c :: r => decide ((c :: r).length ≤ 20) && isBig c && (c :: r).all isNam

theorem stopAt_all (l : List UInt8) : (stopAt isNam l 0 == l.length) = l.all isNam := by
  unfold stopAt
  rw [List.drop_zero, Nat.zero_add]
  induction l with
  | nil => rfl
  | cons c l ih =>
    by_cases h : isNam c = true
    · simp only [List.takeWhile_cons, h, if_true, List.length_cons, List.all_cons, Bool.true_and]
      rw [← ih, Bool.eq_iff_iff]; simp
    · have h : isNam c = false := by simpa using h
      simp [h]

set_option maxRecDepth 100000 in
set_option maxHeartbeats 1000000 in
theorem isBigName_any (s : ByteArray) (hs : s.size ≤ 1048576) (w : World) :
    Calls Tryd.prog 60 #[.string s] w fun e w' => e = .returned (.bool (bigName (lst s))) ∧ w = w' := by
  have hl := lst_len s
  by_cases h0 : s.size = 0
  · have e : bigName (lst s) = false := by
      have : lst s = [] := List.length_eq_zero_iff.1 (by omega)
      rw [this]; rfl
    rw [e]
    have h1 : decide ((1 : Int) ≤ (s.size : Int)) = false := by simp; omega
    have h1' : decide (1 ≤ s.size) = false := decide_eq_false (by omega)
    clear h0 hl e
    go_enter Tryd.func60, Tryd.ntmps60
    go_wp2
    go_ret
    exact ⟨rfl, rfl⟩
  · have hp : 0 < s.size := by omega
    have e : bigName (lst s) = (decide (s.size ≤ 20) && isBig s[0] && (lst s).all isNam) := by
      obtain ⟨c, r, hcr⟩ : ∃ c r, lst s = c :: r := List.exists_cons_of_length_pos (by omega)
      have hc : s[0] = c := by
        have h1 : (lst s)[0]? = some s[0] := List.getElem?_eq_getElem (by omega)
        rw [hcr] at h1
        simpa using h1.symm
      rw [hc, hcr, ← hl, hcr]
      rfl
    rw [e]
    have h1 : decide ((1 : Int) ≤ (s.size : Int)) = true := by simp; omega
    have h1' : decide (1 ≤ s.size) = true := by simp; omega
    by_cases h2 : s.size ≤ 20
    · have h2d : decide (s.size ≤ 20) = true := by simpa using h2
      cases h3 : isBig s[0]
      · rw [h2d]
        have h3' : inB 65 90 s[0] = false := h3
        clear e hl
        go_enter Tryd.func60, Tryd.ntmps60
        go_wp2_with (go_at_call 15; refine (isBigLetter_any s[0] _).mono ?_; rintro e w' ⟨rfl, rfl⟩)
        go_ret
        exact ⟨rfl, rfl⟩
      · rw [h2d, ← stopAt_all, hl]
        have h3' : inB 65 90 s[0] = true := h3
        have hE : (((stopAt isNam (lst s) 0 : Nat) : Int) == (s.size : Int)) = (stopAt isNam (lst s) 0 == s.size) := by
          rw [Bool.eq_iff_iff]; simp; omega
        rw [← hE]
        clear e hl hE
        go_enter Tryd.func60, Tryd.ntmps60
        go_wp2_with (first | (go_at_call 15; refine (isBigLetter_any s[0] _).mono ?_; rintro e w' ⟨rfl, rfl⟩) | (go_at_call 20; refine (nameEnd_any s hs 0 (Nat.zero_le _) _).mono ?_; rintro e w' ⟨rfl, rfl⟩))
        go_ret
        exact ⟨rfl, rfl⟩
    · have h2d : decide (s.size ≤ 20) = false := by simpa using h2
      rw [h2d]
      have h2' : decide ((s.size : Int) ≤ 20) = false := by simp; omega
      clear e hl
      go_enter Tryd.func60, Tryd.ntmps60
      go_wp2
      go_ret
      exact ⟨rfl, rfl⟩

/-- What readSymbol answers. -/
def SymPost (base b : Nat) (ns : List Nd) (cs : List Cl) (s : ByteArray) (p : Nat) (w : World) (e : Ending) (w' : World) : Prop :=
  (rdSym ((lst s).drop (p + 1)) = none ∧ e = .returned (.tuple #[.int .i64 0, .int .i64 0, .bool false]) ∧ w = w') ∨
  (∃ (y : List UInt8) (q i : Nat) (ns' : List Nd), rdSym ((lst s).drop (p + 1)) = some (y, (lst s).drop q) ∧ p < q ∧ q ≤ s.size ∧ e = .returned (.tuple #[.int .i64 (i : Int), .int .i64 (q : Int), .bool true]) ∧
    ns'[i]? = some ⟨2, ⟨(34 :: y ++ [34]).toArray⟩, 0, 0⟩ ∧ Ext ns ns' ∧ ns'.length ≤ ns.length + 1 ∧ StoreAt w' base b ns' cs ∧ Fr base w w')

theorem rdSym_end {s : ByteArray} {p r : Nat} (hr : stopAt isSyB (lst s) (p + 1) = r) (h : ¬ r < s.size) : rdSym ((lst s).drop (p + 1)) = none := by
  unfold rdSym
  rw [stopAt_drop, hr, List.drop_eq_nil_of_le (by rw [lst_len]; omega)]
theorem rdSym_mid {s : ByteArray} {p r : Nat} (hr : stopAt isSyB (lst s) (p + 1) = r) (h : r < s.size) :
    rdSym ((lst s).drop (p + 1)) = if s[r] = 34 ∧ r - (p + 1) ≤ 20 then some (((lst s).drop (p + 1)).take (r - (p + 1)), (lst s).drop (r + 1)) else none := by
  have hl := lst_len s
  have hle : p + 1 ≤ r := by rw [← hr]; unfold stopAt; omega
  unfold rdSym
  rw [stopAt_drop, hr, List.drop_eq_getElem_cons (by omega : r < (lst s).length), stopAt_take, hr]
  simp only [List.length_take, List.length_drop]
  rw [show min (r - (p + 1)) ((lst s).length - (p + 1)) = r - (p + 1) from by omega]
  rfl
theorem sym_text {s : ByteArray} {p r : Nat} (hp : p < s.size) (hq : s[p] = 34) (hpr : p + 1 ≤ r) (h : r < s.size) (hr : s[r] = 34) :
    s.extract p (r + 1) = ⟨(34 :: ((lst s).drop (p + 1)).take (r - (p + 1)) ++ [34]).toArray⟩ := by
  have hl := lst_len s
  apply lst_inj
  rw [lst_extract]
  show _ = ((34 :: ((lst s).drop (p + 1)).take (r - (p + 1)) ++ [34]).toArray).toList
  rw [List.drop_eq_getElem_cons (by omega : p < (lst s).length), show r + 1 - p = (r - p) + 1 from by omega, List.take_succ_cons, show (lst s)[p]'(by omega) = 34 from hq, List.cons_append]
  congr 1
  rw [show r - p = (r - (p + 1)) + 1 from by omega, List.take_succ_eq_append_getElem (by rw [List.length_drop]; omega)]
  congr 1
  rw [List.getElem_drop]
  have e : p + 1 + (r - (p + 1)) = r := by omega
  simp only [e]
  rw [show (lst s)[r]'(by omega) = 34 from hr]

theorem sym_ok {t : ByteArray} (h : t.size ≤ 1000) : (⟨2, t, 0, 0⟩ : Nd).Ok :=
  ⟨by show (0 : Int) ≤ 2; omega, by show (2 : Int) ≤ 3; omega, h, by show (-1000000 : Int) ≤ 0; omega, by show (0 : Int) ≤ 1000000; omega, by show (0 : Nat) ≤ 1000000; omega⟩

set_option maxRecDepth 100000 in
set_option maxHeartbeats 1000000 in
theorem readSymbol_any {base b : Nat} {ns : List Nd} {cs : List Cl} (s : ByteArray) (hs : s.size ≤ 200) (p : Nat) (hp : p < s.size) (hq : s[p] = 34) (w : World) (hS : StoreAt w base b ns cs) (hB : base ≤ w.heap.size) (hlen : ns.length ≤ 1000000) :
    Calls Tryd.prog 54 #[.pointer (some ⟨b, 0, none⟩), .string s, .int .i64 (p : Int)] w (SymPost base b ns cs s p w) := by
  have HQ := Lib.hid hq
  clear hq
  go_enter Tryd.func54, Tryd.ntmps54
  go_wp2
  go_loopw [9] (fun v wr => ScanRel isSyB s (p + 1) w v wr) (fun v _ => (s.size - (intOf v).toNat))
  case atStart => exact ⟨p + 1, rfl, by go_num, Nat.le_refl _, hp, fun j h a b => by omega⟩
  case round =>
    obtain ⟨r, rfl, rfl, hqr, hr, hall⟩ := hrel
    have HALL := Lib.hid hall
    clear hall
    by_cases hlt : r < s.size
    · by_cases hd : isSyB s[r] = true
      · have hd2 : ∀ j (h : j < (lst s).length), p + 1 ≤ j → j < r + 1 → isSyB (lst s)[j] = true := fun j h a b => by
          by_cases hj : j < r
          · exact HALL.out j h a hj
          · obtain rfl : j = r := by omega
            exact hd
        have HD2 := Lib.hid hd2
        clear hd2
        go_wp2_with (go_at_call 58; refine (isSymbolByte_any s[r] _).mono ?_; rintro e w' ⟨rfl, rfl⟩)
        go_roundw
        case rel => exact ⟨r + 1, rfl, by go_num, by omega, by omega, HD2.out⟩
        case measure => simp [intOf]; omega
      · have hd : isSyB s[r] = false := by simpa using hd
        have HN := Lib.hid (rdSym_mid (stopAt_eq hqr (by rw [lst_len]; exact hr) HALL.out (fun _ => hd)) hlt)
        by_cases h34 : s[r] = 34
        · have hne : ((s[r].toNat : Int) != 34) = false := by rw [h34]; rfl
          by_cases h20 : r - (p + 1) ≤ 20
          · have htx := sym_text hp HQ.out hqr hlt h34
            rw [if_pos ⟨h34, h20⟩] at HN
            have HT := Lib.hid htx
            have hts : (s.extract p (r + 1)).size ≤ 1000 := by rw [← lst_len, lst_extract, List.length_take, List.length_drop, lst_len]; omega
            have h20' : decide ((20 : Int) < (r : Int) - (p : Int) - 1) = false := by simp; omega
            clear htx h34 HALL
            go_wp2_with (go_at_call 58; refine (isSymbolByte_any s[r] _).mono ?_; rintro e w' ⟨rfl, rfl⟩)
            refine (putNode_any ⟨2, s.extract p (r + 1), 0, 0⟩ (sym_ok hts) w hS hB hlen).mono ?_
            rintro e w3 ⟨i, ns', rfl, hi3, hor, hS3, hF3⟩
            rw [HT.out] at hi3
            have P : SymPost base b ns cs s p w (.returned (.tuple #[.int .i64 (i : Int), .int .i64 ((r : Int) + 1), .bool true])) w3 :=
              .inr ⟨_, r + 1, i, ns', HN.out, by omega, by omega, rfl, hi3, (ext_of_put hor).1, (ext_of_put hor).2, hS3, hF3⟩
            clear hi3 hor hS3 hF3
            go_wp2
            go_ret3
            exact P
          · have P : SymPost base b ns cs s p w (.returned (.tuple #[.int .i64 0, .int .i64 0, .bool false])) w := .inl ⟨by rw [HN.out, if_neg (fun h => h20 h.2)], rfl, rfl⟩
            have h20' : decide ((20 : Int) < (r : Int) - (p : Int) - 1) = true := by simp; omega
            clear h34
            go_wp2_with (go_at_call 58; refine (isSymbolByte_any s[r] _).mono ?_; rintro e w' ⟨rfl, rfl⟩)
            go_ret3
            exact P
        · have P : SymPost base b ns cs s p w (.returned (.tuple #[.int .i64 0, .int .i64 0, .bool false])) w := .inl ⟨by rw [HN.out, if_neg (fun h => h34 h.1)], rfl, rfl⟩
          have hne : ((s[r].toNat : Int) != 34) = true := by
            rw [bne_iff_ne]
            intro h
            apply h34
            apply UInt8.toNat_inj.1
            show s[r].toNat = 34
            omega
          clear h34
          go_wp2_with (go_at_call 58; refine (isSymbolByte_any s[r] _).mono ?_; rintro e w' ⟨rfl, rfl⟩)
          go_ret3
          exact P
    · have P : SymPost base b ns cs s p w (.returned (.tuple #[.int .i64 0, .int .i64 0, .bool false])) w := .inl ⟨rdSym_end (stopAt_eq hqr (by rw [lst_len]; exact hr) HALL.out (fun h => by rw [lst_len] at h; omega)) hlt, rfl, rfl⟩
      have hlt2 : decide ((r : Int) < (s.size : Int)) = false := by simp; omega
      have hge : decide ((s.size : Int) ≤ (r : Int)) = true := by simp; omega
      go_wp2
      go_ret3
      exact P

end Go.Proofs.YtngnmfoephegmaaDoor
