/-
  THE WALK over (*termStore).readNumber.
-/
import Derived.Test.YtngnmfoephegmaaDoorBytes
import Derived.Test.YtngnmfoephegmaaDoorNumTerm
import Derived.Test.YtngnmfoephegmaaDoorLists
import Derived.Deep.DeepCutAuto
import Derived.Lib.AtoiAllCases
namespace Go.Proofs.YtngnmfoephegmaaDoor
open Go Go.RowKit Go.Maps Go.WideMaps

def lst (s : ByteArray) : List UInt8 := s.data.toList
theorem lst_len (s : ByteArray) : (lst s).length = s.size := Array.length_toList
theorem lst_get (s : ByteArray) (j : Nat) (_h : j < s.size) (h' : j < (lst s).length) : (lst s)[j] = s[j] := rfl

/-- What readNumber answers. -/
def NumPost (base b : Nat) (ns : List Nd) (cs : List Cl) (s : ByteArray) (p : Nat) (w : World) (e : Ending) (w' : World) : Prop :=
  (rdNum ((lst s).drop p) = none ∧ e = .returned (.tuple #[.int .i64 0, .int .i64 0, .bool false]) ∧ StoreAt w' base b ns cs ∧ Fr base w w') ∨
  (∃ (n : Int) (q i : Nat) (ns' : List Nd), rdNum ((lst s).drop p) = some (n, (lst s).drop q) ∧ p ≤ q ∧ q ≤ s.size ∧ e = .returned (.tuple #[.int .i64 (i : Int), .int .i64 (q : Int), .bool true]) ∧
    ns'[i]? = some ⟨1, ⟨#[]⟩, n, 0⟩ ∧ Ext ns ns' ∧ ns'.length ≤ ns.length + 1 ∧ StoreAt w' base b ns' cs ∧ Fr base w w')

/-- Where the digits begin. -/
def NumStart (s : ByteArray) (p : Nat) (w : World) (v : Value) (wc : World) : Prop :=
  ∃ q : Nat, w = wc ∧ v = .int .i64 (q : Int) ∧ ((∃ h : p < s.size, s[p].toNat = 45 ∧ q = p + 1) ∨ (∃ h : p < s.size, ¬ s[p].toNat = 45 ∧ q = p))

/-- So far there are digits from q on. -/
def DigRel (s : ByteArray) (q : Nat) (w : World) (v : Value) (wr : World) : Prop :=
  ∃ r : Nat, w = wr ∧ v = .int .i64 (r : Int) ∧ q ≤ r ∧ r ≤ s.size ∧ ∀ j (h : j < (lst s).length), q ≤ j → j < r → isDig (lst s)[j] = true

theorem numLen_eq {s : ByteArray} {p q r : Nat} (hq : (∃ h : p < s.size, s[p].toNat = 45 ∧ q = p + 1) ∨ (∃ h : p < s.size, ¬ s[p].toNat = 45 ∧ q = p))
    (hqr : q ≤ r) (hr : r ≤ s.size) (hall : ∀ j (h : j < (lst s).length), q ≤ j → j < r → isDig (lst s)[j] = true) (hstop : ∀ h : r < (lst s).length, isDig (lst s)[r] = false) : numLen ((lst s).drop p) = r - p := by
  have hl := lst_len s
  have sc := scan_stop isDig (lst s) q r hqr (by omega) hall hstop
  rcases hq with ⟨h, hm, rfl⟩ | ⟨h, hm, rfl⟩
  · rw [List.drop_eq_getElem_cons (by omega : p < (lst s).length)]
    have e : (lst s)[p]'(by omega) = 45 := by
      apply UInt8.toNat_inj.1
      rw [lst_get s p h]; exact hm
    simp only [numLen, e, if_true]
    rw [sc.1, List.length_take, List.length_drop]
    omega
  · have e : ¬ (lst s)[q]'(by omega) = 45 := by
      intro e
      apply hm
      have := congrArg UInt8.toNat e
      rw [lst_get s q h] at this; exact this
    have : numLen ((lst s).drop q) = (((lst s).drop q).takeWhile isDig).length := by
      rw [List.drop_eq_getElem_cons (by omega : q < (lst s).length)]
      simp only [numLen, e, if_false]
    rw [this, sc.1, List.length_take, List.length_drop]
    omega

theorem num_ok {v : Int} (h : -1000000 ≤ v) (h' : v ≤ 1000000) : (⟨1, ⟨#[]⟩, v, 0⟩ : Nd).Ok :=
  ⟨by show (0 : Int) ≤ 1; omega, by show (1 : Int) ≤ 3; omega, by show (0 : Nat) ≤ 1000; omega, h, h', by show (0 : Nat) ≤ 1000000; omega⟩

theorem atoi_good (s : ByteArray) (hlim : s.size ≤ 1000) (v : Int) (h : Lib.atoiAll (lst s) = .ok v) (w : World) :
    Calls Tryd.prog 63 #[.string s] w fun e w' => e = .returned (.tuple #[.int .i64 v, .nilIface]) ∧ Below w.heap.size w w' :=
  (Tryd.strconv_Atoi_ok s (by omega) v h w).mono fun e w' ⟨he, hw⟩ => ⟨he, by
    rcases hw with rfl | ⟨t, rfl⟩
    · exact Below.refl _ _
    · exact Joins.below_bytesWorld _ _ _ _ (Nat.le_refl _)⟩

theorem lst_extract (s : ByteArray) (p r : Nat) : lst (s.extract p r) = ((lst s).drop p).take (r - p) := by
  simp [lst, ByteArray.data_extract, Array.toList_extract, List.extract]

theorem lst_inj {s t : ByteArray} (h : lst s = lst t) : s = t := by
  cases s; cases t
  simp only [lst] at h
  rw [Array.toList_inj.1 h]

theorem rdNum_of {s : ByteArray} {p r : Nat} (hN : numLen ((lst s).drop p) = r - p) (hpr : p ≤ r) : rdNum ((lst s).drop p) = (numOf (lst (s.extract p r))).map fun n => (n, (lst s).drop r) := by
  unfold rdNum
  rw [hN, lst_extract, List.drop_drop, show p + (r - p) = r from by omega]

set_option maxRecDepth 100000 in
set_option maxHeartbeats 1000000 in
theorem readNumber_any {base b : Nat} {ns : List Nd} {cs : List Cl} (s : ByteArray) (hs : s.size ≤ 200) (p : Nat) (hp : p < s.size) (w : World) (hS : StoreAt w base b ns cs) (hE : Env base w) (hlen : ns.length ≤ 1000000) :
    Calls Tryd.prog 56 #[.pointer (some ⟨b, 0, none⟩), .string s, .int .i64 (p : Int)] w (NumPost base b ns cs s p w) := by
  have hpl : p < (lst s).length := by rw [lst_len]; exact hp
  go_enter Tryd.func56, Tryd.ntmps56
  go_upto_if 17 with fail
  go_cut [9] (fun v wc => NumStart s p w v wc)
  case first =>
    by_cases hm : s[p].toNat = 45
    · have hm1 : ((s[p].toNat : Int) == 45) = true := by rw [beq_iff_eq]; omega
      have HM := Lib.hid hm
      clear hm
      go_wp2
      go_meet
      exact ⟨p + 1, rfl, by go_num, .inl ⟨hp, HM.out, rfl⟩⟩
    · have hm1 : ((s[p].toNat : Int) == 45) = false := beq_eq_false_iff_ne.2 (by omega)
      go_wp2
      go_meet
      exact ⟨p, rfl, rfl, .inr ⟨hp, hm, rfl⟩⟩
  case rest =>
    obtain ⟨q, rfl, rfl, hq⟩ := hcut
    have hql : q ≤ s.size := by rcases hq with ⟨_, _, rfl⟩ | ⟨_, _, rfl⟩ <;> omega
    have hpq : p ≤ q := by rcases hq with ⟨_, _, rfl⟩ | ⟨_, _, rfl⟩ <;> omega
    have HQ := Lib.hid hq
    clear hq
    go_wp2
    go_loopw [9] (fun v wr => DigRel s q w v wr) (fun v _ => (s.size - (intOf v).toNat))
    case atStart => exact ⟨q, rfl, rfl, Nat.le_refl _, hql, fun j h a b => by omega⟩
    case round =>
      obtain ⟨r, rfl, rfl, hqr, hr, hall⟩ := hrel
      have HALL := Lib.hid hall
      clear hall
      by_cases hlt : r < s.size
      · by_cases hd : inB 48 57 s[r] = true
        · have hd2 : ∀ j (h : j < (lst s).length), q ≤ j → j < r + 1 → isDig (lst s)[j] = true := fun j h a b => by
            by_cases hj : j < r
            · exact HALL.out j h a hj
            · obtain rfl : j = r := by omega
              exact hd
          have HD2 := Lib.hid hd2
          clear hd2
          go_wp2_with (go_at_call 17; refine (isDigit_any s[r] _).mono ?_; rintro e w' ⟨rfl, rfl⟩)
          go_roundw
          case rel => exact ⟨r + 1, rfl, by go_num, by omega, by omega, HD2.out⟩
          case measure => simp [intOf]; omega
        · have hd : inB 48 57 s[r] = false := by simpa using hd
          have HN := Lib.hid (numLen_eq HQ.out hqr hr HALL.out (fun _ => hd))
          go_wp2_with (go_at_call 17; refine (isDigit_any s[r] _).mono ?_; rintro e w' ⟨rfl, rfl⟩)
          have HR := Lib.hid (rdNum_of HN.out (by omega))
          have hts : (s.extract p r).size ≤ 1000 := by rw [← lst_len, lst_extract, List.length_take, List.length_drop, lst_len]; omega
          clear HN HALL
          generalize s.extract p r = t at *
          by_cases hok : ∃ v, Lib.atoiAll (lst t) = .ok v
          · obtain ⟨v, hv⟩ := hok
            have hb := Lib.atoiAll_bounds hv
            have HNO := Lib.hid (numOf_ok hv)
            refine (atoi_good t hts v hv _).mono ?_
            rintro e w1 ⟨rfl, hb1⟩
            have hE1 := hE.stays (hb1.mono hE.size)
            have HB := Lib.hid hb
            clear hv hb
            cases hin : inNum v
            · have P : NumPost base b ns cs s p w (.returned (.tuple #[.int .i64 0, .int .i64 0, .bool false])) w1 :=
                .inl ⟨by rw [HR.out, HNO.out, if_neg (fun h => by rw [inNum_true h.1 h.2.1] at hin; cases hin)]; rfl, rfl, hS.kept hb1, Fr.of_below hb1 hE.size⟩
              clear hb1
              go_wp2_with (go_at_call 64; refine (isNumber_any v _).mono ?_; rintro e w' ⟨rfl, rfl⟩)
              go_ret3
              exact P
            · have hin2 : -1000000 ≤ v ∧ v ≤ 1000000 := by simpa [inNum] using hin
              have hin3 := hin2.1
              have hin4 := hin2.2
              clear hin2
              by_cases heq : Lib.itoa v = lst t
              · obtain rfl : t = ⟨(Lib.itoa v).toArray⟩ := lst_inj (by rw [← heq]; simp [lst])
                have hnum : rdNum ((lst s).drop p) = some (v, (lst s).drop r) := by rw [HR.out, HNO.out, if_pos ⟨hin3, hin4, heq⟩]; rfl
                have HNUM := Lib.hid hnum
                clear hnum heq HR HNO
                go_wp2_with (go_at_call 64; refine (isNumber_any v _).mono ?_; rintro e w' ⟨rfl, rfl⟩)
                refine (implNumText v HB.out.1 HB.out.2 _ hE1.pow).mono ?_
                rintro e w2 ⟨rfl, hb2⟩
                have hb12 := hb1.trans (hb2.mono hb1.size)
                have hS2 := hS.kept hb12
                have hB2 : base ≤ w2.heap.size := Nat.le_trans hE.size hb12.size
                clear hb2 hb1
                go_wp2_with fail
                refine (putNode_any ⟨1, ⟨#[]⟩, v, 0⟩ (num_ok hin3 hin4) w2 hS2 hB2 hlen).mono ?_
                rintro e w3 ⟨i, ns', rfl, hi3, hor, hS3, hF3⟩
                have P : NumPost base b ns cs s p w (.returned (.tuple #[.int .i64 (i : Int), .int .i64 (r : Int), .bool true])) w3 :=
                  .inr ⟨v, r, i, ns', HNUM.out, by omega, hr, rfl, hi3, (ext_of_put hor).1, (ext_of_put hor).2, hS3, (Fr.of_below hb12 hE.size).trans hF3⟩
                clear hi3 hor hS3 hF3 hS2 hb12
                go_wp2
                go_ret3
                exact P
              · have P : ∀ w2, Below w1.heap.size w1 w2 → NumPost base b ns cs s p w (.returned (.tuple #[.int .i64 0, .int .i64 0, .bool false])) w2 := fun w2 hb2 =>
                  .inl ⟨by rw [HR.out, HNO.out, if_neg (fun h => heq h.2.2)]; rfl, rfl, (hS.kept hb1).kept hb2, Fr.of_below (hb1.trans (hb2.mono hb1.size)) hE.size⟩
                have hneq : (Lib.itoa v == t.toList) = false := by rw [ByteArray.toList_eq]; exact beq_eq_false_iff_ne.2 heq
                have HP := Lib.hid P
                clear P
                go_wp2_with fail
                refine (isNumber_any v _).mono ?_
                rintro e w' ⟨rfl, rfl⟩
                go_wp2_with fail
                refine (implNumText v HB.out.1 HB.out.2 _ hE1.pow).mono ?_
                rintro e w2 ⟨rfl, hb2⟩
                have P := HP.out w2 hb2
                clear hb2 HP
                go_wp2
                go_ret3
                exact P
          · have P : ∀ w2, Below w.heap.size w w2 → NumPost base b ns cs s p w (.returned (.tuple #[.int .i64 0, .int .i64 0, .bool false])) w2 := fun w2 hb2 =>
              .inl ⟨by rw [HR.out, numOf_bad (fun v hv => hok ⟨v, hv⟩)]; rfl, rfl, hS.kept hb2, Fr.of_below hb2 hE.size⟩
            refine (atoi_bad t hts (fun v hv => hok ⟨v, hv⟩) base _ hE).mono ?_
            rintro e w1 ⟨n, a, rfl, hb1⟩
            have P := P w1 hb1
            clear hb1 hok
            go_wp2
            go_ret3
            exact P
      · have HN := Lib.hid (numLen_eq HQ.out hqr hr HALL.out (fun h => by rw [lst_len] at h; omega))
        have hlt2 : decide ((r : Int) < (s.size : Int)) = false := by simp; omega
        go_wp2_with fail
        have HR := Lib.hid (rdNum_of HN.out (by omega))
        have hts : (s.extract p r).size ≤ 1000 := by rw [← lst_len, lst_extract, List.length_take, List.length_drop, lst_len]; omega
        clear HN HALL
        generalize s.extract p r = t at *
        by_cases hok : ∃ v, Lib.atoiAll (lst t) = .ok v
        · obtain ⟨v, hv⟩ := hok
          have hb := Lib.atoiAll_bounds hv
          have HNO := Lib.hid (numOf_ok hv)
          refine (atoi_good t hts v hv _).mono ?_
          rintro e w1 ⟨rfl, hb1⟩
          have hE1 := hE.stays (hb1.mono hE.size)
          have HB := Lib.hid hb
          clear hv hb
          cases hin : inNum v
          · have P : NumPost base b ns cs s p w (.returned (.tuple #[.int .i64 0, .int .i64 0, .bool false])) w1 :=
              .inl ⟨by rw [HR.out, HNO.out, if_neg (fun h => by rw [inNum_true h.1 h.2.1] at hin; cases hin)]; rfl, rfl, hS.kept hb1, Fr.of_below hb1 hE.size⟩
            clear hb1
            go_wp2_with (go_at_call 64; refine (isNumber_any v _).mono ?_; rintro e w' ⟨rfl, rfl⟩)
            go_ret3
            exact P
          · have hin2 : -1000000 ≤ v ∧ v ≤ 1000000 := by simpa [inNum] using hin
            have hin3 := hin2.1
            have hin4 := hin2.2
            clear hin2
            by_cases heq : Lib.itoa v = lst t
            · obtain rfl : t = ⟨(Lib.itoa v).toArray⟩ := lst_inj (by rw [← heq]; simp [lst])
              have hnum : rdNum ((lst s).drop p) = some (v, (lst s).drop r) := by rw [HR.out, HNO.out, if_pos ⟨hin3, hin4, heq⟩]; rfl
              have HNUM := Lib.hid hnum
              clear hnum heq HR HNO
              go_wp2_with (go_at_call 64; refine (isNumber_any v _).mono ?_; rintro e w' ⟨rfl, rfl⟩)
              refine (implNumText v HB.out.1 HB.out.2 _ hE1.pow).mono ?_
              rintro e w2 ⟨rfl, hb2⟩
              have hb12 := hb1.trans (hb2.mono hb1.size)
              have hS2 := hS.kept hb12
              have hB2 : base ≤ w2.heap.size := Nat.le_trans hE.size hb12.size
              clear hb2 hb1
              go_wp2_with fail
              refine (putNode_any ⟨1, ⟨#[]⟩, v, 0⟩ (num_ok hin3 hin4) w2 hS2 hB2 hlen).mono ?_
              rintro e w3 ⟨i, ns', rfl, hi3, hor, hS3, hF3⟩
              have P : NumPost base b ns cs s p w (.returned (.tuple #[.int .i64 (i : Int), .int .i64 (r : Int), .bool true])) w3 :=
                .inr ⟨v, r, i, ns', HNUM.out, by omega, hr, rfl, hi3, (ext_of_put hor).1, (ext_of_put hor).2, hS3, (Fr.of_below hb12 hE.size).trans hF3⟩
              clear hi3 hor hS3 hF3 hS2 hb12
              go_wp2
              go_ret3
              exact P
            · have P : ∀ w2, Below w1.heap.size w1 w2 → NumPost base b ns cs s p w (.returned (.tuple #[.int .i64 0, .int .i64 0, .bool false])) w2 := fun w2 hb2 =>
                .inl ⟨by rw [HR.out, HNO.out, if_neg (fun h => heq h.2.2)]; rfl, rfl, (hS.kept hb1).kept hb2, Fr.of_below (hb1.trans (hb2.mono hb1.size)) hE.size⟩
              have hneq : (Lib.itoa v == t.toList) = false := by rw [ByteArray.toList_eq]; exact beq_eq_false_iff_ne.2 heq
              have HP := Lib.hid P
              clear P
              go_wp2_with fail
              refine (isNumber_any v _).mono ?_
              rintro e w' ⟨rfl, rfl⟩
              go_wp2_with fail
              refine (implNumText v HB.out.1 HB.out.2 _ hE1.pow).mono ?_
              rintro e w2 ⟨rfl, hb2⟩
              have P := HP.out w2 hb2
              clear hb2 HP
              go_wp2
              go_ret3
              exact P
        · have P : ∀ w2, Below w.heap.size w w2 → NumPost base b ns cs s p w (.returned (.tuple #[.int .i64 0, .int .i64 0, .bool false])) w2 := fun w2 hb2 =>
            .inl ⟨by rw [HR.out, numOf_bad (fun v hv => hok ⟨v, hv⟩)]; rfl, rfl, hS.kept hb2, Fr.of_below hb2 hE.size⟩
          refine (atoi_bad t hts (fun v hv => hok ⟨v, hv⟩) base _ hE).mono ?_
          rintro e w1 ⟨n, a, rfl, hb1⟩
          have P := P w1 hb1
          clear hb1 hok
          go_wp2
          go_ret3
          exact P

end Go.Proofs.YtngnmfoephegmaaDoor
